/-
  Rows of rows of numbers: a row put in the place of another. Plain facts on the memory.
  A row of Hello is a slice. Plain facts.
  Greet: what it reads as, and which lies in cells of its own. Plain facts on the memory.
  A greeting by three letters: what both tell of it, in plain words.
-/
import Derived.Test.YtdlkilacnnjglaaQForm
import Derived.Test.YtdlkilacnnjglaaKHelloRows
import Derived.Test.YtdlkilacnnjglaaInts
namespace Go.Proofs.Ytdlkilacnnjglaa
open Go.RowKit

def upd {α : Type} (f : Nat → α) (i : Nat) (x : α) : Nat → α := fun j => if j = i then x else f j
theorem upd_same {α : Type} (f : Nat → α) (i : Nat) (x : α) : upd f i x i = x := if_pos rfl
theorem upd_other {α : Type} (f : Nat → α) {i j : Nat} (x : α) (h : j ≠ i) : upd f i x j = f j := if_neg h
def ivc (c : Nat × Nat) (iv : Nat → Nat × Nat) : Nat → Nat × Nat
  | 0 => c
  | j + 1 => iv j
theorem KOwn.form {lo hi : Nat} {w : World} {v : Value} {xs : List KEl} (h : KOwn lo hi w v xs) : ∃ a cap, v = .slice a xs.length cap := by
  obtain ⟨_, h⟩ := h
  rcases h with ⟨a, cap, rfl, rfl⟩ | ⟨g, cap, rfl, _⟩
  · exact ⟨a, cap, rfl⟩
  · exact ⟨_, cap, rfl⟩
theorem KOwn.sform {lo hi : Nat} {w : World} {v : Value} {xs : List KEl} (h : KOwn lo hi w v xs) : ∃ a n cap, v = .slice a n cap := by
  obtain ⟨a, cap, e⟩ := h.form
  exact ⟨a, _, cap, e⟩
theorem QRow.sform {w : World} {c : Nat × Nat} {v : Value} {xss : List (List KEl)} {iv : Nat → Nat × Nat} (h : QRow w c v xss iv) : ∃ a n cap, v = .slice a n cap := by
  obtain ⟨_, h⟩ := h
  rcases h with ⟨a, cap, rfl, rfl⟩ | ⟨B, cap, us, rfl, _⟩
  · exact ⟨a, _, cap, rfl⟩
  · exact ⟨_, _, cap, rfl⟩
theorem onlyP_set (w : World) (b k : Nat) (u : Value) : OnlyP (fun j => j = b) w (w.setCell ⟨b, k, none⟩ u) :=
  ⟨World.size_setCell _ _ _, fun j hj => Below.heap_setCell _ _ _ _ hj, by simp [World.setCell]⟩
theorem KOwn.setOther {lo hi B i : Nat} {w : World} {v u : Value} {xs : List KEl} (h : KOwn lo hi w v xs) (hB : B < lo ∨ hi ≤ B) : KOwn lo hi (w.setCell ⟨B, i, none⟩ u) v xs :=
  h.at fun g h1 h2 _ => Below.heap_setCell _ _ _ _ (by show g ≠ B; omega)
theorem QRow.set {w : World} {c : Nat × Nat} {B cap n : Nat} {xss : List (List KEl)} {iv : Nat → Nat × Nat} (h : QRow w c (.slice (some ⟨B, 0, none⟩) n cap) xss iv) (hn : xss.length = n) (i : Nat) (hi : i < n) (u : Value) (xs : List KEl) (r : Nat × Nat) (hu : KOwn r.1 r.2 w u xs)
    (hBr : B < r.1 ∨ r.2 ≤ B) (hBi : ∀ j, j < n → Dj c (iv j)) : QRow (w.setCell ⟨B, i, none⟩ u) c (.slice (some ⟨B, 0, none⟩) n cap) (xss.set i xs) (upd iv i r) := by
  obtain ⟨hl, h⟩ := h
  subst hn
  rcases h with ⟨a, cap', e, rfl⟩ | ⟨B', cap', us, e, hg, hf⟩
  · simp at hi
  · cases e
    refine ⟨by rw [List.length_set]; exact hl, .inr ⟨B, cap, upd us i u, by rw [List.length_set], by rw [List.length_set]; exact hg, fun j hj => ?_⟩⟩
    rw [List.length_set] at hj
    obtain ⟨h1, h2, h3⟩ := hf j hj
    have hfr : KFree (w.setCell ⟨B, i, none⟩ u) B j := by unfold KFree at h2 ⊢; simpa using h2
    by_cases e : j = i
    · subst e
      rw [upd_same, upd_same]
      refine ⟨World.cell?_setCell_same _ _ _ h1, hfr, ?_⟩
      have hx : (xss.set j xs).getD j [] = xs := by simp [List.getD_eq_getElem?_getD, hj]
      rw [hx]
      exact hu.setOther hBr
    · rw [upd_other _ _ e, upd_other _ _ e]
      have hx : (xss.set i xs).getD j [] = xss.getD j [] := by simp [List.getD_eq_getElem?_getD, Ne.symm e]
      rw [hx]
      refine ⟨?_, hfr, h3.setOther ?_⟩
      · rw [World.cell?_setCell_other _ _ _ _ (by simp <;> omega)]; exact h1
      · have hd : Dj c (iv j) := hBi j hj
        unfold Dj at hd
        omega
theorem QRow.cell {w : World} {c : Nat × Nat} {B cap n : Nat} {xss : List (List KEl)} {iv : Nat → Nat × Nat} (h : QRow w c (.slice (some ⟨B, 0, none⟩) n cap) xss iv) (hn : xss.length = n) (i : Nat) (hi : i < n) : ∃ u, w.cell? ⟨B, i, none⟩ = some u ∧ w.frozen? ⟨B, i, none⟩ = false ∧ (c.1 ≤ B ∧ B < c.2) ∧ KOwn (iv i).1 (iv i).2 w u (xss.getD i []) := by
  obtain ⟨_, h⟩ := h
  subst hn
  rcases h with ⟨a, cap', e, rfl⟩ | ⟨B', cap', us, e, hg, hf⟩
  · simp at hi
  · cases e
    obtain ⟨h1, h2, h3⟩ := hf i hi
    exact ⟨us i, h1, h2, ⟨hg.1, hg.2.1⟩, h3⟩
theorem Apart.put {lo hi n i : Nat} {c r : Nat × Nat} {iv : Nat → Nat × Nat} {hi' : Nat} (h : Apart lo hi (n + 1) (ivc c iv)) (hr : hi ≤ r.1 ∧ r.1 ≤ r.2 ∧ r.2 ≤ hi') (hi2 : i < n) : Apart lo hi' (n + 1) (ivc c (upd iv i r)) := by
  have hlo : lo ≤ hi := by have := h.inn 0 (by omega); omega
  refine ⟨fun j hj => ?_, fun j k hj hk hne => ?_⟩
  · rcases j with _ | j
    · have := h.inn 0 (by omega); simp only [ivc] at this ⊢; omega
    · by_cases e : j = i
      · subst e; simp only [ivc, upd_same]; omega
      · have := h.inn (j + 1) hj; simp only [ivc] at this; simp only [ivc, upd_other _ _ e]; omega
  · have a1 := h.inn j hj
    have a2 := h.inn k hk
    rcases j with _ | j
    · rcases k with _ | k
      · exact absurd rfl hne
      · by_cases e : k = i
        · subst e; simp only [ivc, upd_same] at a1 ⊢; unfold Dj; omega
        · have := h.dj 0 (k + 1) hj hk hne; simp only [ivc] at this; simpa only [ivc, upd_other _ _ e] using this
    · rcases k with _ | k
      · by_cases e : j = i
        · subst e; simp only [ivc, upd_same] at a2 ⊢; unfold Dj; omega
        · have := h.dj (j + 1) 0 hj hk hne; simp only [ivc] at this; simpa only [ivc, upd_other _ _ e] using this
      · by_cases e : j = i
        · by_cases e2 : k = i
          · omega
          · subst e; simp only [ivc, upd_same, upd_other _ _ e2] at a2 ⊢; unfold Dj; omega
        · by_cases e2 : k = i
          · subst e2; simp only [ivc, upd_same, upd_other _ _ e] at a1 ⊢; unfold Dj; omega
          · have := h.dj (j + 1) (k + 1) hj hk hne; simp only [ivc] at this; simpa only [ivc, upd_other _ _ e, upd_other _ _ e2] using this
theorem Apart.rows {lo hi n : Nat} {c : Nat × Nat} {iv : Nat → Nat × Nat} (h : Apart lo hi (n + 1) (ivc c iv)) : ∀ j, j < n → Dj c (iv j) := fun j hj => h.dj 0 (j + 1) (by omega) (by omega) (by omega)
/-- The first rows of xss, the others empty. -/
def qpart (xss : List (List KEl)) (i : Nat) : List (List KEl) := (List.range xss.length).map fun j => if j < i then xss.getD j [] else []
theorem length_qpart (xss : List (List KEl)) (i : Nat) : (qpart xss i).length = xss.length := by simp [qpart]
theorem qpart_get (xss : List (List KEl)) (i j : Nat) (hj : j < xss.length) : (qpart xss i).getD j [] = if j < i then xss.getD j [] else [] := by simp [qpart, List.getD_eq_getElem?_getD, hj]
theorem qpart_all (xss : List (List KEl)) : qpart xss xss.length = xss := by
  apply List.ext_getElem
  · simp [qpart]
  · intro j h1 h2
    simp [qpart, h2, List.getD_eq_getElem?_getD]
theorem qpart_succ (xss : List (List KEl)) (i : Nat) : (qpart xss i).set i (xss.getD i []) = qpart xss (i + 1) := by
  apply List.ext_getElem
  · simp [qpart]
  · intro j h1 h2
    have hj : j < xss.length := by simpa [qpart] using h2
    by_cases e : i = j
    · subst e; simp [qpart]
    · rw [List.getElem_set_ne e]
      simp only [qpart, List.getElem_map, List.getElem_range]
      by_cases hlt : j < i
      · rw [if_pos hlt, if_pos (by omega)]
      · rw [if_neg hlt, if_neg (by omega)]
theorem KOwn.to {lo hi lo' hi' : Nat} {w : World} {v : Value} {xs : List KEl} (h : KOwn lo hi w v xs) (h1 : lo' ≤ lo) (h2 : hi ≤ hi') : KOwn lo' hi' w v xs := h.mono h1 h2
end Go.Proofs.Ytdlkilacnnjglaa
namespace Go.Proofs.Ytdlkilacnnjglaa
open Go.RowKit

theorem HeOwn.sform {lo hi : Nat} {w : World} {v : Value} {xs : List HeEl} (h : HeOwn lo hi w v xs) : ∃ a n k, v = .slice a n k := by
  rcases h.2 with ⟨a, cap, rfl, _⟩ | ⟨g, cap, rfl, _⟩
  · exact ⟨_, _, _, rfl⟩
  · exact ⟨_, _, _, rfl⟩
theorem HeOwn.onlyP {lo hi : Nat} {w w' : World} {v : Value} {xs : List HeEl} {P : Nat → Prop} (h : HeOwn lo hi w v xs) (ho : OnlyP P w w') (hd : ∀ g, lo ≤ g → g < hi → ¬ P g) : HeOwn lo hi w' v xs := h.at fun g h1 h2 _ => ho.2.1 g (hd g h1 h2)
theorem HeOwn.onlyS {lo hi : Nat} {S : Nat → Prop} {w w' : World} {v : Value} {xs : List HeEl} (h : HeOwn lo hi w v xs) (ho : OnlyS S w w') (hd : ∀ g, lo ≤ g → g < hi → ¬ S g) : HeOwn lo hi w' v xs := h.at fun g h1 h2 h3 => ho g h3 (hd g h1 h2)
end Go.Proofs.Ytdlkilacnnjglaa
namespace Go.Proofs.Ytdlkilacnnjglaa
open Go.RowKit

structure GrD where
  f0 : Int
  f1 : Int
  f2 : Int
  f3 : Int
  f4 : Int
  f5 : Int
  f6 : Int
  f7 : Int
  f8 : List HeEl
  f9 : List HeEl
  f10 : List HeEl
def GrReads (w : World) (v : Value) (D : GrD) : Prop := ∃ v8 v9 v10, v = .agg #[.int .i64 D.f0, .int .i64 D.f1, .int .i64 D.f2, .int .i64 D.f3, .int .i64 D.f4, .int .i64 D.f5, .int .i64 D.f6, .int .i64 D.f7, v8, v9, v10] ∧ HeReads w v8 D.f8 ∧ HeReads w v9 D.f9 ∧ HeReads w v10 D.f10
def grIv (c8 c9 c10 : Nat × Nat) : Nat → Nat × Nat
  | 0 => c8
  | 1 => c9
  | 2 => c10
  | _ => (0, 0)
def GrOwn (S : Nat → Prop) (w : World) (v : Value) (D : GrD) : Prop := ∃ v8 v9 v10 c8 c9 c10, v = .agg #[.int .i64 D.f0, .int .i64 D.f1, .int .i64 D.f2, .int .i64 D.f3, .int .i64 D.f4, .int .i64 D.f5, .int .i64 D.f6, .int .i64 D.f7, v8, v9, v10] ∧ Aset S (3) (grIv c8 c9 c10) ∧ HeOwn c8.1 c8.2 w v8 D.f8 ∧ HeOwn c9.1 c9.2 w v9 D.f9 ∧ HeOwn c10.1 c10.2 w v10 D.f10
theorem GrOwn.reads {S : Nat → Prop} {w : World} {v : Value} {D : GrD} (h : GrOwn S w v D) : GrReads w v D := by
  obtain ⟨v8, v9, v10, c8, c9, c10, rfl, _, h8, h9, h10⟩ := h
  exact ⟨v8, v9, v10, rfl, h8.reads, h9.reads, h10.reads⟩
theorem GrOwn.mono {S S' : Nat → Prop} {w : World} {v : Value} {D : GrD} (h : GrOwn S w v D) (hs : ∀ g, S g → S' g) : GrOwn S' w v D := by
  obtain ⟨v8, v9, v10, c8, c9, c10, rfl, ha, hr⟩ := h
  exact ⟨v8, v9, v10, c8, c9, c10, rfl, ha.mono hs, hr⟩
theorem GrOwn.at {S : Nat → Prop} {w w' : World} {v : Value} {D : GrD} (h : GrOwn S w v D) (hk : ∀ g, S g → g < w.heap.size → w'.heap[g]? = w.heap[g]?) : GrOwn S w' v D := by
  obtain ⟨v8, v9, v10, c8, c9, c10, rfl, ha, h8, h9, h10⟩ := h
  have n8 := ha.inn 0 (by omega)
  have n9 := ha.inn 1 (by omega)
  have n10 := ha.inn 2 (by omega)
  exact ⟨v8, v9, v10, c8, c9, c10, rfl, ha, h8.at fun g g1 g2 g3 => hk g (n8.2 g g1 g2) g3, h9.at fun g g1 g2 g3 => hk g (n9.2 g g1 g2) g3, h10.at fun g g1 g2 g3 => hk g (n10.2 g g1 g2) g3⟩
theorem GrOwn.below {S : Nat → Prop} {w w' : World} {v : Value} {D : GrD} (h : GrOwn S w v D) (hb : Below w.heap.size w w') : GrOwn S w' v D := h.at fun g _ hg => hb.block g hg
theorem GrOwn.onlyS {S S' : Nat → Prop} {w w' : World} {v : Value} {D : GrD} (h : GrOwn S w v D) (ho : OnlyS S' w w') (hd : ∀ g, S g → S' g → False) : GrOwn S w' v D := h.at fun g h1 h2 => ho g h2 (hd g h1)
theorem GrOwn.form {S : Nat → Prop} {w : World} {v : Value} {D : GrD} (h : GrOwn S w v D) : ∃ a8 n8 k8 a9 n9 k9 a10 n10 k10, v = .agg #[.int .i64 D.f0, .int .i64 D.f1, .int .i64 D.f2, .int .i64 D.f3, .int .i64 D.f4, .int .i64 D.f5, .int .i64 D.f6, .int .i64 D.f7, .slice a8 n8 k8, .slice a9 n9 k9, .slice a10 n10 k10] := by
  obtain ⟨v8, v9, v10, c8, c9, c10, rfl, _, h8, h9, h10⟩ := h
  obtain ⟨a8, n8, k8, rfl⟩ := h8.sform
  obtain ⟨a9, n9, k9, rfl⟩ := h9.sform
  obtain ⟨a10, n10, k10, rfl⟩ := h10.sform
  exact ⟨a8, n8, k8, a9, n9, k9, a10, n10, k10, rfl⟩
theorem GrReads.below {w w' : World} {v : Value} {D : GrD} (h : GrReads w v D) (hb : Below w.heap.size w w') : GrReads w' v D := by
  obtain ⟨v8, v9, v10, rfl, h8, h9, h10⟩ := h
  exact ⟨v8, v9, v10, rfl, h8.below hb, h9.below hb, h10.below hb⟩
/-- How many numbers lie in its rows. -/
def grN (D : GrD) : Nat := 3 * D.f8.length + 3 * D.f9.length + 3 * D.f10.length
def grTot (D : GrD) : Nat := D.f8.length + D.f9.length + D.f10.length
end Go.Proofs.Ytdlkilacnnjglaa
namespace Go.Proofs.Ytdlkilacnnjglaa

/-- A number that was given. -/
def gvn (n last : Int) : Bool := decide (1 ≤ n ∧ n ≤ last)
/-- A number that was given, or 0 where it must be. -/
def gv0 (n last : Int) (z : Bool) : Bool := if z then decide (n = 0) else gvn n last
def letB (X Y : Int) (h : HeEl) : Bool := decide (1 ≤ h.1 ∧ h.1 ≤ 3) && (gv0 h.2.1 X false && gv0 h.2.2 Y (decide (h.1 = 1)))
def ackB (X Y : Int) (h : HeEl) : Bool := decide (h.1 = 3) && letB X Y h
/-- What a greeting's two sides and its numbers must be. -/
def numsB (s t x y ox oy lx ly : Int) (n a b : Nat) (r : Bool) : Bool :=
  decide (0 ≤ s ∧ s ≤ 2) && (decide (0 ≤ t ∧ t ≤ 2) && (decide (0 ≤ lx ∧ lx ≤ 1000) && (decide (0 ≤ ly ∧ ly ≤ 1000) && (decide (n ≤ 30) && (decide (a ≤ 300) && (decide (b ≤ 300) &&
  (gv0 x lx (decide (s = 0)) && (gv0 oy ly (decide (s < 2)) && (gv0 ox lx (decide (t = 0)) && (gv0 y ly (decide (t = 0)) && r))))))))))
def goodG (D : GrD) : Bool := numsB D.f0 D.f1 D.f2 D.f3 D.f4 D.f5 D.f6 D.f7 D.f8.length D.f9.length D.f10.length (D.f8.all (letB D.f6 D.f7) && (D.f9 ++ D.f10).all (ackB D.f6 D.f7))
def sideA (D : GrD) : Bool := decide (0 ≤ D.f0 ∧ D.f0 ≤ 2) && (gv0 D.f2 D.f6 (decide (D.f0 = 0)) && gv0 D.f5 D.f7 (decide (D.f0 < 2)))
def sideB (D : GrD) : Bool := decide (0 ≤ D.f1 ∧ D.f1 ≤ 2) && (gv0 D.f4 D.f6 (decide (D.f1 = 0)) && gv0 D.f3 D.f7 (decide (D.f1 = 0)))
def fitsB (D : GrD) : Bool := decide (D.f8.length ≤ 30) && (decide (D.f9.length ≤ 300) && decide (D.f10.length ≤ 300))
/-- The same in another order. -/
theorem goodG_order (D : GrD) : goodG D = (decide (0 ≤ D.f6) && (decide (D.f6 ≤ 1000) && (decide (0 ≤ D.f7) && (decide (D.f7 ≤ 1000) && (fitsB D && (sideA D && (sideB D && (D.f8.all (letB D.f6 D.f7) && (D.f9.all (ackB D.f6 D.f7) && D.f10.all (ackB D.f6 D.f7)))))))))) := by
  rw [Bool.eq_iff_iff]
  simp only [goodG, numsB, sideA, sideB, fitsB, Bool.and_eq_true, decide_eq_true_eq, List.all_append]
  constructor
  · rintro ⟨h1, h2, h3, h4, h5, h6, h7, h8, h9, h10, h11, h12, h13, h14⟩
    exact ⟨h3.1, h3.2, h4.1, h4.2, ⟨h5, h6, h7⟩, ⟨h1, h8, h9⟩, ⟨h2, h10, h11⟩, h12, h13, h14⟩
  · rintro ⟨h3, h3', h4, h4', ⟨h5, h6, h7⟩, ⟨h1, h8, h9⟩, ⟨h2, h10, h11⟩, h12, h13, h14⟩
    exact ⟨h1, h2, ⟨h3, h3'⟩, ⟨h4, h4'⟩, h5, h6, h7, h8, h9, h10, h11, h12, h13, h14⟩
def bothB (D : GrD) : Bool := decide (D.f0 = 2) && (decide (D.f1 = 2) && (decide (D.f2 = D.f4) && decide (D.f3 = D.f5)))
end Go.Proofs.Ytdlkilacnnjglaa
