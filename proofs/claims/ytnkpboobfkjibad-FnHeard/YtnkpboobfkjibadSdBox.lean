/-
  Senders in a box: put there, told from there. Plain facts on the memory.
  A sender in blocks from some place on: plain facts on the memory.
  A row of numbers to which one may append: in blocks of its own, or with no room at all. Plain facts on the memory.
  Senders in memory of their own, to whose lost ones one may append: plain facts on the memory.
  slices.Clone of numbers: the same numbers in memory of its own. Nothing old is written.
-/
import Derived.Test.YtnkpboobfkjibadFlowFns
import Derived.Test.YtnkpboobfkjibadQForm
import Derived.Test.YtnkpboobfkjibadBut5
import Derived.Lib.SlFresh
namespace Go.Proofs.Ytnkpboobfkjibad
open Go.RowKit

theorem three_put {V : World} {b : Nat} {a0 a1 a2 : Value} (h : BoxL V b [a0, a1, a2]) (u0 u1 u2 : Value) : BoxL (((V.setCell ⟨b, 0, none⟩ u0).setCell ⟨b, 1, none⟩ u1).setCell ⟨b, 2, none⟩ u2) b [u0, u1, u2] := ((h.set 0 (by simp) u0).set 1 (by simp) u1).set 2 (by simp) u2
theorem three_only (V : World) (b : Nat) (u0 u1 u2 : Value) : OnlyP (fun j => j = b) V (((V.setCell ⟨b, 0, none⟩ u0).setCell ⟨b, 1, none⟩ u1).setCell ⟨b, 2, none⟩ u2) := (((OnlyP.refl _ _).trans (onlyP_set _ _ _ _)).trans (onlyP_set _ _ _ _)).trans (onlyP_set _ _ _ _)
theorem three_below {lo b : Nat} (V : World) (u0 u1 u2 : Value) (h : lo ≤ b) : Below lo V (((V.setCell ⟨b, 0, none⟩ u0).setCell ⟨b, 1, none⟩ u1).setCell ⟨b, 2, none⟩ u2) := (three_only V b u0 u1 u2).below fun j e => by omega
theorem BoxL.form3 {w : World} {b : Nat} {a0 a1 a2 : Value} (h : BoxL w b [a0, a1, a2]) : (w.cell? ⟨b, 0, none⟩ = some a0 ∧ w.frozen? ⟨b, 0, none⟩ = false) ∧ (w.cell? ⟨b, 1, none⟩ = some a1 ∧ w.frozen? ⟨b, 1, none⟩ = false) ∧ (w.cell? ⟨b, 2, none⟩ = some a2 ∧ w.frozen? ⟨b, 2, none⟩ = false) := ⟨h.2 0 (by simp), h.2 1 (by simp), h.2 2 (by simp)⟩
theorem SdOwn.mk2 {S : Nat → Prop} {w : World} {v1 v2 : Value} {D : SdD} {c1 c2 : Nat × Nat} (h1 : SpOwn c1.1 c1.2 w v1 D.f1) (h2 : KOwn c2.1 c2.2 w v2 D.f2) (l1 : c1.1 ≤ c1.2) (l2 : c2.1 ≤ c2.2) (s1 : ∀ g, c1.1 ≤ g → g < c1.2 → S g) (s2 : ∀ g, c2.1 ≤ g → g < c2.2 → S g) (hd : Dj c1 c2) : SdOwn S w (.agg #[.int .i64 D.f0, v1, v2]) D := by
  refine ⟨_, _, c1, c2, rfl, ⟨fun i hi => ?_, fun i j hi hj hne => ?_⟩, h1, h2⟩
  · rcases i with _ | _ | i
    · exact ⟨l1, s1⟩
    · exact ⟨l2, s2⟩
    · omega
  · rcases i with _ | _ | i <;> rcases j with _ | _ | j
    · omega
    · exact hd
    · omega
    · exact hd.symm
    · omega
    · omega
    · omega
    · omega
    · omega
theorem sdOwn_bare (S : Nat → Prop) (w : World) (n : Int) : SdOwn S w (.agg #[.int .i64 n, .slice none 0 0, .slice none 0 0]) ⟨n, [], []⟩ :=
  SdOwn.mk2 (D := ⟨n, [], []⟩) (c1 := (0, 0)) (c2 := (0, 0)) (spown_nil _ _ _ _ _) (kown_nil _ _ _ _ _) (Nat.le_refl _) (Nat.le_refl _) (fun g _ h => absurd h (by simp)) (fun g _ h => absurd h (by simp)) (.inl (Nat.le_refl _))
theorem sd_leaf {w V : World} {b lo hi n1 k1 n2 k2 : Nat} {a1 a2 : Option Addr} {z : Int} {X : SdD} {x0 x1 x2 : Value} (PR : BoxL V b [x0, x1, x2]) (B : Below w.heap.size w V) (hb : w.heap.size ≤ b) (O : SdOwn (Iv lo hi) V (.agg #[.int .i64 z, .slice a1 n1 k1, .slice a2 n2 k2]) X) (hlo : w.heap.size ≤ lo) (hhi : hi ≤ V.heap.size) (hbS : b < lo ∨ hi ≤ b) :
    SdOwn (Iv w.heap.size (((V.setCell ⟨b, 0, none⟩ (.int .i64 z)).setCell ⟨b, 1, none⟩ (.slice a1 n1 k1)).setCell ⟨b, 2, none⟩ (.slice a2 n2 k2)).heap.size) (((V.setCell ⟨b, 0, none⟩ (.int .i64 z)).setCell ⟨b, 1, none⟩ (.slice a1 n1 k1)).setCell ⟨b, 2, none⟩ (.slice a2 n2 k2)) (.agg #[.int .i64 z, .slice a1 n1 k1, .slice a2 n2 k2]) X ∧ Below w.heap.size w (((V.setCell ⟨b, 0, none⟩ (.int .i64 z)).setCell ⟨b, 1, none⟩ (.slice a1 n1 k1)).setCell ⟨b, 2, none⟩ (.slice a2 n2 k2)) ∧
    ((((V.setCell ⟨b, 0, none⟩ (.int .i64 z)).setCell ⟨b, 1, none⟩ (.slice a1 n1 k1)).setCell ⟨b, 2, none⟩ (.slice a2 n2 k2)).cell? ⟨b, 0, none⟩ = some (.int .i64 z) ∧ (((V.setCell ⟨b, 0, none⟩ (.int .i64 z)).setCell ⟨b, 1, none⟩ (.slice a1 n1 k1)).setCell ⟨b, 2, none⟩ (.slice a2 n2 k2)).cell? ⟨b, 1, none⟩ = some (.slice a1 n1 k1) ∧ (((V.setCell ⟨b, 0, none⟩ (.int .i64 z)).setCell ⟨b, 1, none⟩ (.slice a1 n1 k1)).setCell ⟨b, 2, none⟩ (.slice a2 n2 k2)).cell? ⟨b, 2, none⟩ = some (.slice a2 n2 k2)) := by
  have o := three_only V b (.int .i64 z) (.slice a1 n1 k1) (.slice a2 n2 k2)
  refine ⟨?_, B.trans (three_below V _ _ _ hb), (three_put PR _ _ _).three⟩
  refine (O.at fun g hg _ => o.2.1 g (by rintro rfl; unfold Iv at hg; omega)).mono fun g hg => ?_
  rw [o.1]
  unfold Iv at hg ⊢
  omega
theorem box_three {w : World} (x0 x1 x2 : Value) (t : TypeId) : BoxL (w.alloc (.cells #[x0, x1, x2] t)) w.heap.size [x0, x1, x2] ∧ Below w.heap.size w (w.alloc (.cells #[x0, x1, x2] t)) ∧ (w.alloc (.cells #[x0, x1, x2] t)).heap.size = w.heap.size + 1 := ⟨boxL_new w [x0, x1, x2] t, (Below.refl _ _).alloc (Nat.le_refl _) _, World.size_alloc _ _⟩
end Go.Proofs.Ytnkpboobfkjibad
namespace Go.Proofs.Ytnkpboobfkjibad
open Go.RowKit

def SdNew (lo : Nat) (w : World) (v : Value) (D : SdD) : Prop := ∃ (v1 v2 : Value) (c1 c2 : Nat × Nat), v = .agg #[.int .i64 D.f0, v1, v2] ∧ SpOwn c1.1 c1.2 w v1 D.f1 ∧ KOwn c2.1 c2.2 w v2 D.f2 ∧ lo ≤ c1.1 ∧ lo ≤ c2.1
theorem SdNew.reads {lo : Nat} {w : World} {v : Value} {D : SdD} (h : SdNew lo w v D) : SdReads w v D := by
  obtain ⟨v1, v2, c1, c2, rfl, h1, h2, _⟩ := h
  exact ⟨v1, v2, rfl, h1.reads, h2.reads⟩
theorem SdNew.at {lo : Nat} {w w' : World} {v : Value} {D : SdD} (h : SdNew lo w v D) (hk : ∀ g, lo ≤ g → g < w.heap.size → w'.heap[g]? = w.heap[g]?) : SdNew lo w' v D := by
  obtain ⟨v1, v2, c1, c2, rfl, h1, h2, l1, l2⟩ := h
  exact ⟨v1, v2, c1, c2, rfl, h1.at fun g g1 _ g3 => hk g (Nat.le_trans l1 g1) g3, h2.at fun g g1 _ g3 => hk g (Nat.le_trans l2 g1) g3, l1, l2⟩
theorem SdNew.below {lo : Nat} {w w' : World} {v : Value} {D : SdD} (h : SdNew lo w v D) (hb : Below w.heap.size w w') : SdNew lo w' v D := h.at fun g _ hg => hb.block g hg
theorem SdNew.mono {lo lo' : Nat} {w : World} {v : Value} {D : SdD} (h : SdNew lo w v D) (hl : lo' ≤ lo) : SdNew lo' w v D := by
  obtain ⟨v1, v2, c1, c2, rfl, h1, h2, l1, l2⟩ := h
  exact ⟨v1, v2, c1, c2, rfl, h1, h2, Nat.le_trans hl l1, Nat.le_trans hl l2⟩
theorem SdNew.form {lo : Nat} {w : World} {v : Value} {D : SdD} (h : SdNew lo w v D) : ∃ a1 n1 k1 a2 n2 k2, v = .agg #[.int .i64 D.f0, .slice a1 n1 k1, .slice a2 n2 k2] := by
  obtain ⟨v1, v2, c1, c2, rfl, h1, h2, _⟩ := h
  obtain ⟨a1, n1, k1, rfl⟩ := h1.sform
  obtain ⟨a2, n2, k2, rfl⟩ := h2.sform
  exact ⟨a1, n1, k1, a2, n2, k2, rfl⟩
theorem SdNew.of_own {S : Nat → Prop} {lo : Nat} {w : World} {v : Value} {D : SdD} (h : SdOwn S w v D) (hs : ∀ g, S g → lo ≤ g) : SdNew lo w v D := by
  obtain ⟨v1, v2, c1, c2, rfl, ha, h1, h2⟩ := h
  have n1 := ha.inn 0 (by omega)
  have n2 := ha.inn 1 (by omega)
  have f1 : SpOwn (max lo c1.1) c1.2 w v1 D.f1 := by
    rcases h1.2 with h | ⟨g, cap, e, hg, hr⟩
    · exact ⟨h1.1, .inl h⟩
    · exact ⟨h1.1, .inr ⟨g, cap, e, ⟨by have := hs g (n1.2 g hg.1 hg.2.1); omega, hg.2⟩, hr⟩⟩
  have f2 : KOwn (max lo c2.1) c2.2 w v2 D.f2 := by
    rcases h2.2 with h | ⟨g, cap, e, hg, hr⟩
    · exact ⟨h2.1, .inl h⟩
    · exact ⟨h2.1, .inr ⟨g, cap, e, ⟨by have := hs g (n2.2 g hg.1 hg.2.1); omega, hg.2⟩, hr⟩⟩
  exact ⟨v1, v2, (max lo c1.1, c1.2), (max lo c2.1, c2.2), rfl, f1, f2, by show lo ≤ max lo c1.1; omega, by show lo ≤ max lo c2.1; omega⟩
end Go.Proofs.Ytnkpboobfkjibad
namespace Go.Proofs.Ytnkpboobfkjibad
open Go.RowKit

def KApp (lo hi : Nat) (w : World) (v : Value) (xs : List Int) : Prop := (xs = [] ∧ ∃ a, v = .slice a 0 0) ∨ (w.ownsRow lo 3 1 v xs.length (kflat xs) ∧ ∀ g, v.ownBlock = some g → g < hi)
theorem owns_at1 {w w' : World} {base : Nat} {t : TypeId} {size n : Nat} {v : Value} {cs : List Value} (h : w.ownsRow base t size v n cs) (e : ∀ g, v.ownBlock = some g → base ≤ g → g < w.heap.size → w'.heap[g]? = w.heap[g]?) : w'.ownsRow base t size v n cs := by
  refine ⟨h.1, ?_⟩
  rcases h.2 with h2 | ⟨g, cap, cur, rfl, hb, hh, hr⟩
  · exact .inl h2
  · have hlt : g < w.heap.size := by
      by_cases hg : g < w.heap.size
      · exact hg
      · rw [Array.getElem?_eq_none (by omega)] at hh; cases hh
    exact .inr ⟨g, cap, cur, rfl, hb, (e g rfl hb hlt).trans hh, hr⟩
theorem KApp.at {lo hi : Nat} {w w' : World} {v : Value} {xs : List Int} (h : KApp lo hi w v xs) (hk : ∀ g, lo ≤ g → g < hi → g < w.heap.size → w'.heap[g]? = w.heap[g]?) : KApp lo hi w' v xs := by
  rcases h with h | ⟨h1, h2⟩
  · exact .inl h
  · exact .inr ⟨owns_at1 h1 fun g e hb hl => hk g hb (h2 g e) hl, h2⟩
theorem KApp.below {lo hi : Nat} {w w' : World} {v : Value} {xs : List Int} (h : KApp lo hi w v xs) (hb : Below w.heap.size w w') : KApp lo hi w' v xs := h.at fun g _ _ hg => hb.block g hg
theorem KApp.onlyP {lo hi : Nat} {w w' : World} {v : Value} {xs : List Int} {P : Nat → Prop} (h : KApp lo hi w v xs) (ho : OnlyP P w w') (hd : ∀ g, lo ≤ g → g < hi → ¬ P g) : KApp lo hi w' v xs := h.at fun g h1 h2 _ => ho.2.1 g (hd g h1 h2)
theorem KApp.of_owns {w : World} {base : Nat} {v : Value} {n : Nat} {xs : List Int} (h : w.ownsRow base 3 1 v n (kflat xs)) (hn : n = xs.length) : KApp base w.heap.size w v xs := by
  subst hn
  refine .inr ⟨h, fun g e => ?_⟩
  rcases h.2 with ⟨rfl, _⟩ | ⟨g', cap, cur, rfl, hb, hh, hr⟩
  · cases e
  · simp only [Value.ownBlock, Option.some.injEq] at e
    subst e
    by_cases hg : g' < w.heap.size
    · exact hg
    · rw [Array.getElem?_eq_none (by omega)] at hh; cases hh
/-- To each row of a row of rows one may append. -/
def QAppd (w : World) (v : Value) (xss : List (List Int)) (iv : Nat → Nat × Nat) : Prop := ∀ B n cap, v = .slice (some ⟨B, 0, none⟩) n cap → ∀ i, i < xss.length → ∀ u, w.cell? ⟨B, i, none⟩ = some u → KApp (iv i).1 (iv i).2 w u (xss.getD i [])
theorem QAppd.below {w w' : World} {c : Nat × Nat} {v : Value} {xss : List (List Int)} {iv : Nat → Nat × Nat} (h : QAppd w v xss iv) (hq : QRow w c v xss iv) (hb : Below w.heap.size w w') : QAppd w' v xss iv := by
  intro B n cap e i hi u hc
  obtain ⟨_, hq⟩ := hq
  rcases hq with ⟨a', cap', e', e''⟩ | ⟨B', cap', us, e', hg', hf⟩
  · rw [e''] at hi; simp at hi
  · rw [e] at e'
    cases e'
    have hlt := lt_of_cell (hf i hi).1
    rw [World.cell?_of_block (a := ⟨B, i, none⟩) (hb.block B hlt)] at hc
    exact (h B _ _ e i hi u hc).below hb
theorem qmade_app (w : World) (n : Nat) (xss : List (List Int)) (hx : xss.length = n) : QAppd (w.alloc (.cells (madeCells #[.slice none 0 0] n) 23)) (.slice (some ⟨w.heap.size, 0, none⟩) n n) (qpart xss 0) (fun _ => (w.heap.size + 1, w.heap.size + 1)) := by
  intro B m cap e i hi u hc
  cases e
  rw [length_qpart] at hi
  rw [World.cell?_alloc_new] at hc
  have hu : u = .slice none 0 0 := by
    have hlt : i < n := by omega
    simp [madeCells, hlt, Nat.mod_one] at hc
    exact hc.symm
  rw [qpart_get _ _ _ hi, if_neg (by omega), hu]
  exact .inl ⟨rfl, _, rfl⟩
end Go.Proofs.Ytnkpboobfkjibad
namespace Go.Proofs.Ytnkpboobfkjibad
open Go.RowKit

def SdOwnA (S : Nat → Prop) (w : World) (v : Value) (D : SdD) : Prop := ∃ v1 v2 c1 c2, v = .agg #[.int .i64 D.f0, v1, v2] ∧ Aset S (2) (sdIv c1 c2) ∧ SpOwn c1.1 c1.2 w v1 D.f1 ∧ KOwn c2.1 c2.2 w v2 D.f2 ∧ KApp c2.1 c2.2 w v2 D.f2
theorem SdOwnA.own {S : Nat → Prop} {w : World} {v : Value} {D : SdD} (h : SdOwnA S w v D) : SdOwn S w v D := by
  obtain ⟨v1, v2, c1, c2, rfl, ha, h1, h2, _⟩ := h
  exact ⟨v1, v2, c1, c2, rfl, ha, h1, h2⟩
theorem SdOwnA.mono {S S' : Nat → Prop} {w : World} {v : Value} {D : SdD} (h : SdOwnA S w v D) (hs : ∀ g, S g → S' g) : SdOwnA S' w v D := by
  obtain ⟨v1, v2, c1, c2, rfl, ha, hr⟩ := h
  exact ⟨v1, v2, c1, c2, rfl, ha.mono hs, hr⟩
theorem SdOwnA.at {S : Nat → Prop} {w w' : World} {v : Value} {D : SdD} (h : SdOwnA S w v D) (hk : ∀ g, S g → g < w.heap.size → w'.heap[g]? = w.heap[g]?) : SdOwnA S w' v D := by
  obtain ⟨v1, v2, c1, c2, rfl, ha, h1, h2, h3⟩ := h
  have n1 := ha.inn 0 (by omega)
  have n2 := ha.inn 1 (by omega)
  exact ⟨v1, v2, c1, c2, rfl, ha, h1.at fun g g1 g2 g3 => hk g (n1.2 g g1 g2) g3, h2.at fun g g1 g2 g3 => hk g (n2.2 g g1 g2) g3, h3.at fun g g1 g2 g3 => hk g (n2.2 g g1 g2) g3⟩
theorem SdOwnA.below {S : Nat → Prop} {w w' : World} {v : Value} {D : SdD} (h : SdOwnA S w v D) (hb : Below w.heap.size w w') : SdOwnA S w' v D := h.at fun g _ hg => hb.block g hg
theorem SdOwnA.form {S : Nat → Prop} {w : World} {v : Value} {D : SdD} (h : SdOwnA S w v D) : ∃ a1 n1 k1 a2 n2 k2, v = .agg #[.int .i64 D.f0, .slice a1 n1 k1, .slice a2 n2 k2] := h.own.form
theorem SdOwnA.mk2 {S : Nat → Prop} {w : World} {v1 v2 : Value} {D : SdD} {c1 c2 : Nat × Nat} (h1 : SpOwn c1.1 c1.2 w v1 D.f1) (h2 : KOwn c2.1 c2.2 w v2 D.f2) (h3 : KApp c2.1 c2.2 w v2 D.f2) (l1 : c1.1 ≤ c1.2) (l2 : c2.1 ≤ c2.2) (s1 : ∀ g, c1.1 ≤ g → g < c1.2 → S g) (s2 : ∀ g, c2.1 ≤ g → g < c2.2 → S g) (hd : Dj c1 c2) : SdOwnA S w (.agg #[.int .i64 D.f0, v1, v2]) D := by
  refine ⟨_, _, c1, c2, rfl, ⟨fun i hi => ?_, fun i j hi hj hne => ?_⟩, h1, h2, h3⟩
  · rcases i with _ | _ | i
    · exact ⟨l1, s1⟩
    · exact ⟨l2, s2⟩
    · omega
  · rcases i with _ | _ | i <;> rcases j with _ | _ | j
    · omega
    · exact hd
    · omega
    · exact hd.symm
    · omega
    · omega
    · omega
    · omega
    · omega
theorem sdOwnA_bare (S : Nat → Prop) (w : World) (n : Int) : SdOwnA S w (.agg #[.int .i64 n, .slice none 0 0, .slice none 0 0]) ⟨n, [], []⟩ :=
  SdOwnA.mk2 (D := ⟨n, [], []⟩) (c1 := (0, 0)) (c2 := (0, 0)) (spown_nil _ _ _ _ _) (kown_nil _ _ _ _ _) (.inl ⟨rfl, _, rfl⟩) (Nat.le_refl _) (Nat.le_refl _) (fun g _ h => absurd h (by simp)) (fun g _ h => absurd h (by simp)) (.inl (Nat.le_refl _))
theorem sd_leafA {w V : World} {b lo hi n1 k1 n2 k2 : Nat} {a1 a2 : Option Addr} {z : Int} {X : SdD} {x0 x1 x2 : Value} (PR : BoxL V b [x0, x1, x2]) (B : Below w.heap.size w V) (hb : w.heap.size ≤ b) (O : SdOwnA (Iv lo hi) V (.agg #[.int .i64 z, .slice a1 n1 k1, .slice a2 n2 k2]) X) (hlo : w.heap.size ≤ lo) (hhi : hi ≤ V.heap.size) (hbS : b < lo ∨ hi ≤ b) :
    SdOwnA (Iv w.heap.size (((V.setCell ⟨b, 0, none⟩ (.int .i64 z)).setCell ⟨b, 1, none⟩ (.slice a1 n1 k1)).setCell ⟨b, 2, none⟩ (.slice a2 n2 k2)).heap.size) (((V.setCell ⟨b, 0, none⟩ (.int .i64 z)).setCell ⟨b, 1, none⟩ (.slice a1 n1 k1)).setCell ⟨b, 2, none⟩ (.slice a2 n2 k2)) (.agg #[.int .i64 z, .slice a1 n1 k1, .slice a2 n2 k2]) X ∧ Below w.heap.size w (((V.setCell ⟨b, 0, none⟩ (.int .i64 z)).setCell ⟨b, 1, none⟩ (.slice a1 n1 k1)).setCell ⟨b, 2, none⟩ (.slice a2 n2 k2)) ∧
    ((((V.setCell ⟨b, 0, none⟩ (.int .i64 z)).setCell ⟨b, 1, none⟩ (.slice a1 n1 k1)).setCell ⟨b, 2, none⟩ (.slice a2 n2 k2)).cell? ⟨b, 0, none⟩ = some (.int .i64 z) ∧ (((V.setCell ⟨b, 0, none⟩ (.int .i64 z)).setCell ⟨b, 1, none⟩ (.slice a1 n1 k1)).setCell ⟨b, 2, none⟩ (.slice a2 n2 k2)).cell? ⟨b, 1, none⟩ = some (.slice a1 n1 k1) ∧ (((V.setCell ⟨b, 0, none⟩ (.int .i64 z)).setCell ⟨b, 1, none⟩ (.slice a1 n1 k1)).setCell ⟨b, 2, none⟩ (.slice a2 n2 k2)).cell? ⟨b, 2, none⟩ = some (.slice a2 n2 k2)) := by
  have o := three_only V b (.int .i64 z) (.slice a1 n1 k1) (.slice a2 n2 k2)
  refine ⟨?_, B.trans (three_below V _ _ _ hb), (three_put PR _ _ _).three⟩
  refine (O.at fun g hg _ => o.2.1 g (by rintro rfl; unfold Iv at hg; omega)).mono fun g hg => ?_
  rw [o.1]
  unfold Iv at hg ⊢
  omega
end Go.Proofs.Ytnkpboobfkjibad
namespace Go.Proofs.Ytnkpboobfkjibad
open Go.RowKit

set_option maxHeartbeats 1000000 in
theorem kclone_any (v : Value) (xs : List Int) (w : World) (hr : KReads w v xs) (hx : xs.length ≤ 1000) :
    Calls Try.prog 106 #[v] w fun e w' => ∃ u, e = .returned u ∧ KOwn w.heap.size w'.heap.size w' u xs ∧ KApp w.heap.size w'.heap.size w' u xs ∧ Below w.heap.size w w' := by
  have HR := hid hr
  obtain ⟨a, cap, rfl, hl, hxa⟩ := hr
  have hE : ∀ (a : Option Addr) (n c : Nat) (w' : World), (binOp .eql 23 (.slice a n c) (.slice none 0 0)).run Try.prog w' = .ok (.bool a.isNone) w' := fun a n c w' => Lib.run_eql_slice_nil w' 23 _ a n c 0 0 Try.underlying23
  cases a with
  | none =>
    have h0 : xs = [] := by
      rcases hxa with h | ⟨b, off, e, _⟩
      · exact h
      · cases e
    subst h0
    have hE1 := hE none 0 cap
    simp only [Option.isNone_none] at hE1
    clear hE hxa
    go_enter Try.func106, Try.ntmps106
    go_wp2
    go_ret
    exact ⟨_, rfl, kown_nil _ _ _ _ _, .inl ⟨rfl, _, rfl⟩, Below.refl _ _⟩
  | some a =>
    have b0 : Below w.heap.size w (w.alloc (.cells #[] 3)) := (Below.refl _ _).alloc (Nat.le_refl _) _
    obtain ⟨v', w', hrun, hown, hgr, hat⟩ := append_reads (w.alloc (.cells #[] 3)) w.heap.size (.slice (some ⟨w.heap.size, 0, none⟩) 0 0) 0 [] (World.ownsRow_lit w #[] 0 (Nat.le_refl _) (by decide) rfl) (.slice (some a) xs.length cap) xs (HR.out.below b0) (by omega) (by simp) 23
    have HKA : Hid (KApp w.heap.size w'.heap.size w' v' xs) := by
      rw [Nat.zero_add, List.nil_append] at hown
      exact KApp.of_owns hown rfl
    have HK : Hid (KOwn w.heap.size w'.heap.size w' v' xs) := by
      rw [Nat.zero_add, List.nil_append] at hown
      exact KOwn.of_owns hown (by omega)
    have HB : Hid (Below w.heap.size w w') := b0.grown hgr (by simp) (fun m hm => by cases hm; exact Nat.le_refl _)
    obtain ⟨n, hn⟩ : ∃ n, n = xs.length := ⟨_, rfl⟩
    rw [← hn] at hrun ⊢
    have hE1 := hE (some a) n cap
    simp only [Option.isNone_some] at hE1
    clear hE hxa hown hgr hat b0 hl hx hn
    go_enter Try.func106, Try.ntmps106
    go_wp2_with (at_builtin; refine Lib.wpList_append_run_sl _ rfl _ _ 23 rfl _ _ rfl rfl hrun ?_)
    go_ret
    exact ⟨_, rfl, HK.out, HKA.out, HB.out⟩
end Go.Proofs.Ytnkpboobfkjibad
