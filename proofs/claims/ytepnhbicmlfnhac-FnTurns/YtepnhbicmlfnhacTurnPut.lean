/-
  A packet put into a queue: plain words, and what lies where behind it. No program.
-/
import Derived.Test.YtepnhbicmlfnhacTurnFns
import Derived.Test.YtepnhbicmlfnhacBoxL
namespace Go.Proofs.Ytepnhbicmlfnhac
open Go.RowKit

def putOk (D : TuD) (q x : Int) : Bool := goodTu D && (decide (0 ≤ q ∧ q < (D.f1.length : Int)) && (decide (1 ≤ x ∧ x ≤ 20) && !decide ((D.f1.getD q.toNat []).length = 30)))
def putD (D : TuD) (k : Nat) (x : Int) : TuD := ⟨D.f0, D.f1.set k (D.f1.getD k [] ++ [x]), D.f2, D.f3, D.f4⟩
theorem KOwn.of_owns2 {base lo hi : Nat} {w : World} {v : Value} {n : Nat} {xs : List KEl} (h : w.ownsRow base 3 1 v n (kflat xs)) (hl : xs.length ≤ 1152921504606846975) (hb : ∀ g, v.ownBlock = some g → lo ≤ g ∧ g < hi) : KOwn lo hi w v xs := by
  have hn : n = xs.length := by have := h.1; rw [length_kflat] at this; omega
  subst hn
  refine ⟨hl, ?_⟩
  rcases h.2 with ⟨rfl, h0⟩ | ⟨g, cap, cur, rfl, _, hh, hle, _, hcs, ht⟩
  · exact .inl ⟨none, 0, rfl, List.length_eq_zero_iff.1 h0⟩
  · have := hb g rfl
    rw [Nat.mul_one] at ht
    exact .inr ⟨g, cap, rfl, ⟨this.1, this.2, hle⟩, kown_cells hh ht (Nat.le_refl _)⟩
/-- A row put in the place of another, somewhere else. -/
theorem tu_put {S S' : Nat → Prop} {w w' : World} {v0 v2 v3 v' : Value} {z : Int} {c0 c1 c2 c3 r : Nat × Nat} {iv : Nat → Nat × Nat} {D : TuD} {B cap k : Nat} {xs : List Int}
    (hz : z = D.f4) (ha : Aset S (D.f1.length + 4) (tuIv c0 c1 c2 c3 iv)) (h0 : KOwn c0.1 c0.2 w v0 D.f0) (h1 : QRow w c1 (.slice (some ⟨B, 0, none⟩) D.f1.length cap) D.f1 iv) (h2 : KOwn c2.1 c2.2 w v2 D.f2) (h3 : KOwn c3.1 c3.2 w v3 D.f3) (hk : k < D.f1.length)
    (hr : (r = iv k) ∨ (r.1 ≤ r.2 ∧ (∀ g, r.1 ≤ g → g < r.2 → S' g) ∧ ∀ j, j < D.f1.length + 4 → Dj r (tuIv c0 c1 c2 c3 iv j))) (hS : ∀ g, S g → S' g) (hu : KOwn r.1 r.2 w' v' xs)
    (hsame : ∀ j g, j < D.f1.length + 4 → j ≠ k + 4 → (tuIv c0 c1 c2 c3 iv j).1 ≤ g → g < (tuIv c0 c1 c2 c3 iv j).2 → g < w.heap.size → w'.heap[g]? = w.heap[g]?) :
    TuOwn S' (w'.setCell ⟨B, k, none⟩ v') (.agg #[v0, .slice (some ⟨B, 0, none⟩) D.f1.length cap, v2, v3, .int .i64 z]) ⟨D.f0, D.f1.set k xs, D.f2, D.f3, D.f4⟩ := by
  subst hz
  obtain ⟨_, _, _, hB, _⟩ := h1.cell rfl k hk
  have dj : ∀ j, j < D.f1.length + 4 → j ≠ 1 → Dj c1 (tuIv c0 c1 c2 c3 iv j) := fun j hj hne => ha.dj 1 j (by omega) hj (Ne.symm hne)
  have f0 := dj 0 (by omega) (by omega)
  have f2 := dj 2 (by omega) (by omega)
  have f3 := dj 3 (by omega) (by omega)
  simp only [tuIv] at f0 f2 f3
  unfold Dj at f0 f2 f3
  have hBr : B < r.1 ∨ r.2 ≤ B := by
    rcases hr with rfl | ⟨_, _, hr⟩
    · have := dj (k + 4) (by omega) (by omega)
      simp only [tuIv] at this
      unfold Dj at this
      omega
    · have := hr 1 (by omega)
      simp only [tuIv] at this
      unfold Dj at this
      omega
  have hrows : ∀ j, j < D.f1.length → Dj c1 (iv j) := fun j hj => dj (j + 4) (by omega) (by omega)
  -- the row of rows at w', the row k aside
  have h1' : QRow (w'.setCell ⟨B, k, none⟩ v') c1 (.slice (some ⟨B, 0, none⟩) D.f1.length cap) (D.f1.set k xs) (upd iv k r) := by
    obtain ⟨hl, hh⟩ := h1
    rcases hh with ⟨a', cap', e, e2⟩ | ⟨B', cap', us, e, hg, hf⟩
    · rw [e2] at hk; simp at hk
    · cases e
      refine ⟨by rw [List.length_set]; exact hl, .inr ⟨B, cap, upd us k v', by rw [List.length_set], by rw [List.length_set]; exact hg, fun j hj => ?_⟩⟩
      rw [List.length_set] at hj
      obtain ⟨g1, g2, g3⟩ := hf j hj
      have eB : w'.heap[B]? = w.heap[B]? := hsame 1 B (by omega) (by omega) hg.1 hg.2.1 (lt_of_cell g1)
      have g1' : w'.cell? ⟨B, j, none⟩ = some (us j) := (World.cell?_of_block (a := ⟨B, j, none⟩) eB).trans g1
      have g2' : KFree (w'.setCell ⟨B, k, none⟩ v') B j := by have := g2.of_block eB; unfold KFree at this ⊢; simpa using this
      by_cases e : j = k
      · subst e
        rw [upd_same, upd_same]
        refine ⟨World.cell?_setCell_same _ _ _ g1', g2', ?_⟩
        have hx : (D.f1.set j xs).getD j [] = xs := by simp [List.getD_eq_getElem?_getD, hj]
        rw [hx]
        exact hu.setOther hBr
      · rw [upd_other _ _ e, upd_other _ _ e]
        have hx : (D.f1.set k xs).getD j [] = D.f1.getD j [] := by simp [List.getD_eq_getElem?_getD, Ne.symm e]
        rw [hx]
        refine ⟨?_, g2', ?_⟩
        · rw [World.cell?_setCell_other _ _ _ _ (by simp <;> omega)]; exact g1'
        · have hd := hrows j hj
          unfold Dj at hd
          exact (g3.at fun g y1 y2 y3 => hsame (j + 4) g (by omega) (by omega) y1 y2 y3).setOther (by omega)
  have key : ∀ q, (q = k + 4 ∧ tuIv c0 c1 c2 c3 (upd iv k r) q = r) ∨ (q ≠ k + 4 ∧ tuIv c0 c1 c2 c3 (upd iv k r) q = tuIv c0 c1 c2 c3 iv q) := by
    intro q
    by_cases e : q = k + 4
    · exact .inl ⟨e, by subst e; exact upd_same _ _ _⟩
    · refine .inr ⟨e, ?_⟩
      rcases q with _ | _ | _ | _ | q
      · rfl
      · rfl
      · rfl
      · rfl
      · exact upd_other _ _ (by omega)
  have dr : ∀ q, q < D.f1.length + 4 → q ≠ k + 4 → Dj r (tuIv c0 c1 c2 c3 iv q) := by
    intro q hq hne
    rcases hr with rfl | ⟨_, _, hr⟩
    · exact ha.dj (k + 4) q (by omega) hq (Ne.symm hne)
    · exact hr q hq
  refine ⟨v0, _, v2, v3, c0, c1, c2, c3, upd iv k r, rfl, ⟨fun q hq => ?_, fun q p hq hp hne => ?_⟩, ((h0.at fun g y1 y2 y3 => hsame 0 g (by omega) (by omega) y1 y2 y3).setOther (by omega)), ?_, ((h2.at fun g y1 y2 y3 => hsame 2 g (by omega) (by omega) y1 y2 y3).setOther (by omega)), ((h3.at fun g y1 y2 y3 => hsame 3 g (by omega) (by omega) y1 y2 y3).setOther (by omega))⟩
  · rw [List.length_set] at hq
    rcases key q with ⟨e, e1⟩ | ⟨e, e1⟩ <;> rw [e1]
    · rcases hr with rfl | ⟨y1, y2, _⟩
      · have := ha.inn (k + 4) (by omega)
        exact ⟨this.1, fun g g1 g2 => hS g (this.2 g g1 g2)⟩
      · exact ⟨y1, y2⟩
    · have := ha.inn q hq
      exact ⟨this.1, fun g g1 g2 => hS g (this.2 g g1 g2)⟩
  · rw [List.length_set] at hq hp
    rcases key q with ⟨y1, e1⟩ | ⟨y1, e1⟩ <;> rcases key p with ⟨y2, e2⟩ | ⟨y2, e2⟩ <;> rw [e1] <;> first | omega | skip
    · rw [e2]; exact dr p hp y2
    · rw [e2]; exact (dr q hq y1).symm
    · rw [e2]; exact ha.dj q p hq hp hne
  · show QRow _ _ _ (D.f1.set k xs) _
    exact h1'
theorem putD_tot {D : TuD} (hg : GoodT D) {k : Nat} (hk : k < D.f1.length) (x : Int) : tuTot (putD D k x) ≤ 1048576 := by
  have hr : ∀ m, m ≤ D.f1.length → preL (D.f1.set k (D.f1.getD k [] ++ [x])) m ≤ 31 * m := by
    intro m
    induction m with
    | zero => intro _; rw [preL_zero]; omega
    | succ m ih =>
      intro hm
      rw [preL_succ _ m (by rw [List.length_set]; omega)]
      have := ih (by omega)
      have hlen : ((D.f1.set k (D.f1.getD k [] ++ [x])).getD m []).length ≤ 31 := by
        by_cases e : m = k
        · subst e
          have : (D.f1.set m (D.f1.getD m [] ++ [x])).getD m [] = D.f1.getD m [] ++ [x] := by simp [List.getD_eq_getElem?_getD, hk]
          rw [this, List.length_append, List.length_singleton]
          have := (hg.k m hk).1
          omega
        · have : (D.f1.set k (D.f1.getD k [] ++ [x])).getD m [] = D.f1.getD m [] := by simp [List.getD_eq_getElem?_getD, Ne.symm e]
          rw [this]
          have := (hg.k m (by omega)).1
          omega
      omega
  have h1 := hr D.f1.length (Nat.le_refl _)
  have h2 := hg.n
  have h3 := hg.l1
  have h4 := hg.l2
  have h5 := hg.l3
  unfold tuTot putD
  simp only [List.length_set]
  omega
/-- The block that an append to a queue may write. -/
theorem put_g {lo hi P B k : Nat} {w : World} {D : TuD} {c0 c1 c2 c3 : Nat × Nat} {iv : Nat → Nat × Nat} {uu : Value} {xs : List Int} (ha : Aset (Iv lo hi) (D.f1.length + 4) (tuIv c0 c1 c2 c3 iv)) (hk : k < D.f1.length) (hB : c1.1 ≤ B ∧ B < c1.2) (kap : KApp (iv k).1 (iv k).2 w uu xs) (hP : P < lo) (hPw : lo ≤ w.heap.size) :
    ∃ g, (g = P ∨ lo ≤ g) ∧ g < w.heap.size ∧ g ≠ B ∧ (∀ j, j < D.f1.length + 4 → j ≠ k + 4 → ¬ ((tuIv c0 c1 c2 c3 iv j).1 ≤ g ∧ g < (tuIv c0 c1 c2 c3 iv j).2)) ∧ ((xs = [] ∧ ∃ a, uu = .slice a 0 0) ∨ (w.ownsRow (iv k).1 3 1 uu xs.length (kflat xs) ∧ uu.ownBlock = some g ∧ (iv k).1 ≤ g ∧ g < (iv k).2)) := by
  have left : ((xs = [] ∧ ∃ a, uu = .slice a 0 0)) → ∃ g, (g = P ∨ lo ≤ g) ∧ g < w.heap.size ∧ g ≠ B ∧ (∀ j, j < D.f1.length + 4 → j ≠ k + 4 → ¬ ((tuIv c0 c1 c2 c3 iv j).1 ≤ g ∧ g < (tuIv c0 c1 c2 c3 iv j).2)) ∧ ((xs = [] ∧ ∃ a, uu = .slice a 0 0) ∨ (w.ownsRow (iv k).1 3 1 uu xs.length (kflat xs) ∧ uu.ownBlock = some g ∧ (iv k).1 ≤ g ∧ g < (iv k).2)) := by
    intro h
    have h1 := (ha.inn 1 (by omega)).2 B hB.1 hB.2
    unfold Iv at h1
    refine ⟨P, .inl rfl, by omega, by omega, fun j hj _ hin => ?_, .inl h⟩
    have := (ha.inn j hj).2 P hin.1 hin.2
    unfold Iv at this
    omega
  rcases kap with h | ⟨h1, h2⟩
  · exact left h
  · rcases id h1.2 with ⟨e, h0⟩ | ⟨g, cap, cur, e, hb, hh, hr⟩
    · exact left ⟨List.length_eq_zero_iff.1 h0, none, e⟩
    · have hg2 := h2 g (by rw [e]; rfl)
      have hgS := (ha.inn (k + 4) (by omega)).2 g hb hg2
      unfold Iv at hgS
      refine ⟨g, .inr hgS.1, (Array.getElem?_eq_some_iff.1 hh).1, ?_, fun j hj hne hin => ?_, .inr ⟨h1, by rw [e]; rfl, hb, hg2⟩⟩
      · intro eB
        have hd : Dj c1 (iv k) := ha.dj 1 (k + 4) (by omega) (by omega) (by omega)
        unfold Dj at hd
        omega
      · have hd : Dj (iv k) (tuIv c0 c1 c2 c3 iv j) := ha.dj (k + 4) j (by omega) hj (Ne.symm hne)
        unfold Dj at hd
        omega
end Go.Proofs.Ytepnhbicmlfnhac
