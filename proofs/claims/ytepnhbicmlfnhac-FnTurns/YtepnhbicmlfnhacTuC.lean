/-
  Turns in a box, in memory of their own: what a store leaves behind. Plain facts on the memory.
-/
import Derived.Test.YtepnhbicmlfnhacTurnPut
namespace Go.Proofs.Ytepnhbicmlfnhac
open Go.RowKit

structure TuC (S : Nat → Prop) (w : World) (X : Nat) (D : TuD) (s0 s1 s2 s3 : Value) (c0 c1 c2 c3 : Nat × Nat) (iv : Nat → Nat × Nat) : Prop where
  box : BoxL w X [s0, s1, s2, s3, .int .i64 D.f4]
  out : ¬ S X
  ap : Aset S (D.f1.length + 4) (tuIv c0 c1 c2 c3 iv)
  k0 : KOwn c0.1 c0.2 w s0 D.f0
  k1 : QRow w c1 s1 D.f1 iv
  k2 : KOwn c2.1 c2.2 w s2 D.f2
  k3 : KOwn c3.1 c3.2 w s3 D.f3
theorem TuC.own {S : Nat → Prop} {w : World} {X : Nat} {D : TuD} {s0 s1 s2 s3 : Value} {c0 c1 c2 c3 : Nat × Nat} {iv : Nat → Nat × Nat} (h : TuC S w X D s0 s1 s2 s3 c0 c1 c2 c3 iv) : TuOwn S w (.agg #[s0, s1, s2, s3, .int .i64 D.f4]) D :=
  ⟨s0, s1, s2, s3, c0, c1, c2, c3, iv, rfl, h.ap, h.k0, h.k1, h.k2, h.k3⟩
/-- Where no stretch reaches, one may write. -/
theorem TuC.at {S : Nat → Prop} {w w' : World} {X : Nat} {D : TuD} {s0 s1 s2 s3 : Value} {c0 c1 c2 c3 : Nat × Nat} {iv : Nat → Nat × Nat} (h : TuC S w X D s0 s1 s2 s3 c0 c1 c2 c3 iv) (hk : ∀ g, (S g ∨ g = X) → g < w.heap.size → w'.heap[g]? = w.heap[g]?) : TuC S w' X D s0 s1 s2 s3 c0 c1 c2 c3 iv := by
  have n0 := h.ap.inn 0 (by omega)
  have n1 := h.ap.inn 1 (by omega)
  have n2 := h.ap.inn 2 (by omega)
  have n3 := h.ap.inn 3 (by omega)
  exact ⟨h.box.of_block (hk X (.inr rfl) h.box.lt), h.out, h.ap, h.k0.at fun g g1 g2 g3 => hk g (.inl (n0.2 g g1 g2)) g3, h.k1.at (fun g g1 g2 g3 => hk g (.inl (n1.2 g g1 g2)) g3) (fun j hj g g1 g2 g3 => hk g (.inl ((h.ap.inn (j + 4) (by omega)).2 g g1 g2)) g3), h.k2.at fun g g1 g2 g3 => hk g (.inl (n2.2 g g1 g2)) g3, h.k3.at fun g g1 g2 g3 => hk g (.inl (n3.2 g g1 g2)) g3⟩
theorem TuC.below {S : Nat → Prop} {w w' : World} {X : Nat} {D : TuD} {s0 s1 s2 s3 : Value} {c0 c1 c2 c3 : Nat × Nat} {iv : Nat → Nat × Nat} (h : TuC S w X D s0 s1 s2 s3 c0 c1 c2 c3 iv) (hb : Below w.heap.size w w') : TuC S w' X D s0 s1 s2 s3 c0 c1 c2 c3 iv := h.at fun g _ hg => hb.block g hg
theorem TuC.mono {S S' : Nat → Prop} {w : World} {X : Nat} {D : TuD} {s0 s1 s2 s3 : Value} {c0 c1 c2 c3 : Nat × Nat} {iv : Nat → Nat × Nat} (h : TuC S w X D s0 s1 s2 s3 c0 c1 c2 c3 iv) (hs : ∀ g, S g → S' g) (ho : ¬ S' X) : TuC S' w X D s0 s1 s2 s3 c0 c1 c2 c3 iv := ⟨h.box, ho, h.ap.mono hs, h.k0, h.k1, h.k2, h.k3⟩
theorem TuC.drew {S : Nat → Prop} {w : World} {X : Nat} {D : TuD} {s0 s1 s2 s3 : Value} {c0 c1 c2 c3 : Nat × Nat} {iv : Nat → Nat × Nat} (h : TuC S w X D s0 s1 s2 s3 c0 c1 c2 c3 iv) : TuC S w.drew X D s0 s1 s2 s3 c0 c1 c2 c3 iv := ⟨h.box, h.out, h.ap, h.k0, h.k1, h.k2, h.k3⟩
theorem KOwn.setN {lo hi g n cap : Nat} {w : World} {xs : List KEl} (h : KOwn lo hi w (.slice (some ⟨g, 0, none⟩) n cap) xs) (i : Nat) (x : KEl) (hi' : i < xs.length) : KOwn lo hi (w.setCell ⟨g, i, none⟩ (.int .i64 x)) (.slice (some ⟨g, 0, none⟩) n cap) (xs.set i x) ∧ (lo ≤ g ∧ g < hi) ∧ w.cell? ⟨g, i, none⟩ = some (.int .i64 (xs.getD i 0)) ∧ w.frozen? ⟨g, i, none⟩ = false := by
  have hn : n = xs.length := by
    obtain ⟨a, c, e⟩ := h.form
    cases e
    rfl
  subst hn
  obtain ⟨h1, h2, h3, h4⟩ := h.set i x hi'
  exact ⟨h1, h2, h4, h3⟩
section
variable {S : Nat → Prop} {w : World} {X : Nat} {D : TuD} {s0 s1 s2 s3 : Value} {c0 c1 c2 c3 : Nat × Nat} {iv : Nat → Nat × Nat}
/-- Another place among the queues. -/
theorem TuC.set4 (h : TuC S w X D s0 s1 s2 s3 c0 c1 c2 c3 iv) (z : Int) : TuC S (w.setCell ⟨X, 4, none⟩ (.int .i64 z)) X ⟨D.f0, D.f1, D.f2, D.f3, z⟩ s0 s1 s2 s3 c0 c1 c2 c3 iv := by
  have op := onlyP_set w X 4 (.int .i64 z)
  have far : ∀ g, S g → ¬ g = X := fun g hg e => h.out (e ▸ hg)
  have nin := fun j hj => (h.ap.inn j hj).2
  exact ⟨h.box.set 4 (by simp) _, h.out, h.ap, h.k0.onlyP op fun g g1 g2 => far g (nin 0 (by omega) g g1 g2), h.k1.onlyP op (fun g g1 g2 => far g (nin 1 (by omega) g g1 g2)) (fun j hj g g1 g2 => far g (nin (j + 4) (by omega) g g1 g2)), h.k2.onlyP op fun g g1 g2 => far g (nin 2 (by omega) g g1 g2), h.k3.onlyP op fun g g1 g2 => far g (nin 3 (by omega) g g1 g2)⟩
/-- Another credit. -/
theorem TuC.set2 {g2 n2 p2 : Nat} (h : TuC S w X D s0 s1 (.slice (some ⟨g2, 0, none⟩) n2 p2) s3 c0 c1 c2 c3 iv) (i : Nat) (hi : i < D.f2.length) (x : Int) : TuC S (w.setCell ⟨g2, i, none⟩ (.int .i64 x)) X ⟨D.f0, D.f1, D.f2.set i x, D.f3, D.f4⟩ s0 s1 (.slice (some ⟨g2, 0, none⟩) n2 p2) s3 c0 c1 c2 c3 iv := by
  obtain ⟨hk, hg, _, _⟩ := h.k2.setN i x hi
  have hS := (h.ap.inn 2 (by omega)).2 g2 hg.1 hg.2
  have op := onlyP_set w g2 i (.int .i64 x)
  have dj : ∀ j, j < D.f1.length + 4 → j ≠ 2 → ∀ g, (tuIv c0 c1 c2 c3 iv j).1 ≤ g → g < (tuIv c0 c1 c2 c3 iv j).2 → ¬ g = g2 := by
    intro j hj hne g g1 g2' e
    have hd : Dj c2 (tuIv c0 c1 c2 c3 iv j) := h.ap.dj 2 j (by omega) hj (Ne.symm hne)
    unfold Dj at hd
    omega
  exact ⟨h.box.of_block (op.2.1 X (fun e => h.out (e ▸ hS))), h.out, h.ap, h.k0.onlyP op (dj 0 (by omega) (by omega)), h.k1.onlyP op (dj 1 (by omega) (by omega)) (fun j hj => dj (j + 4) (by omega) (by omega)), hk, h.k3.onlyP op (dj 3 (by omega) (by omega))⟩
/-- Another sum of what was sent. -/
theorem TuC.set3 {g3 n3 p3 : Nat} (h : TuC S w X D s0 s1 s2 (.slice (some ⟨g3, 0, none⟩) n3 p3) c0 c1 c2 c3 iv) (i : Nat) (hi : i < D.f3.length) (x : Int) : TuC S (w.setCell ⟨g3, i, none⟩ (.int .i64 x)) X ⟨D.f0, D.f1, D.f2, D.f3.set i x, D.f4⟩ s0 s1 s2 (.slice (some ⟨g3, 0, none⟩) n3 p3) c0 c1 c2 c3 iv := by
  obtain ⟨hk, hg, _, _⟩ := h.k3.setN i x hi
  have hS := (h.ap.inn 3 (by omega)).2 g3 hg.1 hg.2
  have op := onlyP_set w g3 i (.int .i64 x)
  have dj : ∀ j, j < D.f1.length + 4 → j ≠ 3 → ∀ g, (tuIv c0 c1 c2 c3 iv j).1 ≤ g → g < (tuIv c0 c1 c2 c3 iv j).2 → ¬ g = g3 := by
    intro j hj hne g g1 g2' e
    have hd : Dj c3 (tuIv c0 c1 c2 c3 iv j) := h.ap.dj 3 j (by omega) hj (Ne.symm hne)
    unfold Dj at hd
    omega
  exact ⟨h.box.of_block (op.2.1 X (fun e => h.out (e ▸ hS))), h.out, h.ap, h.k0.onlyP op (dj 0 (by omega) (by omega)), h.k1.onlyP op (dj 1 (by omega) (by omega)) (fun j hj => dj (j + 4) (by omega) (by omega)), h.k2.onlyP op (dj 2 (by omega) (by omega)), hk⟩
/-- Another queue, in blocks r that nothing else reaches. -/
theorem TuC.set1 {S' : Nat → Prop} {B n cap k : Nat} {u : Value} {xs : List Int} {r : Nat × Nat} (h : TuC S w X D s0 (.slice (some ⟨B, 0, none⟩) n cap) s2 s3 c0 c1 c2 c3 iv) (hk : k < D.f1.length) (hu : KOwn r.1 r.2 w u xs) (hr : (r.2 = r.1 + 1 ∧ S' r.1 ∧ ¬ S r.1) ∨ (r.2 = r.1 ∧ ∀ g, S g → g < r.1)) (hS : ∀ g, S g → S' g) (hX : ¬ S' X) :
    TuC S' (w.setCell ⟨B, k, none⟩ u) X ⟨D.f0, D.f1.set k xs, D.f2, D.f3, D.f4⟩ s0 (.slice (some ⟨B, 0, none⟩) n cap) s2 s3 c0 c1 c2 c3 (upd iv k r) := by
  have hn : n = D.f1.length := by
    obtain ⟨_, h⟩ := h.k1
    rcases h with ⟨a', cap', e, e2⟩ | ⟨B', cap', us, e, _⟩
    · rw [e2] at hk; simp at hk
    · cases e; rfl
  obtain ⟨_, _, _, hB, _⟩ := h.k1.cell hn.symm k (by omega)
  have hBS := (h.ap.inn 1 (by omega)).2 B hB.1 hB.2
  have op := onlyP_set w B k u
  -- r lies apart from every stretch
  have dr : ∀ j, j < D.f1.length + 4 → Dj r (tuIv c0 c1 c2 c3 iv j) := by
    intro j hj
    have hin := h.ap.inn j hj
    unfold Dj
    rcases hr with ⟨hr1, _, h1⟩ | ⟨hr1, h1⟩
    · by_cases e1 : (tuIv c0 c1 c2 c3 iv j).1 ≤ r.1 ∧ r.1 < (tuIv c0 c1 c2 c3 iv j).2
      · exact absurd (hin.2 r.1 e1.1 e1.2) h1
      · omega
    · by_cases e1 : (tuIv c0 c1 c2 c3 iv j).1 < (tuIv c0 c1 c2 c3 iv j).2
      · have := h1 _ (hin.2 ((tuIv c0 c1 c2 c3 iv j).2 - 1) (by omega) (by omega))
        omega
      · omega
  have dj : ∀ j, j < D.f1.length + 4 → j ≠ 1 → ∀ g, (tuIv c0 c1 c2 c3 iv j).1 ≤ g → g < (tuIv c0 c1 c2 c3 iv j).2 → ¬ g = B := by
    intro j hj hne g g1 g2' e
    have hd : Dj c1 (tuIv c0 c1 c2 c3 iv j) := h.ap.dj 1 j (by omega) hj (Ne.symm hne)
    unfold Dj at hd
    omega
  have hBr : B < r.1 ∨ r.2 ≤ B := by
    have hd := dr 1 (by omega)
    simp only [tuIv] at hd
    unfold Dj at hd
    omega
  have key : ∀ q, (q = k + 4 ∧ tuIv c0 c1 c2 c3 (upd iv k r) q = r) ∨ (q ≠ k + 4 ∧ tuIv c0 c1 c2 c3 (upd iv k r) q = tuIv c0 c1 c2 c3 iv q) := by
    intro q
    by_cases e : q = k + 4
    · exact .inl ⟨e, by subst e; exact upd_same _ _ _⟩
    · refine .inr ⟨e, ?_⟩
      rcases q with _ | _ | _ | _ | q
      · rfl
      · rfl
      · rfl
      · rfl
      · exact upd_other _ _ (by omega)
  refine ⟨h.box.of_block (op.2.1 X (fun e => h.out (e ▸ hBS))), hX, ⟨fun q hq => ?_, fun q p hq hp hne => ?_⟩, h.k0.onlyP op (dj 0 (by omega) (by omega)), ?_, h.k2.onlyP op (dj 2 (by omega) (by omega)), h.k3.onlyP op (dj 3 (by omega) (by omega))⟩
  · simp only [List.length_set] at hq
    rcases key q with ⟨e, e1⟩ | ⟨e, e1⟩ <;> rw [e1]
    · rcases hr with ⟨hr1, h1, _⟩ | ⟨hr1, h1⟩
      · exact ⟨by omega, fun g g1 g2 => by have e : g = r.1 := (by omega); rw [e]; exact h1⟩
      · exact ⟨by omega, fun g g1 g2 => by omega⟩
    · have := h.ap.inn q hq
      exact ⟨this.1, fun g g1 g2 => hS g (this.2 g g1 g2)⟩
  · simp only [List.length_set] at hq hp
    rcases key q with ⟨y1, e1⟩ | ⟨y1, e1⟩ <;> rcases key p with ⟨y2, e2⟩ | ⟨y2, e2⟩ <;> rw [e1] <;> first | omega | skip
    · rw [e2]; exact dr p hp
    · rw [e2]; exact (dr q hq).symm
    · rw [e2]; exact h.ap.dj q p hq hp hne
  · exact h.k1.set hn.symm k (by omega) u xs r hu hBr (fun j hj => h.ap.dj 1 (j + 4) (by omega) (by omega) (by omega))
end
end Go.Proofs.Ytepnhbicmlfnhac
