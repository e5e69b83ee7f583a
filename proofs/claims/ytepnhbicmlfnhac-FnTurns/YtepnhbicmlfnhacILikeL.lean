/-
  Turns copied into rows that are there already, some rows done: what lies where, and one row more. Plain facts on the memory.
-/
import Derived.Test.YtepnhbicmlfnhacQSet
import Derived.Test.YtepnhbicmlfnhacBoxL
import Derived.Test.YtepnhbicmlfnhacInfoII
namespace Go.Proofs.Ytepnhbicmlfnhac
open Go.RowKit

structure LikeL (lo X : Nat) (D : TuD) (z : Int) (s0 vq s2 s3 : Value) (c0 c1 c2 c3 : Nat × Nat) (i : Nat) (wx : World) (iv : Nat → Nat × Nat) : Prop where
  row : QRow wx c1 vq (qpart D.f1 i) iv
  box : BoxL wx X [s0, vq, s2, s3, .int .i64 z]
  k0 : KOwn c0.1 c0.2 wx s0 D.f0
  k2 : KOwn c2.1 c2.2 wx s2 D.f2
  k3 : KOwn c3.1 c3.2 wx s3 D.f3
  ka : QAppd wx vq (qpart D.f1 i) iv
  ap : Apart lo wx.heap.size (D.f1.length + 5) (ivc (X, X + 1) (tuIv c0 c1 c2 c3 iv))
theorem LikeL.start {lo X : Nat} {D : TuD} {z : Int} {s0 vq s2 s3 z0 z1 z2 z3 z4 : Value} {c0 c1 c2 c3 : Nat × Nat} {wr : World} (hX : BoxL wr X [z0, z1, z2, z3, z4]) (k0 : KOwn c0.1 c0.2 wr s0 D.f0) (k1 : QRow wr c1 vq (qpart D.f1 0) (fun _ => (c1.2, c1.2))) (ka : QAppd wr vq (qpart D.f1 0) (fun _ => (c1.2, c1.2))) (k2 : KOwn c2.1 c2.2 wr s2 D.f2) (k3 : KOwn c3.1 c3.2 wr s3 D.f3)
    (i0 : lo ≤ c0.1 ∧ c0.1 ≤ c0.2 ∧ c0.2 ≤ wr.heap.size) (i1 : lo ≤ c1.1 ∧ c1.1 ≤ c1.2 ∧ c1.2 ≤ wr.heap.size) (i2 : lo ≤ c2.1 ∧ c2.1 ≤ c2.2 ∧ c2.2 ≤ wr.heap.size) (i3 : lo ≤ c3.1 ∧ c3.1 ≤ c3.2 ∧ c3.2 ≤ wr.heap.size) (iX : lo ≤ X) (hne : c1.1 < c1.2)
    (d01 : Dj c0 c1) (d02 : Dj c0 c2) (d03 : Dj c0 c3) (d12 : Dj c1 c2) (d13 : Dj c1 c3) (d23 : Dj c2 c3) (x0 : Dj c0 (X, X + 1)) (x1 : Dj c1 (X, X + 1)) (x2 : Dj c2 (X, X + 1)) (x3 : Dj c3 (X, X + 1)) :
    LikeL lo X D z s0 vq s2 s3 c0 c1 c2 c3 0 (put5 wr X s0 vq s2 s3 (.int .i64 z)) (fun _ => (c1.2, c1.2)) := by
  have op := put5_only wr X s0 vq s2 s3 (.int .i64 z)
  have hs : (put5 wr X s0 vq s2 s3 (.int .i64 z)).heap.size = wr.heap.size := op.1
  have hl := hX.lt
  unfold Dj at d01 d02 d03 d12 d13 d23 x0 x1 x2 x3
  simp only at x0 x1 x2 x3
  refine ⟨k1.onlyP op (fun g g1 g2 e => by omega) (fun j _ g g1 g2 e => by simp only at g1 g2; omega), put5_box hX _ _ _ _ _, k0.onlyP op (fun g g1 g2 e => by omega), k2.onlyP op (fun g g1 g2 e => by omega), k3.onlyP op (fun g g1 g2 e => by omega), fun B n cap e j hj u hc => ?_, ⟨fun q hq => ?_, fun q p hq hp hne => ?_⟩⟩
  · obtain ⟨_, hk1⟩ := k1
    rcases hk1 with ⟨a', cap', e', e''⟩ | ⟨B', cap', us, e', hg', _⟩
    · rw [e''] at hj; simp at hj
    · rw [e] at e'
      cases e'
      rw [World.cell?_of_block (a := ⟨B, j, none⟩) (op.2.1 B (by omega))] at hc
      exact (ka B _ _ e j hj u hc).onlyP op (fun g g1 g2 e => by simp only at g1 g2; omega)
  · rw [hs]
    rcases q with _ | _ | _ | _ | _ | q <;> simp only [ivc, tuIv] <;> omega
  · rcases q with _ | _ | _ | _ | _ | q <;> rcases p with _ | _ | _ | _ | _ | p <;> simp only [ivc, tuIv, Dj] <;> omega
theorem LikeL.next {lo X : Nat} {D : TuD} {z : Int} {s0 s2 s3 u : Value} {c0 c1 c2 c3 r : Nat × Nat} {i B cap : Nat} {wx wr : World} {iv : Nat → Nat × Nat} (h : LikeL lo X D z s0 (.slice (some ⟨B, 0, none⟩) D.f1.length cap) s2 s3 c0 c1 c2 c3 i wx iv) (hi : i < D.f1.length)
    (hb : Below wx.heap.size wx wr) (hr : wx.heap.size ≤ r.1 ∧ r.1 ≤ r.2 ∧ r.2 ≤ wr.heap.size) (hu : KOwn r.1 r.2 wr u (D.f1.getD i [])) (hua : KApp r.1 r.2 wr u (D.f1.getD i [])) :
    LikeL lo X D z s0 (.slice (some ⟨B, 0, none⟩) D.f1.length cap) s2 s3 c0 c1 c2 c3 (i + 1) (wr.setCell ⟨B, i, none⟩ u) (upd iv i r) := by
  have hbs := hb.size
  obtain ⟨_, _, _, hB, _⟩ := h.row.cell (by rw [length_qpart]) i hi
  have nin := fun q hq => h.ap.inn q hq
  have n2 := nin 2 (by omega)
  simp only [ivc, tuIv] at n2
  have far : ∀ q, q < D.f1.length + 5 → q ≠ 2 → Dj c1 (ivc (X, X + 1) (tuIv c0 c1 c2 c3 iv) q) := fun q hq hne => h.ap.dj 2 q (by omega) hq (Ne.symm hne)
  have f0 := far 0 (by omega) (by omega)
  have f1 := far 1 (by omega) (by omega)
  have f3 := far 3 (by omega) (by omega)
  have f4 := far 4 (by omega) (by omega)
  simp only [ivc, tuIv] at f0 f1 f3 f4
  unfold Dj at f0 f1 f3 f4
  simp only at f0
  have hrows : ∀ j, j < D.f1.length → Dj c1 (iv j) := fun j hj => far (j + 5) (by omega) (by omega)
  have hs : (wr.setCell ⟨B, i, none⟩ u).heap.size = wr.heap.size := World.size_setCell _ _ _
  refine ⟨?_, ?_, (h.k0.below hb).setOther (by omega), (h.k2.below hb).setOther (by omega), (h.k3.below hb).setOther (by omega), fun B' n' cap' e j hj u' hc => ?_, ⟨fun q hq => ?_, fun q p hq hp hne => ?_⟩⟩
  · have := (h.row.below hb).set (by rw [length_qpart]) i hi u (D.f1.getD i []) r hu (by omega) hrows
    rw [qpart_succ] at this
    exact this
  · refine (h.box.below hb h.box.lt).of_block ?_
    exact Below.heap_setCell _ _ _ _ (by show X ≠ B; omega)
  · cases e
    rw [length_qpart] at hj
    obtain ⟨uo, cuo, _, _, _⟩ := (h.row.below hb).cell (by rw [length_qpart]) i hi
    by_cases e : j = i
    · subst e
      rw [World.cell?_setCell_same _ _ _ cuo] at hc
      cases hc
      rw [upd_same, qpart_get _ _ _ hj, if_pos (by omega)]
      exact hua.at fun g g1 g2 g3 => Below.heap_setCell _ _ _ _ (by show g ≠ B; omega)
    · rw [World.cell?_setCell_other _ _ _ _ (by simp <;> omega)] at hc
      have hc0 : wx.cell? ⟨B, j, none⟩ = some u' := by
        rw [← hc]
        exact (World.cell?_of_block (a := ⟨B, j, none⟩) (hb.block B (by omega))).symm
      have := h.ka B _ _ rfl j (by rw [length_qpart]; exact hj) u' hc0
      rw [qpart_get _ _ _ hj] at this
      rw [upd_other _ _ e, qpart_get _ _ _ hj]
      have hif : (if j < i + 1 then D.f1.getD j [] else []) = (if j < i then D.f1.getD j [] else []) := by
        by_cases hji : j < i
        · rw [if_pos hji, if_pos (by omega)]
        · rw [if_neg hji, if_neg (by omega)]
      rw [hif]
      have hd := hrows j hj
      unfold Dj at hd
      exact (this.below hb).at fun g g1 g2 g3 => Below.heap_setCell _ _ _ _ (by show g ≠ B; omega)
  · rw [hs]
    by_cases e : q = i + 5
    · subst e
      show lo ≤ (upd iv i r i).1 ∧ _ ≤ (upd iv i r i).2 ∧ (upd iv i r i).2 ≤ _
      rw [upd_same]
      show lo ≤ r.1 ∧ (upd iv i r i).1 ≤ r.2 ∧ r.2 ≤ _
      rw [upd_same]
      omega
    · have : ivc (X, X + 1) (tuIv c0 c1 c2 c3 (upd iv i r)) q = ivc (X, X + 1) (tuIv c0 c1 c2 c3 iv) q := by
        rcases q with _ | _ | _ | _ | _ | q
        · rfl
        · rfl
        · rfl
        · rfl
        · rfl
        · exact upd_other _ _ (by omega)
      rw [this]
      have := nin q hq
      omega
  · have key : ∀ q, q < D.f1.length + 5 → (q = i + 5 ∧ ivc (X, X + 1) (tuIv c0 c1 c2 c3 (upd iv i r)) q = r) ∨ (q ≠ i + 5 ∧ ivc (X, X + 1) (tuIv c0 c1 c2 c3 (upd iv i r)) q = ivc (X, X + 1) (tuIv c0 c1 c2 c3 iv) q) := by
      intro q hq
      by_cases e : q = i + 5
      · exact .inl ⟨e, by subst e; exact upd_same _ _ _⟩
      · refine .inr ⟨e, ?_⟩
        rcases q with _ | _ | _ | _ | _ | q
        · rfl
        · rfl
        · rfl
        · rfl
        · rfl
        · exact upd_other _ _ (by omega)
    have d3 : ∀ q, q < D.f1.length + 5 → Dj r (ivc (X, X + 1) (tuIv c0 c1 c2 c3 iv) q) := by
      intro q q2
      have := nin q q2; unfold Dj; omega
    rcases key q hq with ⟨y1, e1⟩ | ⟨y1, e1⟩ <;> rcases key p hp with ⟨y2, e2⟩ | ⟨y2, e2⟩ <;> rw [e1] <;> first | omega | skip
    · rw [e2]; exact d3 p hp
    · rw [e2]; exact (d3 q hq).symm
    · rw [e2]; exact h.ap.dj q p hq hp hne
theorem LikeL.drew {lo X : Nat} {D : TuD} {z : Int} {s0 vq s2 s3 : Value} {c0 c1 c2 c3 : Nat × Nat} {i : Nat} {wx : World} {iv : Nat → Nat × Nat} (h : LikeL lo X D z s0 vq s2 s3 c0 c1 c2 c3 i wx iv) : LikeL lo X D z s0 vq s2 s3 c0 c1 c2 c3 i wx.drew iv :=
  ⟨h.row, h.box, h.k0, h.k2, h.k3, h.ka, h.ap⟩
/-- All rows are copied. -/
theorem LikeL.turns {lo X : Nat} {D : TuD} {s0 vq s2 s3 : Value} {c0 c1 c2 c3 : Nat × Nat} {wx w' : World} {iv : Nat → Nat × Nat} {R : Nat} (h : LikeL lo X D D.f4 s0 vq s2 s3 c0 c1 c2 c3 D.f1.length wx iv) (hR : R < lo) (op : OnlyP (fun j => j = R) wx w') {l' : Nat} (hlo : l' ≤ lo) :
    TuOwnA (Iv l' w'.heap.size) w' (.agg #[s0, vq, s2, s3, .int .i64 D.f4]) D := by
  have hs : w'.heap.size = wx.heap.size := op.1
  have nin : ∀ q, q < D.f1.length + 4 → lo ≤ (tuIv c0 c1 c2 c3 iv q).1 ∧ (tuIv c0 c1 c2 c3 iv q).1 ≤ (tuIv c0 c1 c2 c3 iv q).2 ∧ (tuIv c0 c1 c2 c3 iv q).2 ≤ wx.heap.size := fun q hq => h.ap.inn (q + 1) (by omega)
  have n0 := nin 0 (by omega)
  have n1 := nin 1 (by omega)
  have n2 := nin 2 (by omega)
  have n3 := nin 3 (by omega)
  simp only [tuIv] at n0 n1 n2 n3
  have hrow := h.row
  rw [qpart_all] at hrow
  have hka := h.ka
  rw [qpart_all] at hka
  refine ⟨s0, vq, s2, s3, c0, c1, c2, c3, iv, rfl, ⟨fun q hq => ?_, fun q p hq hp hne => h.ap.dj (q + 1) (p + 1) (by omega) (by omega) (by omega)⟩, h.k0.onlyP op (fun g g1 g2 e => by omega), hrow.onlyP op (fun g g1 g2 e => by omega) (fun j hj g g1 g2 e => by have := nin (j + 4) (by omega); simp only [tuIv] at this; omega), h.k2.onlyP op (fun g g1 g2 e => by omega), h.k3.onlyP op (fun g g1 g2 e => by omega), fun B n cap e j hj u hc => ?_⟩
  · have := nin q hq
    exact ⟨this.2.1, fun g g1 g2 => ⟨by omega, by omega⟩⟩
  · obtain ⟨_, hk1⟩ := hrow
    rcases hk1 with ⟨a', cap', e', e''⟩ | ⟨B', cap', us, e', hg', _⟩
    · rw [e''] at hj; simp at hj
    · rw [e] at e'
      cases e'
      rw [World.cell?_of_block (a := ⟨B, j, none⟩) (op.2.1 B (by omega))] at hc
      exact (hka B _ _ e j hj u hc).onlyP op (fun g g1 g2 e => by have := nin (j + 4) (by omega); simp only [tuIv] at this; omega)
end Go.Proofs.Ytepnhbicmlfnhac
