/-
  Turns copied, some rows done: what lies where, and one row more. Plain facts on the memory.
  spec.l8Own: turns copied into memory of their own. Nothing old is written.
-/
import Derived.Test.YtnnmiddhbeiogbaQApp
import Derived.Test.YtnnmiddhbeiogbaKAppd
import Derived.Test.YtnnmiddhbeiogbaSNewTLeaf
import Derived.Test.YtnnmiddhbeiogbaTurnSums
import Derived.Test.YtnnmiddhbeiogbaRegFacts
import Derived.Deep.RegionLawGrows
namespace Go.Proofs.Ytnnmiddhbeiogba
open Go.RowKit

/-- Some rows are copied: the struct in the box X, its rows in blocks of their own from lo on. -/
structure OwnL (lo X : Nat) (D : TuD) (z : Int) (s0 s2 s3 : Value) (c0 c2 c3 : Nat × Nat) (i : Nat) (wx : World) (vq : Value) (us : List Value) (c1 : Nat × Nat) (iv : Nat → Nat × Nat) : Prop where
  row : wx.ownsRow lo 22 1 vq i us
  blk : ∀ g, vq.ownBlock = some g → c1.1 ≤ g ∧ g < c1.2
  box : BoxL wx X [s0, vq, s2, s3, .int .i64 z]
  k0 : KOwn c0.1 c0.2 wx s0 D.f0
  k2 : KOwn c2.1 c2.2 wx s2 D.f2
  k3 : KOwn c3.1 c3.2 wx s3 D.f3
  ks : ∀ j, j < i → KOwn (iv j).1 (iv j).2 wx (us.getD j undef) (D.f1.getD j [])
  ka : ∀ j, j < i → KApp (iv j).1 (iv j).2 wx (us.getD j undef) (D.f1.getD j [])
  ap : Apart lo wx.heap.size (i + 5) (ivc (X, X + 1) (tuIv c0 c1 c2 c3 iv))
theorem grown_at {w w' : World} {row : Option Nat} (h : w.grownBy w' row) (k : Nat) (hk : k < w.heap.size) (hne : row ≠ some k) : w'.heap[k]? = w.heap[k]? := h.block k hk (Ne.symm hne)
theorem OwnL.drew {lo X : Nat} {D : TuD} {z : Int} {s0 s2 s3 : Value} {c0 c2 c3 : Nat × Nat} {i : Nat} {wx : World} {vq : Value} {us : List Value} {c1 : Nat × Nat} {iv : Nat → Nat × Nat} (h : OwnL lo X D z s0 s2 s3 c0 c2 c3 i wx vq us c1 iv) : OwnL lo X D z s0 s2 s3 c0 c2 c3 i wx.drew vq us c1 iv :=
  ⟨h.row, h.blk, h.box, h.k0, h.k2, h.k3, h.ks, h.ka, h.ap⟩
/-- No row yet. -/
theorem OwnL.start {lo X : Nat} {D : TuD} {z : Int} {s0 s2 s3 z0 z1 z2 z3 z4 : Value} {c0 c2 c3 : Nat × Nat} {wr : World} (hX : BoxL wr X [z0, z1, z2, z3, z4]) (k0 : KOwn c0.1 c0.2 wr s0 D.f0) (k2 : KOwn c2.1 c2.2 wr s2 D.f2) (k3 : KOwn c3.1 c3.2 wr s3 D.f3)
    (i0 : lo ≤ c0.1 ∧ c0.1 ≤ c0.2 ∧ c0.2 ≤ wr.heap.size) (i2 : lo ≤ c2.1 ∧ c2.1 ≤ c2.2 ∧ c2.2 ≤ wr.heap.size) (i3 : lo ≤ c3.1 ∧ c3.1 ≤ c3.2 ∧ c3.2 ≤ wr.heap.size) (iX : lo ≤ X)
    (d02 : Dj c0 c2) (d03 : Dj c0 c3) (d23 : Dj c2 c3) (x0 : Dj c0 (X, X + 1)) (x2 : Dj c2 (X, X + 1)) (x3 : Dj c3 (X, X + 1)) :
    OwnL lo X D z s0 s2 s3 c0 c2 c3 0 (put5 wr X s0 (.slice none 0 0) s2 s3 (.int .i64 z)) (.slice none 0 0) [] (wr.heap.size, wr.heap.size) (fun _ => (0, 0)) := by
  have op := put5_only wr X s0 (.slice none 0 0) s2 s3 (.int .i64 z)
  have hs : (put5 wr X s0 (.slice none 0 0) s2 s3 (.int .i64 z)).heap.size = wr.heap.size := op.1
  have hl := hX.lt
  unfold Dj at d02 d03 d23 x0 x2 x3
  simp only at x0 x2 x3
  refine ⟨⟨rfl, .inl ⟨rfl, rfl⟩⟩, (fun g e => by cases e), put5_box hX _ _ _ _ _, k0.onlyP op (fun g g1 g2 e => by omega), k2.onlyP op (fun g g1 g2 e => by omega), k3.onlyP op (fun g g1 g2 e => by omega), (fun j hj => by omega), (fun j hj => by omega), ⟨fun q hq => ?_, fun q p hq hp hne => ?_⟩⟩
  · rw [hs]
    rcases q with _ | _ | _ | _ | _ | q <;> simp only [ivc, tuIv] <;> omega
  · rcases q with _ | _ | _ | _ | _ | q <;> rcases p with _ | _ | _ | _ | _ | p <;> simp only [ivc, tuIv, Dj] <;> omega
theorem OwnL.far {lo X : Nat} {D : TuD} {z : Int} {s0 s2 s3 : Value} {c0 c2 c3 : Nat × Nat} {i : Nat} {wx wr w' : World} {vq : Value} {us : List Value} {c1 : Nat × Nat} {iv : Nat → Nat × Nat} (h : OwnL lo X D z s0 s2 s3 c0 c2 c3 i wx vq us c1 iv) (hb : Below wx.heap.size wx wr) (hg : wr.grownBy w' vq.ownBlock) : BoxL w' X [s0, vq, s2, s3, .int .i64 z] := by
  have hXi := h.ap.inn 0 (by omega)
  simp only [ivc] at hXi
  have hbs := hb.size
  refine (h.box.below hb (by omega)).of_block (grown_at hg X (by omega) (fun e => ?_))
  have hd : Dj (X, X + 1) c1 := h.ap.dj 0 2 (by omega) (by omega) (by omega)
  have hb1 := h.blk X e
  unfold Dj at hd
  simp only at hd
  omega
/-- One row more. -/
theorem OwnL.next {lo X : Nat} {D : TuD} {z : Int} {s0 s2 s3 : Value} {c0 c2 c3 : Nat × Nat} {i : Nat} {wx wr w' : World} {vq v' u : Value} {us : List Value} {c1 r : Nat × Nat} {iv : Nat → Nat × Nat} (h : OwnL lo X D z s0 s2 s3 c0 c2 c3 i wx vq us c1 iv)
    (hb : Below wx.heap.size wx wr) (hr : wx.heap.size ≤ r.1 ∧ r.1 ≤ r.2 ∧ r.2 ≤ wr.heap.size) (hu : KOwn r.1 r.2 wr u (D.f1.getD i [])) (hua : KApp r.1 r.2 wr u (D.f1.getD i [])) (ho : w'.ownsRow lo 22 1 v' (i + 1) (us ++ [u])) (hg : wr.grownBy w' vq.ownBlock) (hv : v'.ownBlock = vq.ownBlock ∨ v'.ownBlock = some wr.heap.size) :
    ∃ c1', OwnL lo X D z s0 s2 s3 c0 c2 c3 (i + 1) (w'.setCell ⟨X, 1, none⟩ v') v' (us ++ [u]) c1' (upd iv i r) := by
  have hsz : wr.heap.size ≤ w'.heap.size := hg.size
  have hbs := hb.size
  have hXi := h.ap.inn 0 (by omega)
  simp only [ivc] at hXi
  -- where the container lies
  have hcb : ∀ g, vq.ownBlock = some g → ∀ q, 1 ≤ q → q < i + 5 → q ≠ 2 → ¬ ((ivc (X, X + 1) (tuIv c0 c1 c2 c3 iv) q).1 ≤ g ∧ g < (ivc (X, X + 1) (tuIv c0 c1 c2 c3 iv) q).2) := by
    intro g hgb q q1 q2 q3 hin
    have hd : Dj c1 (ivc (X, X + 1) (tuIv c0 c1 c2 c3 iv) q) := h.ap.dj 2 q (by omega) q2 (Ne.symm q3)
    have hb1 := h.blk g hgb
    unfold Dj at hd
    omega
  have hcX : ∀ g, vq.ownBlock = some g → g ≠ X := by
    intro g hgb e
    have hd : Dj (X, X + 1) c1 := h.ap.dj 0 2 (by omega) (by omega) (by omega)
    have hb1 := h.blk g hgb
    unfold Dj at hd
    simp only at hd
    omega
  have hblk := fun g e => owns_lt h.row g e
  -- a row that lies apart stays
  have keep0 : ∀ (q : Nat), 1 ≤ q → q < i + 5 → q ≠ 2 → ∀ g, (ivc (X, X + 1) (tuIv c0 c1 c2 c3 iv) q).1 ≤ g → g < (ivc (X, X + 1) (tuIv c0 c1 c2 c3 iv) q).2 → g < wx.heap.size → (w'.setCell ⟨X, 1, none⟩ v').heap[g]? = wx.heap[g]? := by
    intro q q1 q2 q3 g g1 g2 g3
    have hd : Dj (X, X + 1) (ivc (X, X + 1) (tuIv c0 c1 c2 c3 iv) q) := h.ap.dj 0 q (by omega) q2 (by omega)
    unfold Dj at hd
    simp only at hd
    have hgX : g ≠ X := by
      intro e
      rcases hd with hd | hd
      · have : (ivc (X, X + 1) (tuIv c0 c1 c2 c3 iv) q).1 ≤ g := g1
        have : X + 1 ≤ (ivc (X, X + 1) (tuIv c0 c1 c2 c3 iv) q).1 := hd
        omega
      · have : (ivc (X, X + 1) (tuIv c0 c1 c2 c3 iv) q).2 ≤ X := hd
        omega
    rw [Below.heap_setCell _ _ _ _ hgX, grown_at hg g (by omega) (fun e => hcb g e q q1 q2 q3 ⟨g1, g2⟩), hb.block g g3]
  have keep : ∀ (q : Nat) (v : Value) (xs : List Int), 1 ≤ q → q < i + 5 → q ≠ 2 → KOwn (ivc (X, X + 1) (tuIv c0 c1 c2 c3 iv) q).1 (ivc (X, X + 1) (tuIv c0 c1 c2 c3 iv) q).2 wx v xs → KOwn (ivc (X, X + 1) (tuIv c0 c1 c2 c3 iv) q).1 (ivc (X, X + 1) (tuIv c0 c1 c2 c3 iv) q).2 (w'.setCell ⟨X, 1, none⟩ v') v xs := fun q v xs q1 q2 q3 hk => hk.at (keep0 q q1 q2 q3)
  have hcell : BoxL wr X [s0, vq, s2, s3, .int .i64 z] := h.box.below hb (by omega)
  have hbox' : BoxL w' X [s0, vq, s2, s3, .int .i64 z] := hcell.of_block (grown_at hg X (by omega) (fun e => hcX X e rfl))
  obtain ⟨c1', hc1, hin⟩ : ∃ c1' : Nat × Nat, (∀ g, v'.ownBlock = some g → c1'.1 ≤ g ∧ g < c1'.2) ∧ (c1' = c1 ∨ wr.heap.size ≤ c1'.1 ∧ c1'.1 ≤ c1'.2 ∧ c1'.2 ≤ w'.heap.size) := by
    rcases hv with e | e
    · exact ⟨c1, fun g hg' => h.blk g (e ▸ hg'), .inl rfl⟩
    · have hlt := owns_lt ho _ e
      exact ⟨(wr.heap.size, wr.heap.size + 1), fun g hg' => by rw [e] at hg'; cases hg'; exact ⟨Nat.le_refl _, Nat.lt_succ_self _⟩, .inr ⟨Nat.le_refl _, by simp, hlt.2⟩⟩
  refine ⟨c1', owns_at ho fun g e _ => ?_, hc1, hbox'.set 1 (by simp) v', keep 1 _ _ (by omega) (by omega) (by omega) h.k0, keep 3 _ _ (by omega) (by omega) (by omega) h.k2, keep 4 _ _ (by omega) (by omega) (by omega) h.k3, fun j hj => ?_, fun j hj => ?_, ⟨fun q hq => ?_, fun q p hq hp hne => ?_⟩⟩
  · refine Below.heap_setCell _ _ _ _ ?_
    show g ≠ X
    rcases hv with e' | e'
    · exact hcX g (e' ▸ e)
    · rw [e'] at e; cases e; omega
  · have hlen : us.length = i := by have := h.row.1; omega
    by_cases e : j = i
    · subst e
      rw [upd_same]
      have hx : (us ++ [u]).getD j undef = u := by simp [List.getD_eq_getElem?_getD, hlen]
      rw [hx]
      refine hu.at fun g g1 g2 g3 => ?_
      rw [Below.heap_setCell _ _ _ _ (show g ≠ X by omega), grown_at hg g g3 (fun e => by have := (hblk g e).2; omega)]
    · rw [upd_other _ _ e]
      have hx : (us ++ [u]).getD j undef = us.getD j undef := by simp [List.getD_eq_getElem?_getD, List.getElem?_append_left (by omega : j < us.length)]
      rw [hx]
      exact keep (j + 5) _ _ (by omega) (by omega) (by omega) (h.ks j (by omega))
  · have hlen : us.length = i := by have := h.row.1; omega
    by_cases e : j = i
    · subst e
      rw [upd_same]
      have hx : (us ++ [u]).getD j undef = u := by simp [List.getD_eq_getElem?_getD, hlen]
      rw [hx]
      refine hua.at fun g g1 g2 g3 => ?_
      rw [Below.heap_setCell _ _ _ _ (show g ≠ X by omega), grown_at hg g g3 (fun e => by have := (hblk g e).2; omega)]
    · rw [upd_other _ _ e]
      have hx : (us ++ [u]).getD j undef = us.getD j undef := by simp [List.getD_eq_getElem?_getD, List.getElem?_append_left (by omega : j < us.length)]
      rw [hx]
      exact (h.ka j (by omega)).at (keep0 (j + 5) (by omega) (by omega) (by omega))
  · have hs : (w'.setCell ⟨X, 1, none⟩ v').heap.size = w'.heap.size := World.size_setCell _ _ _
    rw [hs]
    rcases q with _ | _ | _ | q
    · simp only [ivc]; omega
    · have := h.ap.inn 1 (by omega); simp only [ivc, tuIv] at this ⊢; omega
    · have := h.ap.inn 2 (by omega); simp only [ivc, tuIv] at this ⊢
      rcases hin with rfl | hin
      · omega
      · omega
    · rcases q with _ | _ | q
      · have := h.ap.inn 3 (by omega); simp only [ivc, tuIv] at this ⊢; omega
      · have := h.ap.inn 4 (by omega); simp only [ivc, tuIv] at this ⊢; omega
      · simp only [ivc, tuIv]
        by_cases e : q = i
        · subst e; rw [upd_same]; omega
        · rw [upd_other _ _ e]
          have := h.ap.inn (q + 5) (by omega); simp only [ivc, tuIv] at this; omega
  · have key : ∀ q, q < i + 1 + 5 → (q = 2 ∧ ivc (X, X + 1) (tuIv c0 c1' c2 c3 (upd iv i r)) q = c1') ∨ (q = i + 5 ∧ ivc (X, X + 1) (tuIv c0 c1' c2 c3 (upd iv i r)) q = r) ∨ (q ≠ 2 ∧ q < i + 5 ∧ ivc (X, X + 1) (tuIv c0 c1' c2 c3 (upd iv i r)) q = ivc (X, X + 1) (tuIv c0 c1 c2 c3 iv) q) := by
      intro q hq
      rcases q with _ | _ | _ | q
      · exact .inr (.inr ⟨by omega, by omega, rfl⟩)
      · exact .inr (.inr ⟨by omega, by omega, rfl⟩)
      · exact .inl ⟨rfl, rfl⟩
      · rcases q with _ | _ | q
        · exact .inr (.inr ⟨by omega, by omega, rfl⟩)
        · exact .inr (.inr ⟨by omega, by omega, rfl⟩)
        · by_cases e : q = i
          · exact .inr (.inl ⟨by omega, by subst e; exact upd_same _ _ _⟩)
          · exact .inr (.inr ⟨by omega, by omega, upd_other _ _ e⟩)
    have hc1in := h.ap.inn 2 (by omega)
    simp only [ivc, tuIv] at hc1in
    have d1 : ∀ q, q ≠ 2 → q < i + 5 → Dj c1' (ivc (X, X + 1) (tuIv c0 c1 c2 c3 iv) q) := by
      intro q q1 q2
      rcases hin with rfl | hin
      · exact h.ap.dj 2 q (by omega) q2 (Ne.symm q1)
      · have := h.ap.inn q q2; unfold Dj; omega
    have d2 : Dj c1' r := by
      rcases hin with rfl | hin
      · unfold Dj; omega
      · unfold Dj; omega
    have d3 : ∀ q, q < i + 5 → Dj r (ivc (X, X + 1) (tuIv c0 c1 c2 c3 iv) q) := by
      intro q q2
      have := h.ap.inn q q2; unfold Dj; omega
    rcases key q hq with ⟨y1, e1⟩ | ⟨y1, e1⟩ | ⟨n1, l1, e1⟩ <;> rcases key p hp with ⟨y2, e2⟩ | ⟨y2, e2⟩ | ⟨n2, l2, e2⟩ <;> rw [e1] <;> first | omega | skip
    · rw [e2]; exact d2
    · rw [e2]; exact d1 p n2 l2
    · rw [e2]; exact d2.symm
    · rw [e2]; exact d3 p l2
    · rw [e2]; exact (d1 q n1 l1).symm
    · rw [e2]; exact (d3 q l1).symm
    · rw [e2]; exact h.ap.dj q p l1 l2 hne
/-- All rows are copied. -/
theorem OwnL.turns {lo X : Nat} {D : TuD} {s0 s2 s3 : Value} {c0 c2 c3 : Nat × Nat} {wx w' : World} {vq : Value} {us : List Value} {c1 : Nat × Nat} {iv : Nat → Nat × Nat} {R : Nat} (h : OwnL lo X D D.f4 s0 s2 s3 c0 c2 c3 D.f1.length wx vq us c1 iv) (hl : D.f1.length ≤ 1000) (hR : R < lo) (op : OnlyP (fun j => j = R) wx w') {l' : Nat} (hlo : l' ≤ lo) :
    TuOwnA (Iv l' w'.heap.size) w' (.agg #[s0, vq, s2, s3, .int .i64 D.f4]) D := by
  have hs : w'.heap.size = wx.heap.size := op.1
  have nin : ∀ q, q < D.f1.length + 4 → lo ≤ (tuIv c0 c1 c2 c3 iv q).1 ∧ (tuIv c0 c1 c2 c3 iv q).1 ≤ (tuIv c0 c1 c2 c3 iv q).2 ∧ (tuIv c0 c1 c2 c3 iv q).2 ≤ wx.heap.size := fun q hq => h.ap.inn (q + 1) (by omega)
  have n0 := nin 0 (by omega)
  have n1 := nin 1 (by omega)
  have n2 := nin 2 (by omega)
  have n3 := nin 3 (by omega)
  simp only [tuIv] at n0 n1 n2 n3
  refine ⟨s0, vq, s2, s3, c0, c1, c2, c3, iv, rfl, ⟨fun q hq => ?_, fun q p hq hp hne => h.ap.dj (q + 1) (p + 1) (by omega) (by omega) (by omega)⟩, h.k0.onlyP op (fun g g1 g2 e => by omega), (QRow.of_owns h.row rfl (by omega) h.blk h.ks).onlyP op (fun g g1 g2 e => by omega) (fun j hj g g1 g2 e => by have := nin (j + 4) (by omega); simp only [tuIv] at this; omega), h.k2.onlyP op (fun g g1 g2 e => by omega), h.k3.onlyP op (fun g g1 g2 e => by omega), fun B n cap e j hj u hc => ?_⟩
  · have := nin q hq
    exact ⟨this.2.1, fun g g1 g2 => ⟨by omega, by omega⟩⟩
  · subst e
    have hB := owns_lt h.row B rfl
    have hlen : us.length = D.f1.length := by have := h.row.1; omega
    obtain ⟨a', k', e'⟩ := sform_of_owns h.row
    cases e'
    have hc' := h.row.cellAt j (by omega)
    rw [World.cell?_of_block (a := ⟨B, j, none⟩) (op.2.1 B (by omega)), hc', List.getElem?_eq_getElem (by omega)] at hc
    have hu : u = us.getD j undef := by
      rw [List.getD_eq_getElem?_getD, List.getElem?_eq_getElem (by omega)]
      exact (Option.some.inj hc).symm
    rw [hu]
    exact (h.ka j hj).onlyP op (fun g g1 g2 e => by have := nin (j + 4) (by omega); simp only [tuIv] at this; omega)
/-- What the operations make that copy a row. -/
def rowF (X : Nat) (vq u : Value) (xs : List Int) : Nat → (Nat → Value) → (Nat → Nat × Nat) → World → Prop
  | 0, σ, _, _ => σ 0 = .pointer (some ⟨X, 1, none⟩)
  | 1, σ, _, _ => σ 1 = vq
  | 2, σ, _, _ => ∃ b, σ 2 = .slice (some ⟨b, 0, none⟩) 0 0
  | 3, σ, _, _ => σ 3 = u
  | 4, σ, c, w => KOwn (c 4).1 (c 4).2 w (σ 4) xs ∧ KApp (c 4).1 (c 4).2 w (σ 4) xs ∧ ∃ a n k, σ 4 = .slice a n k
  | 5, σ, _, w => ∃ b, σ 5 = .slice (some ⟨b, 0, none⟩) 1 1 ∧ w.cell? ⟨b, 0, none⟩ = some (σ 4)
  | _ + 6, _, _, _ => True
theorem rowF_keep {X : Nat} {vq u : Value} {xs : List Int} : ∀ j ∈ [0, 1, 2, 3, 4, 5], ∀ σ c w w', rowF X vq u xs j σ c w → Below w.heap.size w w' → rowF X vq u xs j σ c w' := by
  intro j hj σ c w w' h hb
  simp only [List.mem_cons, List.not_mem_nil, or_false] at hj; rcases hj with rfl | rfl | rfl | rfl | rfl | rfl
  · exact h
  · exact h
  · exact h
  · exact h
  · exact ⟨h.1.below hb, h.2.1.below hb, h.2.2⟩
  · obtain ⟨b, h1, h2⟩ := h
    exact ⟨b, h1, (World.cell?_of_block (a := ⟨b, 0, none⟩) (hb.block b (lt_of_cell h2))).trans h2⟩
theorem rowF_loc {X : Nat} {vq u : Value} {xs : List Int} {j i : Nat} {σ : Nat → Value} {c : Nat → Nat × Nat} {w : World} {v : Value} {r : Nat × Nat} (hj : j ∈ [0, 1, 2, 3, 4, 5]) (hne : i ≠ j) (hd : j = 5 → i ≠ 4) (h : rowF X vq u xs j σ c w) : rowF X vq u xs j (upd σ i v) (upd c i r) w := by
  simp only [List.mem_cons, List.not_mem_nil, or_false] at hj; rcases hj with rfl | rfl | rfl | rfl | rfl | rfl
  · simp only [rowF, upd_other _ _ (Ne.symm hne)] at h ⊢; exact h
  · simp only [rowF, upd_other _ _ (Ne.symm hne)] at h ⊢; exact h
  · simp only [rowF, upd_other _ _ (Ne.symm hne)] at h ⊢; exact h
  · simp only [rowF, upd_other _ _ (Ne.symm hne)] at h ⊢; exact h
  · simp only [rowF, upd_other _ _ (Ne.symm hne)] at h ⊢; exact h
  · simp only [rowF, upd_other _ _ (Ne.symm hne), upd_other _ _ (Ne.symm (hd rfl))] at h ⊢; exact h
end Go.Proofs.Ytnnmiddhbeiogba
namespace Go.Proofs.Ytnnmiddhbeiogba
open Go.RowKit

/-- What the operations of the first statement make. -/
def ownF (A : Nat) (v0 v2 v3 : Value) (z : Int) (D : TuD) : Nat → (Nat → Value) → (Nat → Nat × Nat) → World → Prop
  | 0, σ, _, _ => ∃ b, σ 0 = .slice (some ⟨b, 0, none⟩) 0 0
  | 1, σ, _, _ => σ 1 = .pointer (some ⟨A, 0, none⟩)
  | 2, σ, _, _ => σ 2 = v0
  | 3, σ, c, w => KOwn (c 3).1 (c 3).2 w (σ 3) D.f0 ∧ ∃ a n k, σ 3 = .slice a n k
  | 4, σ, _, _ => ∃ b, σ 4 = .slice (some ⟨b, 0, none⟩) 0 0
  | 5, σ, _, _ => σ 5 = .pointer (some ⟨A, 2, none⟩)
  | 6, σ, _, _ => σ 6 = v2
  | 7, σ, c, w => KOwn (c 7).1 (c 7).2 w (σ 7) D.f2 ∧ ∃ a n k, σ 7 = .slice a n k
  | 8, σ, _, _ => ∃ b, σ 8 = .slice (some ⟨b, 0, none⟩) 0 0
  | 9, σ, _, _ => σ 9 = .pointer (some ⟨A, 3, none⟩)
  | 10, σ, _, _ => σ 10 = v3
  | 11, σ, c, w => KOwn (c 11).1 (c 11).2 w (σ 11) D.f3 ∧ ∃ a n k, σ 11 = .slice a n k
  | 12, σ, _, _ => σ 12 = .pointer (some ⟨A, 4, none⟩)
  | 13, σ, _, _ => σ 13 = .int .i64 z
  | 14, σ, _, _ => σ 14 = .agg #[σ 3, .slice none 0 0, σ 7, σ 11, σ 13]
  | 15, σ, c, w => σ 15 = .pointer (some ⟨(c 15).1, 0, none⟩) ∧ BoxL w (c 15).1 [.slice none 0 0, .slice none 0 0, .slice none 0 0, .slice none 0 0, .int .i64 0] ∧ (c 15).2 = (c 15).1 + 1
  | _ + 16, _, _, _ => True
theorem ownF_keep {A : Nat} {v0 v2 v3 : Value} {z : Int} {D : TuD} : ∀ j ∈ [0, 1, 2, 3, 4, 5, 6, 7, 8, 9, 10, 11, 12, 13, 14, 15], ∀ σ c w w', ownF A v0 v2 v3 z D j σ c w → Below w.heap.size w w' → ownF A v0 v2 v3 z D j σ c w' := by
  intro j hj σ c w w' h hb
  simp only [List.mem_cons, List.not_mem_nil, or_false] at hj; rcases hj with rfl | rfl | rfl | rfl | rfl | rfl | rfl | rfl | rfl | rfl | rfl | rfl | rfl | rfl | rfl | rfl
  · exact h
  · exact h
  · exact h
  · exact ⟨h.1.below hb, h.2⟩
  · exact h
  · exact h
  · exact h
  · exact ⟨h.1.below hb, h.2⟩
  · exact h
  · exact h
  · exact h
  · exact ⟨h.1.below hb, h.2⟩
  · exact h
  · exact h
  · exact h
  · exact ⟨h.1, h.2.1.below hb h.2.1.lt, h.2.2⟩
theorem ownF_loc {A : Nat} {v0 v2 v3 : Value} {z : Int} {D : TuD} {j i : Nat} {σ : Nat → Value} {c : Nat → Nat × Nat} {w : World} {v : Value} {r : Nat × Nat} (hj : j ∈ [0, 1, 2, 3, 4, 5, 6, 7, 8, 9, 10, 11, 12, 13, 14, 15]) (hne : i ≠ j) (hd : j = 14 → i ≠ 3 ∧ i ≠ 7 ∧ i ≠ 11 ∧ i ≠ 13) (h : ownF A v0 v2 v3 z D j σ c w) : ownF A v0 v2 v3 z D j (upd σ i v) (upd c i r) w := by
  simp only [List.mem_cons, List.not_mem_nil, or_false] at hj; rcases hj with rfl | rfl | rfl | rfl | rfl | rfl | rfl | rfl | rfl | rfl | rfl | rfl | rfl | rfl | rfl | rfl
  · simp only [ownF, upd_other _ _ (Ne.symm hne)] at h ⊢
    exact h
  · simp only [ownF, upd_other _ _ (Ne.symm hne)] at h ⊢
    exact h
  · simp only [ownF, upd_other _ _ (Ne.symm hne)] at h ⊢
    exact h
  · simp only [ownF, upd_other _ _ (Ne.symm hne)] at h ⊢
    exact h
  · simp only [ownF, upd_other _ _ (Ne.symm hne)] at h ⊢
    exact h
  · simp only [ownF, upd_other _ _ (Ne.symm hne)] at h ⊢
    exact h
  · simp only [ownF, upd_other _ _ (Ne.symm hne)] at h ⊢
    exact h
  · simp only [ownF, upd_other _ _ (Ne.symm hne)] at h ⊢
    exact h
  · simp only [ownF, upd_other _ _ (Ne.symm hne)] at h ⊢
    exact h
  · simp only [ownF, upd_other _ _ (Ne.symm hne)] at h ⊢
    exact h
  · simp only [ownF, upd_other _ _ (Ne.symm hne)] at h ⊢
    exact h
  · simp only [ownF, upd_other _ _ (Ne.symm hne)] at h ⊢
    exact h
  · simp only [ownF, upd_other _ _ (Ne.symm hne)] at h ⊢
    exact h
  · simp only [ownF, upd_other _ _ (Ne.symm hne)] at h ⊢
    exact h
  · obtain ⟨d3, d7, d11, d13⟩ := hd rfl
    simp only [ownF, upd_other _ _ (Ne.symm hne), upd_other _ _ (Ne.symm d3), upd_other _ _ (Ne.symm d7), upd_other _ _ (Ne.symm d11), upd_other _ _ (Ne.symm d13)] at h ⊢
    exact h
  · simp only [ownF, upd_other _ _ (Ne.symm hne)] at h ⊢
    exact h
set_option maxRecDepth 100000 in
set_option maxHeartbeats 16000000 in
theorem sown_any (v : Value) (D : TuD) (w : World) (hr : TuReads w v D) (hg : GoodT D) :
    Calls Try.prog 39 #[v] w fun e w' => ∃ u0, e = .returned u0 ∧ TuOwnA (Iv w.heap.size w'.heap.size) w' u0 D ∧ Below w.heap.size w w' := by
  obtain ⟨v0, v1, v2, v3, rfl, r0, r1, r2, r3⟩ := hr
  have hn := hg.n
  have L1 := hg.l1
  have L2 := hg.l2
  have L3 := hg.l3
  have HG := hid hg
  obtain ⟨g0, o0, p0, e0, h0⟩ := r0.cells 0 (by omega)
  obtain ⟨g2, o2, p2, e2, h2⟩ := r2.cells 0 (by omega)
  obtain ⟨g3, o3, p3, e3, h3⟩ := r3.cells 0 (by omega)
  obtain ⟨g1, o1, p1, e1, h1⟩ := r1.cells 0 (by omega)
  rw [L2] at e2
  rw [L3] at e3
  have H0 := hid h0
  have H1 := hid h1
  have H2 := hid h2
  have H3 := hid h3
  have HL1 := hid L1
  have HL2 := hid L2
  have HL3 := hid L3
  rw [L1] at e1
  subst e0 e1 e2 e3
  obtain ⟨z, hz⟩ : ∃ z, z = D.f4 := ⟨_, rfl⟩
  have HZ := hid hz
  rw [← hz]
  obtain ⟨i0, hi, hz0, hz1, hz2⟩ := info_parts info_int
  clear r0 r1 r2 r3 h0 h1 h2 h3 L1 L2 L3 hg hz
  have PA := hid (boxL_new w [.slice (some ⟨g0, o0, none⟩) D.f0.length p0, .slice (some ⟨g1, o1, none⟩) D.f0.length p1, .slice (some ⟨g2, o2, none⟩) D.f0.length p2, .slice (some ⟨g3, o3, none⟩) D.f0.length p3, .int .i64 z] 28)
  have PR := hid (boxL_new (w.alloc (.cells #[.slice (some ⟨g0, o0, none⟩) D.f0.length p0, .slice (some ⟨g1, o1, none⟩) D.f0.length p1, .slice (some ⟨g2, o2, none⟩) D.f0.length p2, .slice (some ⟨g3, o3, none⟩) D.f0.length p3, .int .i64 z] 28)) [.slice none 0 0, .slice none 0 0, .slice none 0 0, .slice none 0 0, .int .i64 0] 28)
  replace PA := hid (PA.out.below ((Below.refl _ _).alloc (Nat.le_refl _) (.cells #[.slice none 0 0, .slice none 0 0, .slice none 0 0, .slice none 0 0, .int .i64 0] 28)) PA.out.lt)
  rw [World.size_alloc] at PR
  have B : Hid (Below w.heap.size w ((w.alloc (.cells #[.slice (some ⟨g0, o0, none⟩) D.f0.length p0, .slice (some ⟨g1, o1, none⟩) D.f0.length p1, .slice (some ⟨g2, o2, none⟩) D.f0.length p2, .slice (some ⟨g3, o3, none⟩) D.f0.length p3, .int .i64 z] 28)).alloc (.cells #[.slice none 0 0, .slice none 0 0, .slice none 0 0, .slice none 0 0, .int .i64 0] 28))) := ((Below.refl _ _).alloc (Nat.le_refl _) _).alloc (by simp) _
  have hsz : ((w.alloc (.cells #[.slice (some ⟨g0, o0, none⟩) D.f0.length p0, .slice (some ⟨g1, o1, none⟩) D.f0.length p1, .slice (some ⟨g2, o2, none⟩) D.f0.length p2, .slice (some ⟨g3, o3, none⟩) D.f0.length p3, .int .i64 z] 28)).alloc (.cells #[.slice none 0 0, .slice none 0 0, .slice none 0 0, .slice none 0 0, .int .i64 0] 28)).heap.size = w.heap.size + 2 := by rw [World.size_alloc, World.size_alloc]
  go_enter Try.func39, Try.ntmps39
  go_wp2_with fail
  refine wp_region_any (by kernel_rfl) ?_
  change wpAny _ _ _ _ _ _ _ (World.drew _)
  obtain ⟨W, hW⟩ : ∃ W, W = World.drew ((w.alloc (.cells #[.slice (some ⟨g0, o0, none⟩) D.f0.length p0, .slice (some ⟨g1, o1, none⟩) D.f0.length p1, .slice (some ⟨g2, o2, none⟩) D.f0.length p2, .slice (some ⟨g3, o3, none⟩) D.f0.length p3, .int .i64 z] 28)).alloc (.cells #[.slice none 0 0, .slice none 0 0, .slice none 0 0, .slice none 0 0, .int .i64 0] 28)) := ⟨_, rfl⟩
  have BW : Hid (Below w.heap.size w W) := by rw [hW]; exact B.out.drew
  have hWs : W.heap.size = w.heap.size + 2 := by rw [hW]; exact hsz
  have HA : Hid (BoxL W w.heap.size [.slice (some ⟨g0, o0, none⟩) D.f0.length p0, .slice (some ⟨g1, o1, none⟩) D.f0.length p1, .slice (some ⟨g2, o2, none⟩) D.f0.length p2, .slice (some ⟨g3, o3, none⟩) D.f0.length p3, .int .i64 z]) := by rw [hW]; exact PA.out
  have HR : Hid (BoxL W (w.heap.size + 1) [.slice none 0 0, .slice none 0 0, .slice none 0 0, .slice none 0 0, .int .i64 0]) := by rw [hW]; exact PR.out
  rw [← hW]
  clear hW hsz PA PR B
  refine wpAny_facts' 1 (Array.replicate 17 false) #[true, true, true, true, true, true, true, true, true, true, true, true, true, true, true, true, false] [0, 1, 2, 3, 4, 5, 6, 7, 8, 9, 10, 11, 12, 13, 14, 15] (fun σ => #[.agg #[.slice (some ⟨g0, o0, none⟩) D.f0.length p0, .slice (some ⟨g1, o1, none⟩) D.f0.length p1, .slice (some ⟨g2, o2, none⟩) D.f0.length p2, .slice (some ⟨g3, o3, none⟩) D.f0.length p3, .int .i64 z], .pointer (some ⟨w.heap.size, 0, none⟩), .pointer (some ⟨w.heap.size + 1, 0, none⟩), σ 15, undef, undef, σ 0, σ 1, σ 2, σ 3, σ 4, σ 5, σ 6, σ 7, σ 8, σ 9, σ 10, σ 11, σ 12, σ 13, σ 14, undef, undef, undef, undef, undef, undef, undef, undef, undef, undef, undef, undef, undef, undef, undef, undef, undef]) (ownF w.heap.size (.slice (some ⟨g0, o0, none⟩) D.f0.length p0) (.slice (some ⟨g2, o2, none⟩) D.f0.length p2) (.slice (some ⟨g3, o3, none⟩) D.f0.length p3) z D) (fun _ => undef) rfl (by kernel_rfl) (by kernel_rfl) (by kernel_rfl) (by kernel_rfl) (by decide) ownF_keep (fun j hj i hi σ c w v r hne hd h => ownF_loc hj hne (fun e => by subst e; exact ⟨(hd 3 (by decide)).symm, (hd 7 (by decide)).symm, (hd 11 (by decide)).symm, (hd 13 (by decide)).symm⟩) h) ?_ ?_
  · intro σ c wr hb hf hin hdj
    obtain ⟨k3, a3, m3, q3, e3⟩ : ownF _ _ _ _ _ _ 3 σ c wr := hf 3 (by decide)
    obtain ⟨k7, a7, m7, q7, e7⟩ : ownF _ _ _ _ _ _ 7 σ c wr := hf 7 (by decide)
    obtain ⟨k11, a11, m11, q11, e11⟩ : ownF _ _ _ _ _ _ 11 σ c wr := hf 11 (by decide)
    have e13 : ownF _ _ _ _ _ _ 13 σ c wr := hf 13 (by decide)
    have e14 : ownF _ _ _ _ _ _ 14 σ c wr := hf 14 (by decide)
    obtain ⟨e15, hX, hc15⟩ : ownF _ _ _ _ _ _ 15 σ c wr := hf 15 (by decide)
    simp only [ownF] at e13 e14
    rw [e3] at k3 e14
    rw [e7] at k7 e14
    rw [e11] at k11 e14
    rw [e13] at e14
    have n3 := hin 3 (by decide)
    have n7 := hin 7 (by decide)
    have n11 := hin 11 (by decide)
    have n15 := hin 15 (by decide)
    have d3_7 := hdj 3 (by decide) 7 (by decide) (by decide)
    have d3_11 := hdj 3 (by decide) 11 (by decide) (by decide)
    have d3_15 := hdj 3 (by decide) 15 (by decide) (by decide)
    have d7_11 := hdj 7 (by decide) 11 (by decide) (by decide)
    have d7_15 := hdj 7 (by decide) 15 (by decide) (by decide)
    have d11_15 := hdj 11 (by decide) 15 (by decide) (by decide)
    clear hf hin hdj
    dsimp only
    rw [e3, e7, e11, e13, e14, e15]
    generalize c 3 = c3 at k3 n3 d3_7 d3_11 d3_15
    generalize c 7 = c7 at k7 n7 d3_7 d7_11 d7_15
    generalize c 11 = c11 at k11 n11 d3_11 d7_11 d11_15
    generalize c 15 = c15 at hX hc15 n15 d3_15 d7_15 d11_15 ⊢
    obtain ⟨X, hXc⟩ : ∃ X, X = c15.1 := ⟨_, rfl⟩
    have ec : c15 = (X, X + 1) := by rw [hXc]; exact Prod.ext rfl hc15
    subst ec
    clear hc15 hXc
    simp only at hX n15 ⊢
    have HB := hid (BW.out.trans (hb.mono BW.out.size))
    have PA := hid (HA.out.below hb HA.out.lt)
    have PR := hid (HR.out.below hb HR.out.lt)
    have hbs := hb.size
    have OL := hid (OwnL.start (lo := w.heap.size + 2) (z := z) hX k3 k7 k11 (by omega) (by omega) (by omega) (by omega) d3_7 d3_11 d7_11 d3_15 d7_15 d11_15)
    have op := put5_only wr X (.slice a3 m3 q3) (.slice none 0 0) (.slice a7 m7 q7) (.slice a11 m11 q11) (.int .i64 z)
    have HB2 := hid (HB.out.trans (op.below fun j e => by omega))
    have PA2 := hid (PA.out.of_block (op.2.1 _ (by omega)))
    have PR2 := hid (PR.out.of_block (op.2.1 _ (by omega)))
    obtain ⟨y0, y1, y2, y3, y4⟩ := hX.five
    have x0 := (hX.cell 0 (by simp)).2
    have x1 := (hX.cell 1 (by simp)).2
    have x2 := (hX.cell 2 (by simp)).2
    have x3 := (hX.cell 3 (by simp)).2
    have x4 := (hX.cell 4 (by simp)).2
    have hXlo : w.heap.size + 2 ≤ X := by omega
    clear k3 k7 k11 n3 n7 n11 n15 d3_7 d3_11 d3_15 d7_11 d7_15 d11_15 op hX HB PA PR hb hbs HA HR BW e3 e7 e11 e13 e14 e15 hWs
    refine wpAny_ready (rs := [16]) (by kernel_rfl) (by simp) ?_
    refine AllReady.cons rfl (fun K hK => ?_) AllReady.nil
    go_simp
    refine hK _ _ ?_
    clear hK K
    refine wpAny_done (by kernel_rfl) ?_ _
    obtain ⟨W2, hW2⟩ : ∃ W2, W2 = put5 wr X (.slice a3 m3 q3) (.slice none 0 0) (.slice a7 m7 q7) (.slice a11 m11 q11) (.int .i64 z) := ⟨_, rfl⟩
    rw [← hW2] at OL HB2 PA2 PR2
    simp only [put5] at hW2
    rw [← hW2]
    clear hW2 y0 y1 y2 y3 y4 x0 x1 x2 x3 x4
    obtain ⟨y0, y1, y2, y3, y4⟩ := PA2.out.five
    go_wp2_with fail
    clear y0 y1 y2 y3 y4
    go_loopw [24] (fun n wx => ∃ (i : Nat) (vq : Value) (us : List Value) (c1 : Nat × Nat) (iv : Nat → Nat × Nat), n = .int .i64 i ∧ i ≤ D.f0.length ∧ OwnL (w.heap.size + 2) X D z (.slice a3 m3 q3) (.slice a7 m7 q7) (.slice a11 m11 q11) c3 c7 c11 i wx vq us c1 iv ∧ Below w.heap.size w wx ∧ BoxL wx w.heap.size [.slice (some ⟨g0, o0, none⟩) D.f0.length p0, .slice (some ⟨g1, o1, none⟩) D.f0.length p1, .slice (some ⟨g2, o2, none⟩) D.f0.length p2, .slice (some ⟨g3, o3, none⟩) D.f0.length p3, .int .i64 z] ∧ BoxL wx (w.heap.size + 1) [.slice none 0 0, .slice none 0 0, .slice none 0 0, .slice none 0 0, .int .i64 0]) (fun n _ => D.f0.length - (intOf n).toNat)
    case atStart => exact ⟨0, _, _, _, _, rfl, by omega, OL.out, HB2.out, PA2.out, PR2.out⟩
    case round =>
      obtain ⟨i, vq, us, c1, iv, rfl, hi2, hL, hB, hA, hR⟩ := hrel
      have HL := hid hL
      have HB := hid hB
      have HA := hid hA
      have HR := hid hR
      clear hL hB hA hR OL HB2 PA2 PR2
      by_cases hlt : i < D.f0.length
      · obtain ⟨u, cu, hu⟩ := H1.out i (by rw [HL1.out]; exact hlt)
        have CU := World.cell?_of_block (a := ⟨g1, o1 + i, none⟩) (HB.out.block g1 (lt_of_cell cu))
        rw [cu] at CU
        have HU := hid (hu.below HB.out)
        obtain ⟨au, nu, ku, eu⟩ : ∃ a n k, u = .slice a n k := by obtain ⟨a, k, e, _⟩ := hu; exact ⟨a, _, k, e⟩
        subst eu
        clear cu hu
        have n0 : (0 : Int) ≤ (i : Int) := by omega
        have n1 : (i : Int) < (D.f0.length : Int) := by omega
        have hlen : (D.f1.getD i []).length ≤ 30 := (HG.out.k i (by rw [HL1.out]; exact hlt)).1
        have HV := hid (sform_of_owns HL.out.row)
        obtain ⟨av, kv, ev⟩ := HV.out
        subst ev
        go_wp2_with fail
        refine wp_region_any (by kernel_rfl) ?_
        change wpAny _ _ _ _ _ _ _ (World.drew _)
        obtain ⟨wz, hwz⟩ : ∃ wz, wz = World.drew wr := ⟨_, rfl⟩
        replace HL : Hid (OwnL (w.heap.size + 2) X D z (.slice a3 m3 q3) (.slice a7 m7 q7) (.slice a11 m11 q11) c3 c7 c11 i wz (.slice av i kv) us c1 iv) := by rw [hwz]; exact HL.out.drew
        replace HB : Hid (Below w.heap.size w wz) := by rw [hwz]; exact HB.out.drew
        replace HA : Hid (BoxL wz w.heap.size [.slice (some ⟨g0, o0, none⟩) D.f0.length p0, .slice (some ⟨g1, o1, none⟩) D.f0.length p1, .slice (some ⟨g2, o2, none⟩) D.f0.length p2, .slice (some ⟨g3, o3, none⟩) D.f0.length p3, .int .i64 z]) := by rw [hwz]; exact HA.out
        replace HR : Hid (BoxL wz (w.heap.size + 1) [.slice none 0 0, .slice none 0 0, .slice none 0 0, .slice none 0 0, .int .i64 0]) := by rw [hwz]; exact HR.out
        replace HU : Hid (KReads wz (.slice au nu ku) (D.f1.getD i [])) := by rw [hwz]; exact HU.out
        rw [← hwz]
        clear hwz
        refine wpAny_facts' 3 (Array.replicate 9 false) #[true, true, true, true, true, true, false, false, false] [0, 1, 2, 3, 4, 5] (fun τ : Nat → Value => #[.agg #[.slice (some ⟨g0, o0, none⟩) D.f0.length p0, .slice (some ⟨g1, o1, none⟩) D.f0.length p1, .slice (some ⟨g2, o2, none⟩) D.f0.length p2, .slice (some ⟨g3, o3, none⟩) D.f0.length p3, .int .i64 z], .pointer (some ⟨w.heap.size, 0, none⟩), .pointer (some ⟨w.heap.size + 1, 0, none⟩), .pointer (some ⟨X, 0, none⟩), undef, .slice au nu ku, σ 0, σ 1, σ 2, .slice a3 m3 q3, σ 4, σ 5, σ 6, .slice a7 m7 q7, σ 8, σ 9, σ 10, .slice a11 m11 q11, σ 12, .int .i64 z, .agg #[.slice a3 m3 q3, .slice none 0 0, .slice a7 m7 q7, .slice a11 m11 q11, .int .i64 z], .pointer (some ⟨w.heap.size, 1, none⟩), .slice (some ⟨g1, o1, none⟩) D.f0.length p1, .int .i64 (D.f0.length : Nat), .int .i64 (i : Nat), .bool true, .pointer (some ⟨g1, o1 + i, none⟩), .slice au nu ku, τ 0, τ 1, τ 2, τ 3, τ 4, τ 5, u34, u35, u36, undef]) (rowF X (.slice av i kv) (.slice au nu ku) (D.f1.getD i [])) (fun | 0 => u28 | 1 => u29 | 2 => u30 | 3 => u31 | 4 => u32 | 5 => u33 | _ => undef) rfl (by kernel_rfl) (by kernel_rfl) (by kernel_rfl) (by kernel_rfl) (by decide) rowF_keep (fun j hj i hi σ c w v r hne hd h => rowF_loc hj hne (fun e => by subst e; exact (hd 4 (by decide)).symm) h) ?_ ?_
        · intro τ c wy hb hf hin hdj
          obtain ⟨k4, ka4, a4, m4, q4, e4⟩ : rowF _ _ _ _ 4 τ c wy := hf 4 (by decide)
          obtain ⟨b5, e5, h5⟩ : rowF _ _ _ _ 5 τ c wy := hf 5 (by decide)
          have e1 : rowF _ _ _ _ 1 τ c wy := hf 1 (by decide)
          simp only [rowF] at e1
          have n4 := hin 4 (by decide)
          rw [e4] at k4 ka4 h5
          clear hf hin hdj
          dsimp only
          rw [e1, e4, e5]
          refine wpAny_ready (rs := [6]) (by kernel_rfl) (by simp) ?_
          refine AllReady.cons rfl (fun K hK => ?_) AllReady.nil
          have hbs := hb.size
          refine step_append_row (by rfl) _ _ (by rfl) (w.heap.size + 2) (.slice av i kv) i us (by rfl) (owns_at HL.out.row fun g _ hg => hb.block g hg) b5 1 a4 m4 q4 (by rfl) h5 (by omega) (by have := HL.out.ap.inn 0 (by omega); simp only [ivc] at this; omega) ?_
          intro v6 w6 ho6 hg6 hv6
          refine hK _ _ ?_
          clear hK K
          obtain ⟨c1', hN⟩ := HL.out.next hb n4 k4 ka4 ho6 hg6 hv6
          obtain ⟨a6, k6, e6⟩ := sform_of_owns ho6
          have hbx : BoxL w6 X [.slice a3 m3 q3, .slice av i kv, .slice a7 m7 q7, .slice a11 m11 q11, .int .i64 z] := HL.out.far hb hg6
          have HN := hid hN
          have hX2 := (HL.out.ap.inn 0 (by omega)).1
          simp only [ivc] at hX2
          have HB6 : Hid (Below w.heap.size w (w6.setCell ⟨X, 1, none⟩ v6)) := ((HB.out.trans (hb.mono HB.out.size)).trans ((Below.refl _ _).grown hg6 (by have := HB.out.size; omega) (fun g e => by have := (owns_lt HL.out.row g e).1; have := HB.out.size; omega))).trans ((onlyP_set w6 X 1 v6).below (fun j e => by omega))
          have HA6 : Hid (BoxL (w6.setCell ⟨X, 1, none⟩ v6) w.heap.size [.slice (some ⟨g0, o0, none⟩) D.f0.length p0, .slice (some ⟨g1, o1, none⟩) D.f0.length p1, .slice (some ⟨g2, o2, none⟩) D.f0.length p2, .slice (some ⟨g3, o3, none⟩) D.f0.length p3, .int .i64 z]) := ((HA.out.below hb HA.out.lt).of_block (grown_at hg6 _ (by have := HA.out.lt; omega) (fun e => by have := (owns_lt HL.out.row _ e).1; omega))).of_block (Below.heap_setCell _ _ _ _ (by show w.heap.size ≠ X; omega))
          have HR6 : Hid (BoxL (w6.setCell ⟨X, 1, none⟩ v6) (w.heap.size + 1) [.slice none 0 0, .slice none 0 0, .slice none 0 0, .slice none 0 0, .int .i64 0]) := ((HR.out.below hb HR.out.lt).of_block (grown_at hg6 _ (by have := HR.out.lt; omega) (fun e => by have := (owns_lt HL.out.row _ e).1; omega))).of_block (Below.heap_setCell _ _ _ _ (by show w.heap.size + 1 ≠ X; omega))
          obtain ⟨y0, y1, y2, y3, y4⟩ := hbx.five
          have x1 := (hbx.cell 1 (by simp)).2
          subst e6
          clear hN hbx ho6 hg6 hv6 h5 k4 ka4 n4 hb hbs HL HB HA HR HU e1 e4 e5
          refine wpAny_ready (rs := [7]) (by kernel_rfl) (by simp) ?_
          refine AllReady.cons rfl (fun K hK => ?_) AllReady.nil
          go_simp
          refine hK _ _ ?_
          clear hK K
          refine wpAny_ready (rs := [8]) (by kernel_rfl) (by simp) ?_
          refine AllReady.cons rfl (fun K hK => ?_) AllReady.nil
          go_simp
          refine hK _ _ ?_
          clear hK K
          refine wpAny_done (by kernel_rfl) ?_ _
          go_wp2
          go_roundw
          case rel => exact ⟨i + 1, _, _, _, _, by go_num, by omega, HN.out, HB6.out, HA6.out, HR6.out⟩
          case measure => simp [intOf]; omega
        · intro i' hi' τ c wy hb hd
          simp only [List.mem_cons, List.not_mem_nil, or_false] at hi'; rcases hi' with rfl | rfl | rfl | rfl | rfl | rfl
          · skip
            clear hd
            refine StepF.of (a1 := ⟨#[.agg #[.slice (some ⟨g0, o0, none⟩) D.f0.length p0, .slice (some ⟨g1, o1, none⟩) D.f0.length p1, .slice (some ⟨g2, o2, none⟩) D.f0.length p2, .slice (some ⟨g3, o3, none⟩) D.f0.length p3, .int .i64 z], .pointer (some ⟨w.heap.size, 0, none⟩), .pointer (some ⟨w.heap.size + 1, 0, none⟩), .pointer (some ⟨X, 0, none⟩), undef, .slice au nu ku, σ 0, σ 1, σ 2, .slice a3 m3 q3, σ 4, σ 5, σ 6, .slice a7 m7 q7, σ 8, σ 9, σ 10, .slice a11 m11 q11, σ 12, .int .i64 z, .agg #[.slice a3 m3 q3, .slice none 0 0, .slice a7 m7 q7, .slice a11 m11 q11, .int .i64 z], .pointer (some ⟨w.heap.size, 1, none⟩), .slice (some ⟨g1, o1, none⟩) D.f0.length p1, .int .i64 (D.f0.length : Nat), .int .i64 (i : Nat), .bool true, .pointer (some ⟨g1, o1 + i, none⟩), .slice au nu ku, τ 0, τ 1, τ 2, τ 3, τ 4, τ 5, u34, u35, u36, undef], []⟩) rfl rfl (fun _ => rfl) (fun K hK => ?_)
            go_simp
            exact hK _ _ (Below.refl _ _) rfl
          · skip
            have f0 : rowF _ _ _ _ 0 τ c wy := hd 0 (by decide) (by decide)
            clear hd
            simp only [rowF] at f0
            refine StepF.of (a1 := ⟨#[.agg #[.slice (some ⟨g0, o0, none⟩) D.f0.length p0, .slice (some ⟨g1, o1, none⟩) D.f0.length p1, .slice (some ⟨g2, o2, none⟩) D.f0.length p2, .slice (some ⟨g3, o3, none⟩) D.f0.length p3, .int .i64 z], .pointer (some ⟨w.heap.size, 0, none⟩), .pointer (some ⟨w.heap.size + 1, 0, none⟩), .pointer (some ⟨X, 0, none⟩), undef, .slice au nu ku, σ 0, σ 1, σ 2, .slice a3 m3 q3, σ 4, σ 5, σ 6, .slice a7 m7 q7, σ 8, σ 9, σ 10, .slice a11 m11 q11, σ 12, .int .i64 z, .agg #[.slice a3 m3 q3, .slice none 0 0, .slice a7 m7 q7, .slice a11 m11 q11, .int .i64 z], .pointer (some ⟨w.heap.size, 1, none⟩), .slice (some ⟨g1, o1, none⟩) D.f0.length p1, .int .i64 (D.f0.length : Nat), .int .i64 (i : Nat), .bool true, .pointer (some ⟨g1, o1 + i, none⟩), .slice au nu ku, (.pointer (some ⟨X, 1, none⟩)), τ 1, τ 2, τ 3, τ 4, τ 5, u34, u35, u36, undef], []⟩) (by simp only [f0]) rfl (fun _ => rfl) (fun K hK => ?_)
            obtain ⟨y0, y1, y2, y3, y4⟩ := (HL.out.box.below hb HL.out.box.lt).five
            go_simp
            exact hK _ _ (Below.refl _ _) rfl
          · skip
            clear hd
            refine StepF.of (a1 := ⟨#[.agg #[.slice (some ⟨g0, o0, none⟩) D.f0.length p0, .slice (some ⟨g1, o1, none⟩) D.f0.length p1, .slice (some ⟨g2, o2, none⟩) D.f0.length p2, .slice (some ⟨g3, o3, none⟩) D.f0.length p3, .int .i64 z], .pointer (some ⟨w.heap.size, 0, none⟩), .pointer (some ⟨w.heap.size + 1, 0, none⟩), .pointer (some ⟨X, 0, none⟩), undef, .slice au nu ku, σ 0, σ 1, σ 2, .slice a3 m3 q3, σ 4, σ 5, σ 6, .slice a7 m7 q7, σ 8, σ 9, σ 10, .slice a11 m11 q11, σ 12, .int .i64 z, .agg #[.slice a3 m3 q3, .slice none 0 0, .slice a7 m7 q7, .slice a11 m11 q11, .int .i64 z], .pointer (some ⟨w.heap.size, 1, none⟩), .slice (some ⟨g1, o1, none⟩) D.f0.length p1, .int .i64 (D.f0.length : Nat), .int .i64 (i : Nat), .bool true, .pointer (some ⟨g1, o1 + i, none⟩), .slice au nu ku, τ 0, τ 1, τ 2, τ 3, τ 4, τ 5, u34, u35, u36, undef], []⟩) rfl rfl (fun _ => rfl) (fun K hK => ?_)
            go_simp
            exact hK _ _ ((Below.refl _ _).alloc (Nat.le_refl _) _) ⟨_, rfl⟩
          · skip
            clear hd
            refine StepF.of (a1 := ⟨#[.agg #[.slice (some ⟨g0, o0, none⟩) D.f0.length p0, .slice (some ⟨g1, o1, none⟩) D.f0.length p1, .slice (some ⟨g2, o2, none⟩) D.f0.length p2, .slice (some ⟨g3, o3, none⟩) D.f0.length p3, .int .i64 z], .pointer (some ⟨w.heap.size, 0, none⟩), .pointer (some ⟨w.heap.size + 1, 0, none⟩), .pointer (some ⟨X, 0, none⟩), undef, .slice au nu ku, σ 0, σ 1, σ 2, .slice a3 m3 q3, σ 4, σ 5, σ 6, .slice a7 m7 q7, σ 8, σ 9, σ 10, .slice a11 m11 q11, σ 12, .int .i64 z, .agg #[.slice a3 m3 q3, .slice none 0 0, .slice a7 m7 q7, .slice a11 m11 q11, .int .i64 z], .pointer (some ⟨w.heap.size, 1, none⟩), .slice (some ⟨g1, o1, none⟩) D.f0.length p1, .int .i64 (D.f0.length : Nat), .int .i64 (i : Nat), .bool true, .pointer (some ⟨g1, o1 + i, none⟩), .slice au nu ku, τ 0, τ 1, τ 2, τ 3, τ 4, τ 5, u34, u35, u36, undef], []⟩) rfl rfl (fun _ => rfl) (fun K hK => ?_)
            go_simp
            exact hK _ _ (Below.refl _ _) rfl
          · skip
            have f2 : rowF _ _ _ _ 2 τ c wy := hd 2 (by decide) (by decide)
            have f3 : rowF _ _ _ _ 3 τ c wy := hd 3 (by decide) (by decide)
            clear hd
            obtain ⟨bb, f2⟩ := f2
            simp only [rowF] at f3
            refine StepF.of (a1 := ⟨#[.agg #[.slice (some ⟨g0, o0, none⟩) D.f0.length p0, .slice (some ⟨g1, o1, none⟩) D.f0.length p1, .slice (some ⟨g2, o2, none⟩) D.f0.length p2, .slice (some ⟨g3, o3, none⟩) D.f0.length p3, .int .i64 z], .pointer (some ⟨w.heap.size, 0, none⟩), .pointer (some ⟨w.heap.size + 1, 0, none⟩), .pointer (some ⟨X, 0, none⟩), undef, .slice au nu ku, σ 0, σ 1, σ 2, .slice a3 m3 q3, σ 4, σ 5, σ 6, .slice a7 m7 q7, σ 8, σ 9, σ 10, .slice a11 m11 q11, σ 12, .int .i64 z, .agg #[.slice a3 m3 q3, .slice none 0 0, .slice a7 m7 q7, .slice a11 m11 q11, .int .i64 z], .pointer (some ⟨w.heap.size, 1, none⟩), .slice (some ⟨g1, o1, none⟩) D.f0.length p1, .int .i64 (D.f0.length : Nat), .int .i64 (i : Nat), .bool true, .pointer (some ⟨g1, o1 + i, none⟩), .slice au nu ku, τ 0, τ 1, (.slice (some ⟨bb, 0, none⟩) 0 0), (.slice au nu ku), τ 4, τ 5, u34, u35, u36, undef], []⟩) (by simp only [f2, f3]) rfl (fun _ => rfl) (fun K hK => ?_)
            refine step_clone_lit (by rfl) _ _ (by rfl) bb (by rfl) (.slice au nu ku) (D.f1.getD i []) (by rfl) (HU.out.below hb) (by have := hlen; omega) ?_
            intro u2 w2 k2 ka2 b2
            exact hK u2 w2 b2 ⟨k2, ka2, k2.sform⟩
          · skip
            have f4 : rowF _ _ _ _ 4 τ c wy := hd 4 (by decide) (by decide)
            clear hd
            obtain ⟨_, _, a4, m4, q4, f4⟩ := f4
            refine StepF.of (a1 := ⟨#[.agg #[.slice (some ⟨g0, o0, none⟩) D.f0.length p0, .slice (some ⟨g1, o1, none⟩) D.f0.length p1, .slice (some ⟨g2, o2, none⟩) D.f0.length p2, .slice (some ⟨g3, o3, none⟩) D.f0.length p3, .int .i64 z], .pointer (some ⟨w.heap.size, 0, none⟩), .pointer (some ⟨w.heap.size + 1, 0, none⟩), .pointer (some ⟨X, 0, none⟩), undef, .slice au nu ku, σ 0, σ 1, σ 2, .slice a3 m3 q3, σ 4, σ 5, σ 6, .slice a7 m7 q7, σ 8, σ 9, σ 10, .slice a11 m11 q11, σ 12, .int .i64 z, .agg #[.slice a3 m3 q3, .slice none 0 0, .slice a7 m7 q7, .slice a11 m11 q11, .int .i64 z], .pointer (some ⟨w.heap.size, 1, none⟩), .slice (some ⟨g1, o1, none⟩) D.f0.length p1, .int .i64 (D.f0.length : Nat), .int .i64 (i : Nat), .bool true, .pointer (some ⟨g1, o1 + i, none⟩), .slice au nu ku, τ 0, τ 1, τ 2, τ 3, (.slice a4 m4 q4), τ 5, u34, u35, u36, undef], []⟩) (by simp only [f4]) rfl (fun _ => rfl) (fun K hK => ?_)
            go_simp
            refine hK _ _ ((Below.refl _ _).alloc (Nat.le_refl _) _) ⟨_, rfl, ?_⟩
            show World.cell? (wy.alloc (.cells #[.slice a4 m4 q4] 22)) ⟨wy.heap.size, 0, none⟩ = some (τ 4)
            rw [f4, World.cell?_alloc_new]
            rfl
      · obtain rfl : i = D.f0.length := by omega
        obtain ⟨av, kv, ev⟩ := sform_of_owns HL.out.row
        subst ev
        obtain ⟨y0, y1, y2, y3, y4⟩ := HL.out.box.five
        obtain ⟨t0, t1, t2, t3, t4⟩ := HR.out.five
        have x0 := (HR.out.cell 0 (by simp)).2
        have x1 := (HR.out.cell 1 (by simp)).2
        have x2 := (HR.out.cell 2 (by simp)).2
        have x3 := (HR.out.cell 3 (by simp)).2
        have x4 := (HR.out.cell 4 (by simp)).2
        have hX2 := (HL.out.ap.inn 0 (by omega)).1
        simp only [ivc] at hX2
        have op := put5_only wr (w.heap.size + 1) (.slice a3 m3 q3) (.slice av D.f0.length kv) (.slice a7 m7 q7) (.slice a11 m11 q11) (.int .i64 z)
        have bx := put5_box HR.out (.slice a3 m3 q3) (.slice av D.f0.length kv) (.slice a7 m7 q7) (.slice a11 m11 q11) (.int .i64 z)
        have HT : Hid (TuOwnA (Iv w.heap.size (put5 wr (w.heap.size + 1) (.slice a3 m3 q3) (.slice av D.f0.length kv) (.slice a7 m7 q7) (.slice a11 m11 q11) (.int .i64 z)).heap.size) (put5 wr (w.heap.size + 1) (.slice a3 m3 q3) (.slice av D.f0.length kv) (.slice a7 m7 q7) (.slice a11 m11 q11) (.int .i64 z)) (.agg #[.slice a3 m3 q3, .slice av D.f0.length kv, .slice a7 m7 q7, .slice a11 m11 q11, .int .i64 z]) D) := by
          have h := HL.out
          rw [← HL1.out] at h ⊢
          rw [HZ.out] at h ⊢
          exact OwnL.turns (R := w.heap.size + 1) h (by rw [HL1.out]; omega) (by omega) (by rw [← HZ.out]; rw [HL1.out]; exact op) (by omega)
        have HB7 := hid (HB.out.trans (op.below fun j e => by omega))
        obtain ⟨z0, z1, z2, z3, z4⟩ := bx.five
        clear op bx HL HB HA HR
        go_wp2
        exact bodyPost_ret (v := .agg #[.slice a3 m3 q3, .slice av D.f0.length kv, .slice a7 m7 q7, .slice a11 m11 q11, .int .i64 z]) (by simp [results, Try.results39, go_sem, z0, z1, z2, z3, z4]) rfl ⟨_, rfl, HT.out, HB7.out⟩
  · intro i hi σ c wr hb hd
    have hA := HA.out.below hb HA.out.lt
    obtain ⟨y0, y1, y2, y3, y4⟩ := hA.five
    simp only [List.mem_cons, List.not_mem_nil, or_false] at hi; rcases hi with rfl | rfl | rfl | rfl | rfl | rfl | rfl | rfl | rfl | rfl | rfl | rfl | rfl | rfl | rfl | rfl
    · skip
      clear hd
      refine StepF.of (a1 := ⟨#[.agg #[.slice (some ⟨g0, o0, none⟩) D.f0.length p0, .slice (some ⟨g1, o1, none⟩) D.f0.length p1, .slice (some ⟨g2, o2, none⟩) D.f0.length p2, .slice (some ⟨g3, o3, none⟩) D.f0.length p3, .int .i64 z], .pointer (some ⟨w.heap.size, 0, none⟩), .pointer (some ⟨w.heap.size + 1, 0, none⟩), σ 15, undef, undef, σ 0, σ 1, σ 2, σ 3, σ 4, σ 5, σ 6, σ 7, σ 8, σ 9, σ 10, σ 11, σ 12, σ 13, σ 14, undef, undef, undef, undef, undef, undef, undef, undef, undef, undef, undef, undef, undef, undef, undef, undef, undef], []⟩) rfl rfl (fun _ => rfl) (fun K hK => ?_)
      go_simp
      exact hK _ _ ((Below.refl _ _).alloc (Nat.le_refl _) _) (⟨_, rfl⟩)
    · skip
      clear hd
      refine StepF.of (a1 := ⟨#[.agg #[.slice (some ⟨g0, o0, none⟩) D.f0.length p0, .slice (some ⟨g1, o1, none⟩) D.f0.length p1, .slice (some ⟨g2, o2, none⟩) D.f0.length p2, .slice (some ⟨g3, o3, none⟩) D.f0.length p3, .int .i64 z], .pointer (some ⟨w.heap.size, 0, none⟩), .pointer (some ⟨w.heap.size + 1, 0, none⟩), σ 15, undef, undef, σ 0, σ 1, σ 2, σ 3, σ 4, σ 5, σ 6, σ 7, σ 8, σ 9, σ 10, σ 11, σ 12, σ 13, σ 14, undef, undef, undef, undef, undef, undef, undef, undef, undef, undef, undef, undef, undef, undef, undef, undef, undef], []⟩) rfl rfl (fun _ => rfl) (fun K hK => ?_)
      go_simp
      exact hK _ _ (Below.refl _ _) (rfl)
    · skip
      have f1 : ownF _ _ _ _ _ _ 1 σ c wr := hd 1 (by decide) (by decide)
      clear hd
      simp only [ownF] at f1
      refine StepF.of (a1 := ⟨#[.agg #[.slice (some ⟨g0, o0, none⟩) D.f0.length p0, .slice (some ⟨g1, o1, none⟩) D.f0.length p1, .slice (some ⟨g2, o2, none⟩) D.f0.length p2, .slice (some ⟨g3, o3, none⟩) D.f0.length p3, .int .i64 z], .pointer (some ⟨w.heap.size, 0, none⟩), .pointer (some ⟨w.heap.size + 1, 0, none⟩), σ 15, undef, undef, σ 0, (.pointer (some ⟨w.heap.size, 0, none⟩)), σ 2, σ 3, σ 4, σ 5, σ 6, σ 7, σ 8, σ 9, σ 10, σ 11, σ 12, σ 13, σ 14, undef, undef, undef, undef, undef, undef, undef, undef, undef, undef, undef, undef, undef, undef, undef, undef, undef], []⟩) (by simp only [f1]) rfl (fun _ => rfl) (fun K hK => ?_)
      go_simp
      exact hK _ _ (Below.refl _ _) (rfl)
    · skip
      have f0 : ownF _ _ _ _ _ _ 0 σ c wr := hd 0 (by decide) (by decide)
      have f2 : ownF _ _ _ _ _ _ 2 σ c wr := hd 2 (by decide) (by decide)
      clear hd
      obtain ⟨bb, f0⟩ := f0
      simp only [ownF] at f2
      refine StepF.of (a1 := ⟨#[.agg #[.slice (some ⟨g0, o0, none⟩) D.f0.length p0, .slice (some ⟨g1, o1, none⟩) D.f0.length p1, .slice (some ⟨g2, o2, none⟩) D.f0.length p2, .slice (some ⟨g3, o3, none⟩) D.f0.length p3, .int .i64 z], .pointer (some ⟨w.heap.size, 0, none⟩), .pointer (some ⟨w.heap.size + 1, 0, none⟩), σ 15, undef, undef, (.slice (some ⟨bb, 0, none⟩) 0 0), σ 1, (.slice (some ⟨g0, o0, none⟩) D.f0.length p0), σ 3, σ 4, σ 5, σ 6, σ 7, σ 8, σ 9, σ 10, σ 11, σ 12, σ 13, σ 14, undef, undef, undef, undef, undef, undef, undef, undef, undef, undef, undef, undef, undef, undef, undef, undef, undef], []⟩) (by simp only [f0, f2]) rfl (fun _ => rfl) (fun K hK => ?_)
      have hl : D.f0.length = D.f0.length := rfl
      have hbw := BW.out.trans (hb.mono BW.out.size)
      refine step_append_grows (by rfl) _ _ _ (by rfl) 3 i0 (.int .i64 0) 1 8 Try.underlying22 hi hz0 hz1 hz2 (by rfl) (by decide) (some ⟨bb, 0, none⟩) 0 0 [] (by rfl) (by intro h; cases h) (by rfl) (by intro b0 _ j u h; simp at h) ⟨g0, o0, none⟩ D.f0.length p0 (kflat D.f0) (by rfl) (by rw [length_kflat, Nat.mul_one] <;> exact hl) (kflat_cells (fun i hi => (H0.out i hi).below hbw (H0.out i hi).lt)) (kflat_one _) (by omega) (by unfold maxLen; omega) (by omega) ?_
      intro u2 w2 hown hgrow
      have b : Below wr.heap.size wr w2 := (Below.refl _ _).grown hgrow (Nat.le_refl _) (by intro k h; cases h)
      rw [Nat.zero_add, List.nil_append] at hown
      have k2 := KOwn.of_owns hown (by omega)
      exact hK u2 w2 b ⟨k2, k2.sform⟩
    · skip
      clear hd
      refine StepF.of (a1 := ⟨#[.agg #[.slice (some ⟨g0, o0, none⟩) D.f0.length p0, .slice (some ⟨g1, o1, none⟩) D.f0.length p1, .slice (some ⟨g2, o2, none⟩) D.f0.length p2, .slice (some ⟨g3, o3, none⟩) D.f0.length p3, .int .i64 z], .pointer (some ⟨w.heap.size, 0, none⟩), .pointer (some ⟨w.heap.size + 1, 0, none⟩), σ 15, undef, undef, σ 0, σ 1, σ 2, σ 3, σ 4, σ 5, σ 6, σ 7, σ 8, σ 9, σ 10, σ 11, σ 12, σ 13, σ 14, undef, undef, undef, undef, undef, undef, undef, undef, undef, undef, undef, undef, undef, undef, undef, undef, undef], []⟩) rfl rfl (fun _ => rfl) (fun K hK => ?_)
      go_simp
      exact hK _ _ ((Below.refl _ _).alloc (Nat.le_refl _) _) (⟨_, rfl⟩)
    · skip
      clear hd
      refine StepF.of (a1 := ⟨#[.agg #[.slice (some ⟨g0, o0, none⟩) D.f0.length p0, .slice (some ⟨g1, o1, none⟩) D.f0.length p1, .slice (some ⟨g2, o2, none⟩) D.f0.length p2, .slice (some ⟨g3, o3, none⟩) D.f0.length p3, .int .i64 z], .pointer (some ⟨w.heap.size, 0, none⟩), .pointer (some ⟨w.heap.size + 1, 0, none⟩), σ 15, undef, undef, σ 0, σ 1, σ 2, σ 3, σ 4, σ 5, σ 6, σ 7, σ 8, σ 9, σ 10, σ 11, σ 12, σ 13, σ 14, undef, undef, undef, undef, undef, undef, undef, undef, undef, undef, undef, undef, undef, undef, undef, undef, undef], []⟩) rfl rfl (fun _ => rfl) (fun K hK => ?_)
      go_simp
      exact hK _ _ (Below.refl _ _) (rfl)
    · skip
      have f5 : ownF _ _ _ _ _ _ 5 σ c wr := hd 5 (by decide) (by decide)
      clear hd
      simp only [ownF] at f5
      refine StepF.of (a1 := ⟨#[.agg #[.slice (some ⟨g0, o0, none⟩) D.f0.length p0, .slice (some ⟨g1, o1, none⟩) D.f0.length p1, .slice (some ⟨g2, o2, none⟩) D.f0.length p2, .slice (some ⟨g3, o3, none⟩) D.f0.length p3, .int .i64 z], .pointer (some ⟨w.heap.size, 0, none⟩), .pointer (some ⟨w.heap.size + 1, 0, none⟩), σ 15, undef, undef, σ 0, σ 1, σ 2, σ 3, σ 4, (.pointer (some ⟨w.heap.size, 2, none⟩)), σ 6, σ 7, σ 8, σ 9, σ 10, σ 11, σ 12, σ 13, σ 14, undef, undef, undef, undef, undef, undef, undef, undef, undef, undef, undef, undef, undef, undef, undef, undef, undef], []⟩) (by simp only [f5]) rfl (fun _ => rfl) (fun K hK => ?_)
      go_simp
      exact hK _ _ (Below.refl _ _) (rfl)
    · skip
      have f4 : ownF _ _ _ _ _ _ 4 σ c wr := hd 4 (by decide) (by decide)
      have f6 : ownF _ _ _ _ _ _ 6 σ c wr := hd 6 (by decide) (by decide)
      clear hd
      obtain ⟨bb, f4⟩ := f4
      simp only [ownF] at f6
      refine StepF.of (a1 := ⟨#[.agg #[.slice (some ⟨g0, o0, none⟩) D.f0.length p0, .slice (some ⟨g1, o1, none⟩) D.f0.length p1, .slice (some ⟨g2, o2, none⟩) D.f0.length p2, .slice (some ⟨g3, o3, none⟩) D.f0.length p3, .int .i64 z], .pointer (some ⟨w.heap.size, 0, none⟩), .pointer (some ⟨w.heap.size + 1, 0, none⟩), σ 15, undef, undef, σ 0, σ 1, σ 2, σ 3, (.slice (some ⟨bb, 0, none⟩) 0 0), σ 5, (.slice (some ⟨g2, o2, none⟩) D.f0.length p2), σ 7, σ 8, σ 9, σ 10, σ 11, σ 12, σ 13, σ 14, undef, undef, undef, undef, undef, undef, undef, undef, undef, undef, undef, undef, undef, undef, undef, undef, undef], []⟩) (by simp only [f4, f6]) rfl (fun _ => rfl) (fun K hK => ?_)
      have hl : D.f2.length = D.f0.length := HL2.out
      have hbw := BW.out.trans (hb.mono BW.out.size)
      refine step_append_grows (by rfl) _ _ _ (by rfl) 3 i0 (.int .i64 0) 1 8 Try.underlying22 hi hz0 hz1 hz2 (by rfl) (by decide) (some ⟨bb, 0, none⟩) 0 0 [] (by rfl) (by intro h; cases h) (by rfl) (by intro b0 _ j u h; simp at h) ⟨g2, o2, none⟩ D.f0.length p2 (kflat D.f2) (by rfl) (by rw [length_kflat, Nat.mul_one] <;> exact hl) (kflat_cells (fun i hi => (H2.out i hi).below hbw (H2.out i hi).lt)) (kflat_one _) (by omega) (by unfold maxLen; omega) (by omega) ?_
      intro u2 w2 hown hgrow
      have b : Below wr.heap.size wr w2 := (Below.refl _ _).grown hgrow (Nat.le_refl _) (by intro k h; cases h)
      rw [Nat.zero_add, List.nil_append] at hown
      have k2 := KOwn.of_owns hown (by omega)
      exact hK u2 w2 b ⟨k2, k2.sform⟩
    · skip
      clear hd
      refine StepF.of (a1 := ⟨#[.agg #[.slice (some ⟨g0, o0, none⟩) D.f0.length p0, .slice (some ⟨g1, o1, none⟩) D.f0.length p1, .slice (some ⟨g2, o2, none⟩) D.f0.length p2, .slice (some ⟨g3, o3, none⟩) D.f0.length p3, .int .i64 z], .pointer (some ⟨w.heap.size, 0, none⟩), .pointer (some ⟨w.heap.size + 1, 0, none⟩), σ 15, undef, undef, σ 0, σ 1, σ 2, σ 3, σ 4, σ 5, σ 6, σ 7, σ 8, σ 9, σ 10, σ 11, σ 12, σ 13, σ 14, undef, undef, undef, undef, undef, undef, undef, undef, undef, undef, undef, undef, undef, undef, undef, undef, undef], []⟩) rfl rfl (fun _ => rfl) (fun K hK => ?_)
      go_simp
      exact hK _ _ ((Below.refl _ _).alloc (Nat.le_refl _) _) (⟨_, rfl⟩)
    · skip
      clear hd
      refine StepF.of (a1 := ⟨#[.agg #[.slice (some ⟨g0, o0, none⟩) D.f0.length p0, .slice (some ⟨g1, o1, none⟩) D.f0.length p1, .slice (some ⟨g2, o2, none⟩) D.f0.length p2, .slice (some ⟨g3, o3, none⟩) D.f0.length p3, .int .i64 z], .pointer (some ⟨w.heap.size, 0, none⟩), .pointer (some ⟨w.heap.size + 1, 0, none⟩), σ 15, undef, undef, σ 0, σ 1, σ 2, σ 3, σ 4, σ 5, σ 6, σ 7, σ 8, σ 9, σ 10, σ 11, σ 12, σ 13, σ 14, undef, undef, undef, undef, undef, undef, undef, undef, undef, undef, undef, undef, undef, undef, undef, undef, undef], []⟩) rfl rfl (fun _ => rfl) (fun K hK => ?_)
      go_simp
      exact hK _ _ (Below.refl _ _) (rfl)
    · skip
      have f9 : ownF _ _ _ _ _ _ 9 σ c wr := hd 9 (by decide) (by decide)
      clear hd
      simp only [ownF] at f9
      refine StepF.of (a1 := ⟨#[.agg #[.slice (some ⟨g0, o0, none⟩) D.f0.length p0, .slice (some ⟨g1, o1, none⟩) D.f0.length p1, .slice (some ⟨g2, o2, none⟩) D.f0.length p2, .slice (some ⟨g3, o3, none⟩) D.f0.length p3, .int .i64 z], .pointer (some ⟨w.heap.size, 0, none⟩), .pointer (some ⟨w.heap.size + 1, 0, none⟩), σ 15, undef, undef, σ 0, σ 1, σ 2, σ 3, σ 4, σ 5, σ 6, σ 7, σ 8, (.pointer (some ⟨w.heap.size, 3, none⟩)), σ 10, σ 11, σ 12, σ 13, σ 14, undef, undef, undef, undef, undef, undef, undef, undef, undef, undef, undef, undef, undef, undef, undef, undef, undef], []⟩) (by simp only [f9]) rfl (fun _ => rfl) (fun K hK => ?_)
      go_simp
      exact hK _ _ (Below.refl _ _) (rfl)
    · skip
      have f8 : ownF _ _ _ _ _ _ 8 σ c wr := hd 8 (by decide) (by decide)
      have f10 : ownF _ _ _ _ _ _ 10 σ c wr := hd 10 (by decide) (by decide)
      clear hd
      obtain ⟨bb, f8⟩ := f8
      simp only [ownF] at f10
      refine StepF.of (a1 := ⟨#[.agg #[.slice (some ⟨g0, o0, none⟩) D.f0.length p0, .slice (some ⟨g1, o1, none⟩) D.f0.length p1, .slice (some ⟨g2, o2, none⟩) D.f0.length p2, .slice (some ⟨g3, o3, none⟩) D.f0.length p3, .int .i64 z], .pointer (some ⟨w.heap.size, 0, none⟩), .pointer (some ⟨w.heap.size + 1, 0, none⟩), σ 15, undef, undef, σ 0, σ 1, σ 2, σ 3, σ 4, σ 5, σ 6, σ 7, (.slice (some ⟨bb, 0, none⟩) 0 0), σ 9, (.slice (some ⟨g3, o3, none⟩) D.f0.length p3), σ 11, σ 12, σ 13, σ 14, undef, undef, undef, undef, undef, undef, undef, undef, undef, undef, undef, undef, undef, undef, undef, undef, undef], []⟩) (by simp only [f8, f10]) rfl (fun _ => rfl) (fun K hK => ?_)
      have hl : D.f3.length = D.f0.length := HL3.out
      have hbw := BW.out.trans (hb.mono BW.out.size)
      refine step_append_grows (by rfl) _ _ _ (by rfl) 3 i0 (.int .i64 0) 1 8 Try.underlying22 hi hz0 hz1 hz2 (by rfl) (by decide) (some ⟨bb, 0, none⟩) 0 0 [] (by rfl) (by intro h; cases h) (by rfl) (by intro b0 _ j u h; simp at h) ⟨g3, o3, none⟩ D.f0.length p3 (kflat D.f3) (by rfl) (by rw [length_kflat, Nat.mul_one] <;> exact hl) (kflat_cells (fun i hi => (H3.out i hi).below hbw (H3.out i hi).lt)) (kflat_one _) (by omega) (by unfold maxLen; omega) (by omega) ?_
      intro u2 w2 hown hgrow
      have b : Below wr.heap.size wr w2 := (Below.refl _ _).grown hgrow (Nat.le_refl _) (by intro k h; cases h)
      rw [Nat.zero_add, List.nil_append] at hown
      have k2 := KOwn.of_owns hown (by omega)
      exact hK u2 w2 b ⟨k2, k2.sform⟩
    · skip
      clear hd
      refine StepF.of (a1 := ⟨#[.agg #[.slice (some ⟨g0, o0, none⟩) D.f0.length p0, .slice (some ⟨g1, o1, none⟩) D.f0.length p1, .slice (some ⟨g2, o2, none⟩) D.f0.length p2, .slice (some ⟨g3, o3, none⟩) D.f0.length p3, .int .i64 z], .pointer (some ⟨w.heap.size, 0, none⟩), .pointer (some ⟨w.heap.size + 1, 0, none⟩), σ 15, undef, undef, σ 0, σ 1, σ 2, σ 3, σ 4, σ 5, σ 6, σ 7, σ 8, σ 9, σ 10, σ 11, σ 12, σ 13, σ 14, undef, undef, undef, undef, undef, undef, undef, undef, undef, undef, undef, undef, undef, undef, undef, undef, undef], []⟩) rfl rfl (fun _ => rfl) (fun K hK => ?_)
      go_simp
      exact hK _ _ (Below.refl _ _) (rfl)
    · skip
      have f12 : ownF _ _ _ _ _ _ 12 σ c wr := hd 12 (by decide) (by decide)
      clear hd
      simp only [ownF] at f12
      refine StepF.of (a1 := ⟨#[.agg #[.slice (some ⟨g0, o0, none⟩) D.f0.length p0, .slice (some ⟨g1, o1, none⟩) D.f0.length p1, .slice (some ⟨g2, o2, none⟩) D.f0.length p2, .slice (some ⟨g3, o3, none⟩) D.f0.length p3, .int .i64 z], .pointer (some ⟨w.heap.size, 0, none⟩), .pointer (some ⟨w.heap.size + 1, 0, none⟩), σ 15, undef, undef, σ 0, σ 1, σ 2, σ 3, σ 4, σ 5, σ 6, σ 7, σ 8, σ 9, σ 10, σ 11, (.pointer (some ⟨w.heap.size, 4, none⟩)), σ 13, σ 14, undef, undef, undef, undef, undef, undef, undef, undef, undef, undef, undef, undef, undef, undef, undef, undef, undef], []⟩) (by simp only [f12]) rfl (fun _ => rfl) (fun K hK => ?_)
      go_simp
      exact hK _ _ (Below.refl _ _) (rfl)
    · skip
      have f3 : ownF _ _ _ _ _ _ 3 σ c wr := hd 3 (by decide) (by decide)
      have f7 : ownF _ _ _ _ _ _ 7 σ c wr := hd 7 (by decide) (by decide)
      have f11 : ownF _ _ _ _ _ _ 11 σ c wr := hd 11 (by decide) (by decide)
      have f13 : ownF _ _ _ _ _ _ 13 σ c wr := hd 13 (by decide) (by decide)
      clear hd
      obtain ⟨_, a3, m3, q3, f3⟩ := f3
      obtain ⟨_, a7, m7, q7, f7⟩ := f7
      obtain ⟨_, a11, m11, q11, f11⟩ := f11
      simp only [ownF] at f13
      refine StepF.of (a1 := ⟨#[.agg #[.slice (some ⟨g0, o0, none⟩) D.f0.length p0, .slice (some ⟨g1, o1, none⟩) D.f0.length p1, .slice (some ⟨g2, o2, none⟩) D.f0.length p2, .slice (some ⟨g3, o3, none⟩) D.f0.length p3, .int .i64 z], .pointer (some ⟨w.heap.size, 0, none⟩), .pointer (some ⟨w.heap.size + 1, 0, none⟩), σ 15, undef, undef, σ 0, σ 1, σ 2, (.slice a3 m3 q3), σ 4, σ 5, σ 6, (.slice a7 m7 q7), σ 8, σ 9, σ 10, (.slice a11 m11 q11), σ 12, (.int .i64 z), σ 14, undef, undef, undef, undef, undef, undef, undef, undef, undef, undef, undef, undef, undef, undef, undef, undef, undef], []⟩) (by simp only [f3, f7, f11, f13]) rfl (fun _ => rfl) (fun K hK => ?_)
      go_simp
      exact hK _ _ (Below.refl _ _) (by show _ = Value.agg #[σ 3, .slice none 0 0, σ 7, σ 11, σ 13]; rw [f3, f7, f11, f13]; rfl)
    · skip
      clear hd
      refine StepF.of (a1 := ⟨#[.agg #[.slice (some ⟨g0, o0, none⟩) D.f0.length p0, .slice (some ⟨g1, o1, none⟩) D.f0.length p1, .slice (some ⟨g2, o2, none⟩) D.f0.length p2, .slice (some ⟨g3, o3, none⟩) D.f0.length p3, .int .i64 z], .pointer (some ⟨w.heap.size, 0, none⟩), .pointer (some ⟨w.heap.size + 1, 0, none⟩), σ 15, undef, undef, σ 0, σ 1, σ 2, σ 3, σ 4, σ 5, σ 6, σ 7, σ 8, σ 9, σ 10, σ 11, σ 12, σ 13, σ 14, undef, undef, undef, undef, undef, undef, undef, undef, undef, undef, undef, undef, undef, undef, undef, undef, undef], []⟩) rfl rfl (fun _ => rfl) (fun K hK => ?_)
      go_simp
      exact hK _ _ ((Below.refl _ _).alloc (Nat.le_refl _) _) (⟨rfl, boxL_new wr [.slice none 0 0, .slice none 0 0, .slice none 0 0, .slice none 0 0, .int .i64 0] 28, by simp [upd]⟩)
end Go.Proofs.Ytnnmiddhbeiogba
