/-
  Turns copied, some rows done: what lies where, and one row more. Plain facts on the memory.
-/
import Derived.Test.YtepnhbicmlfnhacInfoII
import Derived.Test.YtepnhbicmlfnhacBoxL
namespace Go.Proofs.Ytepnhbicmlfnhac
open Go.RowKit

/-- Some rows are copied: the struct in the box X, its rows in blocks of their own from lo on. -/
structure OwnL (lo X : Nat) (D : TuD) (z : Int) (s0 s2 s3 : Value) (c0 c2 c3 : Nat × Nat) (i : Nat) (wx : World) (vq : Value) (us : List Value) (c1 : Nat × Nat) (iv : Nat → Nat × Nat) : Prop where
  row : wx.ownsRow lo 23 1 vq i us
  blk : ∀ g, vq.ownBlock = some g → c1.1 ≤ g ∧ g < c1.2
  box : BoxL wx X [s0, vq, s2, s3, .int .i64 z]
  k0 : KOwn c0.1 c0.2 wx s0 D.f0
  k2 : KOwn c2.1 c2.2 wx s2 D.f2
  k3 : KOwn c3.1 c3.2 wx s3 D.f3
  ks : ∀ j, j < i → KOwn (iv j).1 (iv j).2 wx (us.getD j undef) (D.f1.getD j [])
  ka : ∀ j, j < i → KApp (iv j).1 (iv j).2 wx (us.getD j undef) (D.f1.getD j [])
  ap : Apart lo wx.heap.size (i + 5) (ivc (X, X + 1) (tuIv c0 c1 c2 c3 iv))
theorem grown_at {w w' : World} {row : Option Nat} (h : w.grownBy w' row) (k : Nat) (hk : k < w.heap.size) (hne : row ≠ some k) : w'.heap[k]? = w.heap[k]? := h.block k hk (Ne.symm hne)
theorem OwnL.drew {lo X : Nat} {D : TuD} {z : Int} {s0 s2 s3 : Value} {c0 c2 c3 : Nat × Nat} {i : Nat} {wx : World} {vq : Value} {us : List Value} {c1 : Nat × Nat} {iv : Nat → Nat × Nat} (h : OwnL lo X D z s0 s2 s3 c0 c2 c3 i wx vq us c1 iv) : OwnL lo X D z s0 s2 s3 c0 c2 c3 i wx.drew vq us c1 iv :=
  ⟨h.row, h.blk, h.box, h.k0, h.k2, h.k3, h.ks, h.ka, h.ap⟩
/-- No row yet. -/
theorem OwnL.start {lo X : Nat} {D : TuD} {z : Int} {s0 s2 s3 z0 z1 z2 z3 z4 : Value} {c0 c2 c3 : Nat × Nat} {wr : World} (hX : BoxL wr X [z0, z1, z2, z3, z4]) (k0 : KOwn c0.1 c0.2 wr s0 D.f0) (k2 : KOwn c2.1 c2.2 wr s2 D.f2) (k3 : KOwn c3.1 c3.2 wr s3 D.f3)
    (i0 : lo ≤ c0.1 ∧ c0.1 ≤ c0.2 ∧ c0.2 ≤ wr.heap.size) (i2 : lo ≤ c2.1 ∧ c2.1 ≤ c2.2 ∧ c2.2 ≤ wr.heap.size) (i3 : lo ≤ c3.1 ∧ c3.1 ≤ c3.2 ∧ c3.2 ≤ wr.heap.size) (iX : lo ≤ X)
    (d02 : Dj c0 c2) (d03 : Dj c0 c3) (d23 : Dj c2 c3) (x0 : Dj c0 (X, X + 1)) (x2 : Dj c2 (X, X + 1)) (x3 : Dj c3 (X, X + 1)) :
    OwnL lo X D z s0 s2 s3 c0 c2 c3 0 (put5 wr X s0 (.slice none 0 0) s2 s3 (.int .i64 z)) (.slice none 0 0) [] (wr.heap.size, wr.heap.size) (fun _ => (0, 0)) := by
  have op := put5_only wr X s0 (.slice none 0 0) s2 s3 (.int .i64 z)
  have hs : (put5 wr X s0 (.slice none 0 0) s2 s3 (.int .i64 z)).heap.size = wr.heap.size := op.1
  have hl := hX.lt
  unfold Dj at d02 d03 d23 x0 x2 x3
  simp only at x0 x2 x3
  refine ⟨⟨rfl, .inl ⟨rfl, rfl⟩⟩, (fun g e => by cases e), put5_box hX _ _ _ _ _, k0.onlyP op (fun g g1 g2 e => by omega), k2.onlyP op (fun g g1 g2 e => by omega), k3.onlyP op (fun g g1 g2 e => by omega), (fun j hj => by omega), (fun j hj => by omega), ⟨fun q hq => ?_, fun q p hq hp hne => ?_⟩⟩
  · rw [hs]
    rcases q with _ | _ | _ | _ | _ | q <;> simp only [ivc, tuIv] <;> omega
  · rcases q with _ | _ | _ | _ | _ | q <;> rcases p with _ | _ | _ | _ | _ | p <;> simp only [ivc, tuIv, Dj] <;> omega
theorem OwnL.far {lo X : Nat} {D : TuD} {z : Int} {s0 s2 s3 : Value} {c0 c2 c3 : Nat × Nat} {i : Nat} {wx wr w' : World} {vq : Value} {us : List Value} {c1 : Nat × Nat} {iv : Nat → Nat × Nat} (h : OwnL lo X D z s0 s2 s3 c0 c2 c3 i wx vq us c1 iv) (hb : Below wx.heap.size wx wr) (hg : wr.grownBy w' vq.ownBlock) : BoxL w' X [s0, vq, s2, s3, .int .i64 z] := by
  have hXi := h.ap.inn 0 (by omega)
  simp only [ivc] at hXi
  have hbs := hb.size
  refine (h.box.below hb (by omega)).of_block (grown_at hg X (by omega) (fun e => ?_))
  have hd : Dj (X, X + 1) c1 := h.ap.dj 0 2 (by omega) (by omega) (by omega)
  have hb1 := h.blk X e
  unfold Dj at hd
  simp only at hd
  omega
/-- One row more. -/
theorem OwnL.next {lo X : Nat} {D : TuD} {z : Int} {s0 s2 s3 : Value} {c0 c2 c3 : Nat × Nat} {i : Nat} {wx wr w' : World} {vq v' u : Value} {us : List Value} {c1 r : Nat × Nat} {iv : Nat → Nat × Nat} (h : OwnL lo X D z s0 s2 s3 c0 c2 c3 i wx vq us c1 iv)
    (hb : Below wx.heap.size wx wr) (hr : wx.heap.size ≤ r.1 ∧ r.1 ≤ r.2 ∧ r.2 ≤ wr.heap.size) (hu : KOwn r.1 r.2 wr u (D.f1.getD i [])) (hua : KApp r.1 r.2 wr u (D.f1.getD i [])) (ho : w'.ownsRow lo 23 1 v' (i + 1) (us ++ [u])) (hg : wr.grownBy w' vq.ownBlock) (hv : v'.ownBlock = vq.ownBlock ∨ v'.ownBlock = some wr.heap.size) :
    ∃ c1', OwnL lo X D z s0 s2 s3 c0 c2 c3 (i + 1) (w'.setCell ⟨X, 1, none⟩ v') v' (us ++ [u]) c1' (upd iv i r) := by
  have hsz : wr.heap.size ≤ w'.heap.size := hg.size
  have hbs := hb.size
  have hXi := h.ap.inn 0 (by omega)
  simp only [ivc] at hXi
  -- where the container lies
  have hcb : ∀ g, vq.ownBlock = some g → ∀ q, 1 ≤ q → q < i + 5 → q ≠ 2 → ¬ ((ivc (X, X + 1) (tuIv c0 c1 c2 c3 iv) q).1 ≤ g ∧ g < (ivc (X, X + 1) (tuIv c0 c1 c2 c3 iv) q).2) := by
    intro g hgb q q1 q2 q3 hin
    have hd : Dj c1 (ivc (X, X + 1) (tuIv c0 c1 c2 c3 iv) q) := h.ap.dj 2 q (by omega) q2 (Ne.symm q3)
    have hb1 := h.blk g hgb
    unfold Dj at hd
    omega
  have hcX : ∀ g, vq.ownBlock = some g → g ≠ X := by
    intro g hgb e
    have hd : Dj (X, X + 1) c1 := h.ap.dj 0 2 (by omega) (by omega) (by omega)
    have hb1 := h.blk g hgb
    unfold Dj at hd
    simp only at hd
    omega
  have hblk := fun g e => owns_lt h.row g e
  -- a row that lies apart stays
  have keep0 : ∀ (q : Nat), 1 ≤ q → q < i + 5 → q ≠ 2 → ∀ g, (ivc (X, X + 1) (tuIv c0 c1 c2 c3 iv) q).1 ≤ g → g < (ivc (X, X + 1) (tuIv c0 c1 c2 c3 iv) q).2 → g < wx.heap.size → (w'.setCell ⟨X, 1, none⟩ v').heap[g]? = wx.heap[g]? := by
    intro q q1 q2 q3 g g1 g2 g3
    have hd : Dj (X, X + 1) (ivc (X, X + 1) (tuIv c0 c1 c2 c3 iv) q) := h.ap.dj 0 q (by omega) q2 (by omega)
    unfold Dj at hd
    simp only at hd
    have hgX : g ≠ X := by
      intro e
      rcases hd with hd | hd
      · have : (ivc (X, X + 1) (tuIv c0 c1 c2 c3 iv) q).1 ≤ g := g1
        have : X + 1 ≤ (ivc (X, X + 1) (tuIv c0 c1 c2 c3 iv) q).1 := hd
        omega
      · have : (ivc (X, X + 1) (tuIv c0 c1 c2 c3 iv) q).2 ≤ X := hd
        omega
    rw [Below.heap_setCell _ _ _ _ hgX, grown_at hg g (by omega) (fun e => hcb g e q q1 q2 q3 ⟨g1, g2⟩), hb.block g g3]
  have keep : ∀ (q : Nat) (v : Value) (xs : List Int), 1 ≤ q → q < i + 5 → q ≠ 2 → KOwn (ivc (X, X + 1) (tuIv c0 c1 c2 c3 iv) q).1 (ivc (X, X + 1) (tuIv c0 c1 c2 c3 iv) q).2 wx v xs → KOwn (ivc (X, X + 1) (tuIv c0 c1 c2 c3 iv) q).1 (ivc (X, X + 1) (tuIv c0 c1 c2 c3 iv) q).2 (w'.setCell ⟨X, 1, none⟩ v') v xs := fun q v xs q1 q2 q3 hk => hk.at (keep0 q q1 q2 q3)
  have hcell : BoxL wr X [s0, vq, s2, s3, .int .i64 z] := h.box.below hb (by omega)
  have hbox' : BoxL w' X [s0, vq, s2, s3, .int .i64 z] := hcell.of_block (grown_at hg X (by omega) (fun e => hcX X e rfl))
  obtain ⟨c1', hc1, hin⟩ : ∃ c1' : Nat × Nat, (∀ g, v'.ownBlock = some g → c1'.1 ≤ g ∧ g < c1'.2) ∧ (c1' = c1 ∨ wr.heap.size ≤ c1'.1 ∧ c1'.1 ≤ c1'.2 ∧ c1'.2 ≤ w'.heap.size) := by
    rcases hv with e | e
    · exact ⟨c1, fun g hg' => h.blk g (e ▸ hg'), .inl rfl⟩
    · have hlt := owns_lt ho _ e
      exact ⟨(wr.heap.size, wr.heap.size + 1), fun g hg' => by rw [e] at hg'; cases hg'; exact ⟨Nat.le_refl _, Nat.lt_succ_self _⟩, .inr ⟨Nat.le_refl _, by simp, hlt.2⟩⟩
  refine ⟨c1', owns_at ho fun g e _ => ?_, hc1, hbox'.set 1 (by simp) v', keep 1 _ _ (by omega) (by omega) (by omega) h.k0, keep 3 _ _ (by omega) (by omega) (by omega) h.k2, keep 4 _ _ (by omega) (by omega) (by omega) h.k3, fun j hj => ?_, fun j hj => ?_, ⟨fun q hq => ?_, fun q p hq hp hne => ?_⟩⟩
  · refine Below.heap_setCell _ _ _ _ ?_
    show g ≠ X
    rcases hv with e' | e'
    · exact hcX g (e' ▸ e)
    · rw [e'] at e; cases e; omega
  · have hlen : us.length = i := by have := h.row.1; omega
    by_cases e : j = i
    · subst e
      rw [upd_same]
      have hx : (us ++ [u]).getD j undef = u := by simp [List.getD_eq_getElem?_getD, hlen]
      rw [hx]
      refine hu.at fun g g1 g2 g3 => ?_
      rw [Below.heap_setCell _ _ _ _ (show g ≠ X by omega), grown_at hg g g3 (fun e => by have := (hblk g e).2; omega)]
    · rw [upd_other _ _ e]
      have hx : (us ++ [u]).getD j undef = us.getD j undef := by simp [List.getD_eq_getElem?_getD, List.getElem?_append_left (by omega : j < us.length)]
      rw [hx]
      exact keep (j + 5) _ _ (by omega) (by omega) (by omega) (h.ks j (by omega))
  · have hlen : us.length = i := by have := h.row.1; omega
    by_cases e : j = i
    · subst e
      rw [upd_same]
      have hx : (us ++ [u]).getD j undef = u := by simp [List.getD_eq_getElem?_getD, hlen]
      rw [hx]
      refine hua.at fun g g1 g2 g3 => ?_
      rw [Below.heap_setCell _ _ _ _ (show g ≠ X by omega), grown_at hg g g3 (fun e => by have := (hblk g e).2; omega)]
    · rw [upd_other _ _ e]
      have hx : (us ++ [u]).getD j undef = us.getD j undef := by simp [List.getD_eq_getElem?_getD, List.getElem?_append_left (by omega : j < us.length)]
      rw [hx]
      exact (h.ka j (by omega)).at (keep0 (j + 5) (by omega) (by omega) (by omega))
  · have hs : (w'.setCell ⟨X, 1, none⟩ v').heap.size = w'.heap.size := World.size_setCell _ _ _
    rw [hs]
    rcases q with _ | _ | _ | q
    · simp only [ivc]; omega
    · have := h.ap.inn 1 (by omega); simp only [ivc, tuIv] at this ⊢; omega
    · have := h.ap.inn 2 (by omega); simp only [ivc, tuIv] at this ⊢
      rcases hin with rfl | hin
      · omega
      · omega
    · rcases q with _ | _ | q
      · have := h.ap.inn 3 (by omega); simp only [ivc, tuIv] at this ⊢; omega
      · have := h.ap.inn 4 (by omega); simp only [ivc, tuIv] at this ⊢; omega
      · simp only [ivc, tuIv]
        by_cases e : q = i
        · subst e; rw [upd_same]; omega
        · rw [upd_other _ _ e]
          have := h.ap.inn (q + 5) (by omega); simp only [ivc, tuIv] at this; omega
  · have key : ∀ q, q < i + 1 + 5 → (q = 2 ∧ ivc (X, X + 1) (tuIv c0 c1' c2 c3 (upd iv i r)) q = c1') ∨ (q = i + 5 ∧ ivc (X, X + 1) (tuIv c0 c1' c2 c3 (upd iv i r)) q = r) ∨ (q ≠ 2 ∧ q < i + 5 ∧ ivc (X, X + 1) (tuIv c0 c1' c2 c3 (upd iv i r)) q = ivc (X, X + 1) (tuIv c0 c1 c2 c3 iv) q) := by
      intro q hq
      rcases q with _ | _ | _ | q
      · exact .inr (.inr ⟨by omega, by omega, rfl⟩)
      · exact .inr (.inr ⟨by omega, by omega, rfl⟩)
      · exact .inl ⟨rfl, rfl⟩
      · rcases q with _ | _ | q
        · exact .inr (.inr ⟨by omega, by omega, rfl⟩)
        · exact .inr (.inr ⟨by omega, by omega, rfl⟩)
        · by_cases e : q = i
          · exact .inr (.inl ⟨by omega, by subst e; exact upd_same _ _ _⟩)
          · exact .inr (.inr ⟨by omega, by omega, upd_other _ _ e⟩)
    have hc1in := h.ap.inn 2 (by omega)
    simp only [ivc, tuIv] at hc1in
    have d1 : ∀ q, q ≠ 2 → q < i + 5 → Dj c1' (ivc (X, X + 1) (tuIv c0 c1 c2 c3 iv) q) := by
      intro q q1 q2
      rcases hin with rfl | hin
      · exact h.ap.dj 2 q (by omega) q2 (Ne.symm q1)
      · have := h.ap.inn q q2; unfold Dj; omega
    have d2 : Dj c1' r := by
      rcases hin with rfl | hin
      · unfold Dj; omega
      · unfold Dj; omega
    have d3 : ∀ q, q < i + 5 → Dj r (ivc (X, X + 1) (tuIv c0 c1 c2 c3 iv) q) := by
      intro q q2
      have := h.ap.inn q q2; unfold Dj; omega
    rcases key q hq with ⟨y1, e1⟩ | ⟨y1, e1⟩ | ⟨n1, l1, e1⟩ <;> rcases key p hp with ⟨y2, e2⟩ | ⟨y2, e2⟩ | ⟨n2, l2, e2⟩ <;> rw [e1] <;> first | omega | skip
    · rw [e2]; exact d2
    · rw [e2]; exact d1 p n2 l2
    · rw [e2]; exact d2.symm
    · rw [e2]; exact d3 p l2
    · rw [e2]; exact (d1 q n1 l1).symm
    · rw [e2]; exact (d3 q l1).symm
    · rw [e2]; exact h.ap.dj q p l1 l2 hne
/-- All rows are copied. -/
theorem OwnL.turns {lo X : Nat} {D : TuD} {s0 s2 s3 : Value} {c0 c2 c3 : Nat × Nat} {wx w' : World} {vq : Value} {us : List Value} {c1 : Nat × Nat} {iv : Nat → Nat × Nat} {R : Nat} (h : OwnL lo X D D.f4 s0 s2 s3 c0 c2 c3 D.f1.length wx vq us c1 iv) (hl : D.f1.length ≤ 1000) (hR : R < lo) (op : OnlyP (fun j => j = R) wx w') {l' : Nat} (hlo : l' ≤ lo) :
    TuOwnA (Iv l' w'.heap.size) w' (.agg #[s0, vq, s2, s3, .int .i64 D.f4]) D := by
  have hs : w'.heap.size = wx.heap.size := op.1
  have nin : ∀ q, q < D.f1.length + 4 → lo ≤ (tuIv c0 c1 c2 c3 iv q).1 ∧ (tuIv c0 c1 c2 c3 iv q).1 ≤ (tuIv c0 c1 c2 c3 iv q).2 ∧ (tuIv c0 c1 c2 c3 iv q).2 ≤ wx.heap.size := fun q hq => h.ap.inn (q + 1) (by omega)
  have n0 := nin 0 (by omega)
  have n1 := nin 1 (by omega)
  have n2 := nin 2 (by omega)
  have n3 := nin 3 (by omega)
  simp only [tuIv] at n0 n1 n2 n3
  refine ⟨s0, vq, s2, s3, c0, c1, c2, c3, iv, rfl, ⟨fun q hq => ?_, fun q p hq hp hne => h.ap.dj (q + 1) (p + 1) (by omega) (by omega) (by omega)⟩, h.k0.onlyP op (fun g g1 g2 e => by omega), (QRow.of_owns h.row rfl (by omega) h.blk h.ks).onlyP op (fun g g1 g2 e => by omega) (fun j hj g g1 g2 e => by have := nin (j + 4) (by omega); simp only [tuIv] at this; omega), h.k2.onlyP op (fun g g1 g2 e => by omega), h.k3.onlyP op (fun g g1 g2 e => by omega), fun B n cap e j hj u hc => ?_⟩
  · have := nin q hq
    exact ⟨this.2.1, fun g g1 g2 => ⟨by omega, by omega⟩⟩
  · subst e
    have hB := owns_lt h.row B rfl
    have hlen : us.length = D.f1.length := by have := h.row.1; omega
    obtain ⟨a', k', e'⟩ := sform_of_owns h.row
    cases e'
    have hc' := h.row.cellAt j (by omega)
    rw [World.cell?_of_block (a := ⟨B, j, none⟩) (op.2.1 B (by omega)), hc', List.getElem?_eq_getElem (by omega)] at hc
    have hu : u = us.getD j undef := by
      rw [List.getD_eq_getElem?_getD, List.getElem?_eq_getElem (by omega)]
      exact (Option.some.inj hc).symm
    rw [hu]
    exact (h.ka j hj).onlyP op (fun g g1 g2 e => by have := nin (j + 4) (by omega); simp only [tuIv] at this; omega)
/-- What the operations make that copy a row. -/
def rowF (X : Nat) (vq u : Value) (xs : List Int) : Nat → (Nat → Value) → (Nat → Nat × Nat) → World → Prop
  | 0, σ, _, _ => σ 0 = .pointer (some ⟨X, 1, none⟩)
  | 1, σ, _, _ => σ 1 = vq
  | 2, σ, _, _ => ∃ b, σ 2 = .slice (some ⟨b, 0, none⟩) 0 0
  | 3, σ, _, _ => σ 3 = u
  | 4, σ, c, w => KOwn (c 4).1 (c 4).2 w (σ 4) xs ∧ KApp (c 4).1 (c 4).2 w (σ 4) xs ∧ ∃ a n k, σ 4 = .slice a n k
  | 5, σ, _, w => ∃ b, σ 5 = .slice (some ⟨b, 0, none⟩) 1 1 ∧ w.cell? ⟨b, 0, none⟩ = some (σ 4)
  | _ + 6, _, _, _ => True
theorem rowF_keep {X : Nat} {vq u : Value} {xs : List Int} : ∀ j ∈ [0, 1, 2, 3, 4, 5], ∀ σ c w w', rowF X vq u xs j σ c w → Below w.heap.size w w' → rowF X vq u xs j σ c w' := by
  intro j hj σ c w w' h hb
  simp only [List.mem_cons, List.not_mem_nil, or_false] at hj; rcases hj with rfl | rfl | rfl | rfl | rfl | rfl
  · exact h
  · exact h
  · exact h
  · exact h
  · exact ⟨h.1.below hb, h.2.1.below hb, h.2.2⟩
  · obtain ⟨b, h1, h2⟩ := h
    exact ⟨b, h1, (World.cell?_of_block (a := ⟨b, 0, none⟩) (hb.block b (lt_of_cell h2))).trans h2⟩
theorem rowF_loc {X : Nat} {vq u : Value} {xs : List Int} {j i : Nat} {σ : Nat → Value} {c : Nat → Nat × Nat} {w : World} {v : Value} {r : Nat × Nat} (hj : j ∈ [0, 1, 2, 3, 4, 5]) (hne : i ≠ j) (hd : j = 5 → i ≠ 4) (h : rowF X vq u xs j σ c w) : rowF X vq u xs j (upd σ i v) (upd c i r) w := by
  simp only [List.mem_cons, List.not_mem_nil, or_false] at hj; rcases hj with rfl | rfl | rfl | rfl | rfl | rfl
  · simp only [rowF, upd_other _ _ (Ne.symm hne)] at h ⊢; exact h
  · simp only [rowF, upd_other _ _ (Ne.symm hne)] at h ⊢; exact h
  · simp only [rowF, upd_other _ _ (Ne.symm hne)] at h ⊢; exact h
  · simp only [rowF, upd_other _ _ (Ne.symm hne)] at h ⊢; exact h
  · simp only [rowF, upd_other _ _ (Ne.symm hne)] at h ⊢; exact h
  · simp only [rowF, upd_other _ _ (Ne.symm hne), upd_other _ _ (Ne.symm (hd rfl))] at h ⊢; exact h
end Go.Proofs.Ytepnhbicmlfnhac
