/-
  spec.l8Next: a turn, on turns in memory of their own. Only that memory is written.
-/
import Derived.Test.YtepnhbicmlfnhacKOwnS
import Derived.Test.YtepnhbicmlfnhacTurnMath
import Derived.Test.YtepnhbicmlfnhacKAppN
import Derived.Test.YtepnhbicmlfnhacInfoII
import Derived.Test.YtepnhbicmlfnhacRegFacts
namespace Go.Proofs.Ytepnhbicmlfnhac
open Go.RowKit

def lenQ : Value → Nat
  | .slice _ n _ => n
  | _ => 0
/-- Some packets of the queue are sent. -/
structure SentL (S : Nat → Prop) (w : World) (A base k B gq pu : Nat) (D : TuD) (cr s0 : Int) (row : List Int) (z : Int) (v0 v1 v2 v3 : Value) (c0 c1 c2 c3 : Nat × Nat) (iv : Nat → Nat × Nat) (au : Option Addr) (j : Nat) (vs vq : Value) (wr : World) : Prop where
  tu : TuC S wr A ⟨D.f0, D.f1, D.f2.set k (cr - sumI (row.take j)), D.f3.set k (s0 + sumI (row.take j)), z⟩ v0 v1 v2 v3 c0 c1 c2 c3 iv
  os : wr.ownsRow base 3 1 vs j (kflat (row.take j))
  cb : wr.cell? ⟨B, k, none⟩ = some (.slice au row.length pu)
  qf : j < row.length → au = some ⟨gq, 0, none⟩ ∧ vq = .slice (some ⟨gq, j, none⟩) (row.length - j) (pu - j)
  qe : j = row.length → ∃ a c, vq = .slice a 0 c
  le : j ≤ row.length
  nn : 0 ≤ cr - sumI (row.take j)
  tk : takeT cr row = (row.take j ++ (takeT (cr - sumI (row.take j)) (row.drop j)).1, (takeT (cr - sumI (row.take j)) (row.drop j)).2.1, (takeT (cr - sumI (row.take j)) (row.drop j)).2.2)
  box : BoxL wr (w.heap.size + 1) [.slice none 0 0, .slice none 0 0, .slice none 0 0, .slice none 0 0, .int .i64 0]
  sz : w.heap.size + 2 ≤ wr.heap.size
  bl : ∀ lo, (∀ g, S g → lo ≤ g) → lo ≤ w.heap.size → Below lo w wr
theorem SentL.row {S : Nat → Prop} {w : World} {A base k B gq pu : Nat} {D : TuD} {cr s0 : Int} {row : List Int} {z : Int} {v0 v2 v3 : Value} {n cap : Nat} {c0 c1 c2 c3 : Nat × Nat} {iv : Nat → Nat × Nat} {au : Option Addr} {j : Nat} {vs vq : Value} {wr : World} (h : SentL S w A base k B gq pu D cr s0 row z v0 (.slice (some ⟨B, 0, none⟩) n cap) v2 v3 c0 c1 c2 c3 iv au j vs vq wr) (hn : D.f1.length = n) (hk : k < n) (hr : row = D.f1.getD k []) : KOwn (iv k).1 (iv k).2 wr (.slice au row.length pu) row ∧ (c1.1 ≤ B ∧ B < c1.2) ∧ wr.frozen? ⟨B, k, none⟩ = false := by
  obtain ⟨u, cu, fu, hB, ku⟩ := h.tu.k1.cell (by exact hn) k hk
  rw [h.cb] at cu
  cases cu
  refine ⟨?_, hB, fu⟩
  rw [hr] at ku ⊢
  exact ku
theorem row_pos {row : List Int} (h : ∀ j, j < row.length → 1 ≤ fl row j ∧ fl row j ≤ 20) : ∀ x ∈ row, 0 ≤ x := by
  intro x hx
  obtain ⟨j, hj, rfl⟩ := List.mem_iff_getElem.1 hx
  have := h j hj
  have e : fl row j = row[j] := by simp [fl, List.getD_eq_getElem?_getD, hj]
  rw [e] at this
  omega
theorem sumI_take_succ {row : List Int} {j : Nat} (h : j < row.length) : sumI (row.take (j + 1)) = sumI (row.take j) + row.getD j 0 := by
  rw [take_succ_snoc row j h, sumI_append, sumI_cons, sumI_nil]
  omega
theorem tk_next {row : List Int} {cr : Int} {j : Nat} (h : j < row.length) (hx : row.getD j 0 ≤ cr - sumI (row.take j)) (ht : takeT cr row = (row.take j ++ (takeT (cr - sumI (row.take j)) (row.drop j)).1, (takeT (cr - sumI (row.take j)) (row.drop j)).2.1, (takeT (cr - sumI (row.take j)) (row.drop j)).2.2)) :
    takeT cr row = (row.take (j + 1) ++ (takeT (cr - sumI (row.take (j + 1))) (row.drop (j + 1))).1, (takeT (cr - sumI (row.take (j + 1))) (row.drop (j + 1))).2.1, (takeT (cr - sumI (row.take (j + 1))) (row.drop (j + 1))).2.2) := by
  have hd : row.drop j = row.getD j 0 :: row.drop (j + 1) := by
    rw [List.drop_eq_getElem_cons h]
    simp [List.getD_eq_getElem?_getD, h]
  rw [hd, takeT_yes _ hx] at ht
  rw [ht, sumI_take_succ h, take_succ_snoc row j h]
  have e : cr - sumI (row.take j) - row.getD j 0 = cr - (sumI (row.take j) + row.getD j 0) := by omega
  rw [e]
  simp
theorem tk_end {row : List Int} {cr : Int} {j : Nat} (h : j = row.length ∨ (j < row.length ∧ ¬ row.getD j 0 ≤ cr - sumI (row.take j))) (ht : takeT cr row = (row.take j ++ (takeT (cr - sumI (row.take j)) (row.drop j)).1, (takeT (cr - sumI (row.take j)) (row.drop j)).2.1, (takeT (cr - sumI (row.take j)) (row.drop j)).2.2)) :
    takeT cr row = (row.take j, row.drop j, cr - sumI (row.take j)) := by
  rw [ht]
  rcases h with h | ⟨h, hx⟩
  · rw [List.drop_eq_nil_of_le (by omega)]
    simp [takeT]
  · have hd : row.drop j = row.getD j 0 :: row.drop (j + 1) := by
      rw [List.drop_eq_getElem_cons h]
      simp [List.getD_eq_getElem?_getD, h]
    rw [hd, takeT_no _ hx]
    simp
theorem set_fl (xs : List Int) (k : Nat) : xs.set k (fl xs k) = xs := by
  by_cases h : k < xs.length
  · apply List.ext_getElem
    · simp
    · intro i h1 h2
      by_cases e : k = i
      · subst e; simp [fl, List.getD_eq_getElem?_getD, h]
      · rw [List.getElem_set_ne e]
  · rw [List.set_eq_of_length_le (by omega)]
/-- What the operations make. -/
def nextF (A kk : Nat) (vq uq : Value) (ys : List Int) : Nat → (Nat → Value) → (Nat → Nat × Nat) → World → Prop
  | 0, σ, _, _ => σ 0 = .pointer (some ⟨A, 1, none⟩)
  | 1, σ, _, _ => σ 1 = vq
  | 2, σ, _, _ => σ 2 = .int .i64 (kk : Nat)
  | 3, σ, _, _ => ∃ b, σ 3 = .slice (some ⟨b, 0, none⟩) 0 0
  | 4, σ, _, _ => σ 4 = uq
  | 5, σ, c, w => (KOwn (c 5).1 (c 5).2 w (σ 5) ys ∧ KApp (c 5).1 (c 5).2 w (σ 5) ys) ∧ ∃ a n k, σ 5 = .slice a n k
  | _, _, _, _ => True
theorem nextF_keep {A kk : Nat} {vq uq : Value} {ys : List Int} : ∀ j ∈ [0, 1, 2, 3, 4, 5], ∀ σ c w w', nextF A kk vq uq ys j σ c w → Below w.heap.size w w' → nextF A kk vq uq ys j σ c w' := by
  intro j hj σ c w w' h hb
  simp only [List.mem_cons, List.not_mem_nil, or_false] at hj; rcases hj with rfl | rfl | rfl | rfl | rfl | rfl
  · exact h
  · exact h
  · exact h
  · exact h
  · exact h
  · exact ⟨⟨h.1.1.below hb, h.1.2.below hb⟩, h.2⟩
theorem nextF_loc {A kk : Nat} {vq uq : Value} {ys : List Int} {j i : Nat} {σ : Nat → Value} {c : Nat → Nat × Nat} {w : World} {v : Value} {r : Nat × Nat} (hj : j ∈ [0, 1, 2, 3, 4, 5]) (hne : i ≠ j) (_hd : True) (h : nextF A kk vq uq ys j σ c w) : nextF A kk vq uq ys j (upd σ i v) (upd c i r) w := by
  simp only [List.mem_cons, List.not_mem_nil, or_false] at hj; rcases hj with rfl | rfl | rfl | rfl | rfl | rfl
  · simp only [nextF, upd_other _ _ (Ne.symm hne)] at h ⊢
    exact h
  · simp only [nextF, upd_other _ _ (Ne.symm hne)] at h ⊢
    exact h
  · simp only [nextF, upd_other _ _ (Ne.symm hne)] at h ⊢
    exact h
  · simp only [nextF, upd_other _ _ (Ne.symm hne)] at h ⊢
    exact h
  · simp only [nextF, upd_other _ _ (Ne.symm hne)] at h ⊢
    exact h
  · simp only [nextF, upd_other _ _ (Ne.symm hne)] at h ⊢
    exact h
/-- What a turn leaves behind. -/
def NextPost (S : Nat → Prop) (w : World) (D : TuD) (k : Nat) (u vs : Value) (w' : World) : Prop := ∃ (S' : Nat → Prop) (r : Nat × Nat), TuOwn S' w' u (stepD D) ∧ KOwn r.1 r.2 w' vs (sendT D k) ∧ (∀ g, r.1 ≤ g → g < r.2 → (w.heap.size ≤ g ∧ g < w'.heap.size) ∧ ¬ S' g) ∧ (∀ g, S' g → S g ∨ (w.heap.size ≤ g ∧ g < w'.heap.size)) ∧ ∀ lo, (∀ g, S g → lo ≤ g) → lo ≤ w.heap.size → Below lo w w'
set_option maxRecDepth 100000 in
set_option maxHeartbeats 16000000 in
theorem snext_tu {S : Nat → Prop} {w : World} {D : TuD} {s0 s1 s2 s3 : Value} {c0 c1 c2 c3 : Nat × Nat} {iv : Nat → Nat × Nat} (ha : Aset S (D.f1.length + 4) (tuIv c0 c1 c2 c3 iv)) (t0 : KOwn c0.1 c0.2 w s0 D.f0) (t1 : QRow w c1 s1 D.f1 iv) (t2 : KOwn c2.1 c2.2 w s2 D.f2) (t3 : KOwn c3.1 c3.2 w s3 D.f3) (hg : GoodT D) (hS : ∀ g, S g → g < w.heap.size) :
    Calls Try.prog 87 #[.agg #[s0, s1, s2, s3, .int .i64 D.f4]] w fun e w' => ∃ u vs, e = .returned (.tuple #[u, vs]) ∧ NextPost S w D (atN D) u vs w' := by
  have HS := hid hS
  have hn := hg.n
  have L1 := hid hg.l1
  have L2 := hid hg.l2
  have L3 := hid hg.l3
  have hkl := at_lt hg
  have hat : D.f4 = ((atN D : Nat) : Int) := by have := hg.at_; unfold atN; omega
  obtain ⟨k, hk⟩ : ∃ k, k = atN D := ⟨_, rfl⟩
  rw [← hk] at hkl hat ⊢
  have HK := hid hk
  have HG := hid hg
  clear hk hg hS
  rw [L1.out] at hkl
  obtain ⟨g0, o0, p0, e0, h0⟩ := t0.reads.cells k hkl
  have hs1 : ∃ B cap, s1 = .slice (some ⟨B, 0, none⟩) D.f1.length cap := by
    obtain ⟨_, h⟩ := t1
    rcases h with ⟨a', cap', e, e2⟩ | ⟨B', cap', us, e, _⟩
    · have := L1.out; rw [e2] at this; simp at this; omega
    · exact ⟨B', cap', e⟩
  obtain ⟨B, cap, rfl⟩ := hs1
  have hs2 : ∃ g2 p2, s2 = .slice (some ⟨g2, 0, none⟩) D.f2.length p2 := by
    obtain ⟨_, h⟩ := t2
    rcases h with ⟨a', cap', e, e2⟩ | ⟨B', cap', e, _⟩
    · have := L2.out; rw [e2] at this; simp at this; omega
    · exact ⟨B', cap', e⟩
  obtain ⟨g2, p2, rfl⟩ := hs2
  have hs3 : ∃ g3 p3, s3 = .slice (some ⟨g3, 0, none⟩) D.f3.length p3 := by
    obtain ⟨_, h⟩ := t3
    rcases h with ⟨a', cap', e, e2⟩ | ⟨B', cap', e, _⟩
    · have := L3.out; rw [e2] at this; simp at this; omega
    · exact ⟨B', cap', e⟩
  obtain ⟨g3, p3, rfl⟩ := hs3
  subst e0
  rw [L1.out] at t1 ⊢
  rw [L2.out] at t2 ⊢
  rw [L3.out] at t3 ⊢
  obtain ⟨n, hnn⟩ : ∃ n, n = D.f0.length := ⟨_, rfl⟩
  have HNN := hid hnn
  rw [← hnn] at t0 t1 t2 t3 hkl hn ⊢
  clear hnn
  obtain ⟨k', hk'⟩ : ∃ k', k' = (k + 1) % n := ⟨_, rfl⟩
  have HK' := hid hk'
  have hmod : ((k : Int) + 1) % (n : Int) = (k' : Int) := by rw [hk']; rfl
  have hn0 : ¬ ((n : Int) = 0) := by omega
  clear hk'
  rw [hat]
  obtain ⟨u, cu, fu, hB, ku⟩ := t1.cell (by rw [L1.out, ← HNN.out]) k hkl
  obtain ⟨row, hrow⟩ : ∃ x, x = D.f1.getD k [] := ⟨_, rfl⟩
  rw [← hrow] at ku
  have HROW := hid hrow
  obtain ⟨au, pu, eu⟩ := ku.form
  subst eu
  have KU := hid ku
  have hBw : B < w.heap.size := lt_of_cell cu
  have n0 : (0 : Int) ≤ (k : Int) := by omega
  have n1 : (k : Int) < (n : Int) := by omega
  -- the box behind the first statements
  have B0 : Hid (Below w.heap.size w ((w.alloc (.cells #[.slice (some ⟨g0, o0, none⟩) n p0, .slice (some ⟨B, 0, none⟩) n cap, .slice (some ⟨g2, 0, none⟩) n p2, .slice (some ⟨g3, 0, none⟩) n p3, .int .i64 (k' : Int)] 55)).alloc (.cells #[.slice none 0 0, .slice none 0 0, .slice none 0 0, .slice none 0 0, .int .i64 0] 55))) := ((Below.refl _ _).alloc (Nat.le_refl _) _).alloc (by simp) _
  have PA := boxL_new w [.slice (some ⟨g0, o0, none⟩) n p0, .slice (some ⟨B, 0, none⟩) n cap, .slice (some ⟨g2, 0, none⟩) n p2, .slice (some ⟨g3, 0, none⟩) n p3, .int .i64 (k' : Int)] 55
  have PR := hid (boxL_new (w.alloc (.cells #[.slice (some ⟨g0, o0, none⟩) n p0, .slice (some ⟨B, 0, none⟩) n cap, .slice (some ⟨g2, 0, none⟩) n p2, .slice (some ⟨g3, 0, none⟩) n p3, .int .i64 (k' : Int)] 55)) [.slice none 0 0, .slice none 0 0, .slice none 0 0, .slice none 0 0, .int .i64 0] 55)
  rw [World.size_alloc] at PR
  have H1 : Hid (TuC S ((w.alloc (.cells #[.slice (some ⟨g0, o0, none⟩) n p0, .slice (some ⟨B, 0, none⟩) n cap, .slice (some ⟨g2, 0, none⟩) n p2, .slice (some ⟨g3, 0, none⟩) n p3, .int .i64 (k' : Int)] 55)).alloc (.cells #[.slice none 0 0, .slice none 0 0, .slice none 0 0, .slice none 0 0, .int .i64 0] 55)) w.heap.size ⟨D.f0, D.f1, D.f2, D.f3, (k' : Int)⟩ (.slice (some ⟨g0, o0, none⟩) n p0) (.slice (some ⟨B, 0, none⟩) n cap) (.slice (some ⟨g2, 0, none⟩) n p2) (.slice (some ⟨g3, 0, none⟩) n p3) c0 c1 c2 c3 iv) :=
    ⟨PA.below ((Below.refl _ _).alloc (Nat.le_refl _) _) PA.lt, fun hX => by have := HS.out _ hX; omega, ha, t0.below B0.out, t1.below B0.out, t2.below B0.out, t3.below B0.out⟩
  have hs1 : ((w.alloc (.cells #[.slice (some ⟨g0, o0, none⟩) n p0, .slice (some ⟨B, 0, none⟩) n cap, .slice (some ⟨g2, 0, none⟩) n p2, .slice (some ⟨g3, 0, none⟩) n p3, .int .i64 (k' : Int)] 55)).alloc (.cells #[.slice none 0 0, .slice none 0 0, .slice none 0 0, .slice none 0 0, .int .i64 0] 55)).heap.size = w.heap.size + 2 := by rw [World.size_alloc, World.size_alloc]
  have CB0 := hid cu
  clear PA ha t0 t1 t2 t3 ku h0 hrow
  go_enter Try.func87, Try.ntmps87
  by_cases hre : row.length = 0
  · rw [hre] at cu
    have HRE := hid hre
    clear hre
    go_wp2_with fail
    obtain ⟨W1, hW1⟩ : ∃ W1, W1 = (w.alloc (.cells #[.slice (some ⟨g0, o0, none⟩) n p0, .slice (some ⟨B, 0, none⟩) n cap, .slice (some ⟨g2, 0, none⟩) n p2, .slice (some ⟨g3, 0, none⟩) n p3, .int .i64 (k' : Int)] 55)).alloc (.cells #[.slice none 0 0, .slice none 0 0, .slice none 0 0, .slice none 0 0, .int .i64 0] 55) := ⟨_, rfl⟩
    rw [← hW1] at H1 PR hs1 B0 ⊢
    clear hW1 cu fu hBw hmod
    obtain ⟨y0, y1, y2, y3, y4⟩ := H1.out.box.five
    obtain ⟨_, hg2, cc2, ff2⟩ := H1.out.k2.setN k 0 (by show k < D.f2.length; rw [L2.out, ← HNN.out]; exact hkl)
    obtain ⟨_, hg3, cc3, ff3⟩ := H1.out.k3.setN k 0 (by show k < D.f3.length; rw [L3.out, ← HNN.out]; exact hkl)
    obtain ⟨g0', o0', p0', e0', h0'⟩ := H1.out.k0.reads.cells k (by show k < D.f0.length; rw [← HNN.out]; exact hkl)
    have cc0 := h0' k (by show k < D.f0.length; rw [← HNN.out]; exact hkl)
    simp only at e0' cc0 cc2 cc3
    unfold KCells at cc0
    obtain ⟨ck, hck⟩ : ∃ x, x = fl D.f2 k := ⟨_, rfl⟩
    obtain ⟨qk, hqk⟩ : ∃ x, x = fl D.f0 k := ⟨_, rfl⟩
    obtain ⟨sk, hsk⟩ : ∃ x, x = fl D.f3 k := ⟨_, rfl⟩
    have C2 : W1.cell? ⟨g2, k, none⟩ = some (.int .i64 ck) := by rw [hck]; exact cc2
    have C3 : W1.cell? ⟨g3, k, none⟩ = some (.int .i64 sk) := by rw [hsk]; exact cc3
    have C0 : W1.cell? ⟨g0', o0' + k, none⟩ = some (.int .i64 qk) := by rw [hqk]; exact cc0
    have eg0 : g0' = g0 ∧ o0' = o0 := by
      rw [← HNN.out] at e0'
      cases e0'
      exact ⟨rfl, rfl⟩
    obtain ⟨rfl, rfl⟩ := eg0
    have hbk := HG.out.k k (by rw [L1.out, ← HNN.out]; exact hkl)
    rw [← HROW.out] at hbk
    have bc := HG.out.c k
    have bq := HG.out.q k (by rw [← HNN.out]; exact hkl)
    have bs := HG.out.s k
    rw [← hck] at bc
    rw [← hqk] at bq
    rw [← hsk] at bs
    have HCK := hid hck
    have HQK := hid hqk
    have HSK := hid hsk
    have HBK := hid hbk
    have hw2 : IntKind.i64.wrap (ck + qk) = ck + qk := by rw [IntKind.wrap_i64]; omega
    have hrl : row.length ≤ 30 := hbk.1
    have S2 := (H1.out.ap.inn 2 (by omega)).2 g2 hg2.1 hg2.2
    have S3 := (H1.out.ap.inn 3 (by omega)).2 g3 hg3.1 hg3.2
    have HS2 := hid S2
    have HS3 := hid S3
    have hsetf2 : D.f2.set k ck = D.f2 := by rw [hck]; exact set_fl _ _
    have hsetf3 : D.f3.set k sk = D.f3 := by rw [hsk]; exact set_fl _ _
    have HF2 := hid hsetf2
    have HF3 := hid hsetf3
    clear hck hqk hsk cc0 cc2 cc3 e0' h0' hbk S2 S3 hsetf2 hsetf3
    obtain ⟨j, hj0⟩ : ∃ j, j = 0 := ⟨_, rfl⟩
    have HJ0 := hid hj0
    obtain ⟨rest, hrest⟩ : ∃ x : List Int, x = [] := ⟨_, rfl⟩
    have hrow0 : row = [] := List.length_eq_zero_iff.1 HRE.out
    have htk0 : row.take j = [] := by rw [hrow0]; exact List.take_nil
    have hsend : sendT D k = row.take j := by unfold sendT; rw [← HROW.out, htk0, hrow0]; rfl
    have hleft : leftT D k = rest := by unfold leftT; rw [← HROW.out, hrow0, hrest]; rfl
    have hrest2 : restT D k = 0 := by unfold restT; rw [hleft, hrest]; rfl
    have FINE : Hid (stepD D = ⟨D.f0, D.f1.set k rest, D.f2.set k 0, D.f3, (k' : Int)⟩) := by
      show _ = _
      unfold stepD nextD
      rw [← HK.out, hleft, hrest2, hsend, htk0, sumI_nil, Int.add_zero, ← HSK.out, HF3.out, HK'.out, L1.out, ← HNN.out]
    have SENDE := hid hsend
    have HRL : Hid (rest.length ≤ 30) := by show _ ≤ _; rw [hrest]; simp
    have HE : Hid (TuC S (W1.setCell ⟨g2, k, none⟩ (.int .i64 0)).drew w.heap.size ⟨D.f0, D.f1, D.f2.set k 0, D.f3, (k' : Int)⟩ (.slice (some ⟨g0', o0', none⟩) n p0) (.slice (some ⟨B, 0, none⟩) n cap) (.slice (some ⟨g2, 0, none⟩) n p2) (.slice (some ⟨g3, 0, none⟩) n p3) c0 c1 c2 c3 iv) := (H1.out.set2 k (by show k < D.f2.length; rw [L2.out, ← HNN.out]; exact hkl) 0).drew
    have op0 := onlyP_set W1 g2 k (.int .i64 0)
    have hg2w := HS.out g2 HS2.out
    have KQ : Hid (KReads (W1.setCell ⟨g2, k, none⟩ (.int .i64 0)).drew (.slice au 0 pu) rest) := by rw [hrest]; exact kreads_nil _ _ _
    have OSE : Hid ((W1.setCell ⟨g2, k, none⟩ (.int .i64 0)).drew.ownsRow (w.heap.size + 2) 3 1 (.slice none 0 0) j (kflat (row.take j))) := by rw [htk0, hj0]; exact World.ownsRow_nil _ _ _ _
    have BXE : Hid (BoxL (W1.setCell ⟨g2, k, none⟩ (.int .i64 0)).drew (w.heap.size + 1) [.slice none 0 0, .slice none 0 0, .slice none 0 0, .slice none 0 0, .int .i64 0]) := PR.out.of_block (op0.2.1 _ (by omega))
    have BLE : Hid (∀ lo, (∀ g, S g → lo ≤ g) → lo ≤ w.heap.size → Below lo w (W1.setCell ⟨g2, k, none⟩ (.int .i64 0)).drew) := fun lo a b => ((B0.out.mono b).trans (op0.below (fun j e => by have := a g2 HS2.out; omega))).drew
    have hszE : w.heap.size + 2 ≤ (W1.setCell ⟨g2, k, none⟩ (.int .i64 0)).drew.heap.size := by show _ ≤ (W1.setCell ⟨g2, k, none⟩ (.int .i64 0)).heap.size; rw [World.size_setCell, hs1]; exact Nat.le_refl _
    have hBr := hB
    clear hj0 hrest hrow0 htk0 hsend hleft hrest2 op0 hs1
    go_loopw [5, 6] (fun vs vq wr => vs = .slice none 0 0 ∧ vq = .slice au 0 pu ∧ W1 = wr) (fun _ _ _ => 0)
    case atStart => exact ⟨rfl, rfl, rfl⟩
    case round =>
      obtain ⟨rfl, rfl, rfl⟩ := hrel
      go_wp2_with fail
      go_big_region
      go_wp2_with fail
      clear y0 y1 y2 y3 y4 C0 C2 C3 ff2 ff3 H1 B0 PR
      obtain ⟨wE, hwE⟩ : ∃ wE, wE = (W1.setCell ⟨g2, k, none⟩ (.int .i64 0)).drew := ⟨_, rfl⟩
      rw [← hwE] at HE KQ OSE BXE BLE hszE ⊢
      clear hwE
      refine wp_region_any (by kernel_rfl) ?_
      change wpAny _ _ _ _ _ _ _ (World.drew _)
      obtain ⟨wF, hwF⟩ : ∃ wF, wF = World.drew wE := ⟨_, rfl⟩
      replace HE := hid (show TuC S wF w.heap.size _ (.slice (some ⟨g0', o0', none⟩) n p0) (.slice (some ⟨B, 0, none⟩) n cap) (.slice (some ⟨g2, 0, none⟩) n p2) (.slice (some ⟨g3, 0, none⟩) n p3) c0 c1 c2 c3 iv by rw [hwF]; exact HE.out.drew)
      replace KQ : Hid (KReads wF (.slice au 0 pu) rest) := by rw [hwF]; exact KQ.out
      replace OSE : Hid (wF.ownsRow (w.heap.size + 2) 3 1 (.slice none 0 0) j (kflat (row.take j))) := by rw [hwF]; exact OSE.out
      replace BXE : Hid (BoxL wF (w.heap.size + 1) [.slice none 0 0, .slice none 0 0, .slice none 0 0, .slice none 0 0, .int .i64 0]) := by rw [hwF]; exact BXE.out
      replace BLE : Hid (∀ lo, (∀ g, S g → lo ≤ g) → lo ≤ w.heap.size → Below lo w wF) := by rw [hwF]; exact fun lo a b => (BLE.out lo a b).drew
      replace hszE : w.heap.size + 2 ≤ wF.heap.size := by rw [hwF]; exact hszE
      rw [← hwF]
      clear hwF
      refine wpAny_facts' 2 (Array.replicate 8 false) #[true, true, true, true, true, true, false, false] [0, 1, 2, 3, 4, 5] (fun τ : Nat → Value => #[Value.agg #[Value.slice (some { block := g0', off := o0' }) n p0, Value.slice (some { block := B, off := 0 }) n cap, Value.slice (some { block := g2, off := 0 }) n p2, Value.slice (some { block := g3, off := 0 }) n p3, Value.int IntKind.i64 ↑k], Value.pointer (some { block := w.heap.size, off := 0 }), Value.pointer (some { block := w.heap.size + 1, off := 0 }), Value.slice none 0 0, Value.int IntKind.i64 ↑k, Value.slice none 0 0, Value.slice au 0 pu, Value.pointer (some { block := w.heap.size, off := 4 }), Value.int IntKind.i64 ↑k, Value.int IntKind.i64 ↑k, Value.int IntKind.i64 (↑k + 1), Value.pointer (some { block := w.heap.size, off := 1 }), Value.slice (some { block := B, off := 0 }) n cap, Value.int IntKind.i64 ↑n, Value.int IntKind.i64 ((↑k + 1) % ↑n), Value.pointer (some { block := w.heap.size, off := 4 }), Value.pointer (some { block := w.heap.size, off := 1 }), Value.slice (some { block := B, off := 0 }) n cap, Value.int IntKind.i64 ↑k, Value.pointer (some { block := B, off := k }), Value.slice au 0 pu, Value.slice au 0 pu, Value.int IntKind.i64 0, Value.bool false, undef, undef, undef, undef, undef, undef, undef, undef, undef, undef, undef, undef, Value.slice au 0 pu, Value.int IntKind.i64 0, Value.bool false, Value.bool false, undef, undef, undef, undef, undef, undef, undef, undef, undef, Value.bool false, u50, u51, u52, u53, u54, u55, u56, u57, u58, u59, u60, u61, u62, u63, u64, u65, u66, u67, u68, u69, u70, u71, u72, u73, u74, u75, u76, u77, Value.slice au 0 pu, Value.int IntKind.i64 0, Value.bool true, Value.pointer (some { block := w.heap.size, off := 2 }), Value.slice (some { block := g2, off := 0 }) n p2, Value.int IntKind.i64 ↑k, Value.pointer (some { block := g2, off := k }), τ 0, τ 1, τ 2, τ 3, τ 4, τ 5, undef, undef, undef]) (nextF w.heap.size k (.slice (some ⟨B, 0, none⟩) n cap) (.slice au 0 pu) rest) (fun _ => undef) rfl (by kernel_rfl) (by kernel_rfl) (by kernel_rfl) (by kernel_rfl) (by decide) nextF_keep (fun j hj i hi σ c w v r hne hd h => nextF_loc hj hne trivial h) ?_ ?_
      · intro τ c wz hb hf hin hdj
        obtain ⟨⟨k5, ka5⟩, a5, m5, q5, e5⟩ : nextF _ _ _ _ _ 5 τ c wz := hf 5 (by decide)
        have e1 : nextF _ _ _ _ _ 1 τ c wz := hf 1 (by decide)
        have e2 : nextF _ _ _ _ _ 2 τ c wz := hf 2 (by decide)
        simp only [nextF] at e1 e2
        have n5 := hin 5 (by decide)
        rw [e5] at k5 ka5
        clear hf hin hdj
        try dsimp only
        rw [e1, e2, e5]
        have hbs := hb.size
        have HZ2 := hid (HE.out.below hb)
        have hBS := (HE.out.ap.inn 1 (by omega)).2 B hBr.1 hBr.2
        have hBw := HS.out B hBS
        obtain ⟨u', cu', fu', _, _⟩ := HZ2.out.k1.cell (by show D.f1.length = n; rw [L1.out, ← HNN.out]) k hkl
        obtain ⟨r, hr1, hr2⟩ : ∃ r : Nat × Nat, KOwn r.1 r.2 wz (.slice a5 m5 q5) rest ∧ ((r.2 = r.1 + 1 ∧ wF.heap.size ≤ r.1 ∧ r.1 < wz.heap.size) ∨ (r.2 = r.1 ∧ r.1 = wz.heap.size)) := by
          rcases ka5 with ⟨h0, aa, ea⟩ | ⟨ho, hlt⟩
          · refine ⟨(wz.heap.size, wz.heap.size), ?_, .inr ⟨rfl, rfl⟩⟩
            rw [ea, h0]
            exact kown_nil _ _ _ _ _
          · cases hob : (Value.slice a5 m5 q5).ownBlock with
            | none => exact ⟨(wz.heap.size, wz.heap.size), KOwn.of_owns2 ho (by have := HRL.out; omega) (fun g e => by rw [hob] at e; cases e), .inr ⟨rfl, rfl⟩⟩
            | some g =>
              have hgl := owns_lt ho g hob
              exact ⟨(g, g + 1), KOwn.of_owns2 ho (by have := HRL.out; omega) (fun g' e => by rw [hob] at e; cases e; exact ⟨Nat.le_refl _, Nat.lt_succ_self _⟩), .inl ⟨rfl, by show wF.heap.size ≤ g; omega, hgl.2⟩⟩
        have H7 : Hid (TuC (fun g => S g ∨ (r.1 ≤ g ∧ g < r.2)) (wz.setCell ⟨B, k, none⟩ (.slice a5 m5 q5)) w.heap.size (stepD D) (.slice (some ⟨g0', o0', none⟩) n p0) (.slice (some ⟨B, 0, none⟩) n cap) (.slice (some ⟨g2, 0, none⟩) n p2) (.slice (some ⟨g3, 0, none⟩) n p3) c0 c1 c2 c3 (upd iv k r)) := by
          have h := TuC.set1 (S' := fun g => S g ∨ (r.1 ≤ g ∧ g < r.2)) HZ2.out (by show k < D.f1.length; rw [L1.out, ← HNN.out]; exact hkl) hr1 (by
            rcases hr2 with ⟨y1, y2, y3⟩ | ⟨y1, y2⟩
            · exact .inl ⟨y1, .inr ⟨Nat.le_refl _, by omega⟩, fun hg => by have := HS.out _ hg; omega⟩
            · exact .inr ⟨y1, fun g hg => by have := HS.out g hg; omega⟩) (fun g hg => .inl hg) (fun h => by
            rcases h with h | h
            · have := HS.out _ h; omega
            · omega)
          rw [FINE.out]
          exact h
        have op7 := onlyP_set wz B k (.slice a5 m5 q5)
        have hs7 := op7.1
        obtain ⟨rs, hrs1, hrs2⟩ : ∃ rs : Nat × Nat, KOwn rs.1 rs.2 wz (.slice none 0 0) (row.take j) ∧ ∀ g, rs.1 ≤ g → g < rs.2 → w.heap.size + 2 ≤ g ∧ g < wF.heap.size := by
          have ho := owns_at OSE.out fun g _ hg => hb.block g hg
          cases hob : (Value.slice none 0 0).ownBlock with
          | none => exact ⟨(0, 0), KOwn.of_owns2 ho (by rw [List.length_take]; have := HRE.out; omega) (fun g e => by rw [hob] at e; cases e), fun g g1 g2 => by simp only at g2; omega⟩
          | some g =>
            have hgl := owns_lt OSE.out g hob
            refine ⟨(g, g + 1), KOwn.of_owns2 ho (by rw [List.length_take]; have := HRE.out; omega) (fun g' e => by rw [hob] at e; cases e; exact ⟨Nat.le_refl _, Nat.lt_succ_self _⟩), fun g' y1 y2 => ?_⟩
            simp only at y1 y2
            omega
        have BX7 := hid ((BXE.out.below hb BXE.out.lt).of_block (op7.2.1 _ (by omega)))
        have BL7 : Hid (∀ lo, (∀ g, S g → lo ≤ g) → lo ≤ w.heap.size → Below lo w (wz.setCell ⟨B, k, none⟩ (.slice a5 m5 q5))) := fun lo hl hw => ((BLE.out lo hl hw).trans (hb.mono (by omega))).trans (op7.below (fun j e => by have := hl B hBS; omega))
        have KS7 := hid (hrs1.onlyP op7 (fun g g1 g2 e => by have := hrs2 g g1 g2; omega))
        have cB := cu'
        have fB := fu'
        have zq : (stepD D).f4 = (k' : Int) := by rw [FINE.out]
        clear k5 ka5 n5 e1 e2 e5 HZ2 hr1 hrs1 cu' fu' HE KQ OSE BXE BLE
        refine wpAny_ready (rs := [6]) (by kernel_rfl) (by simp) ?_
        refine AllReady.cons rfl (fun K hK => ?_) AllReady.nil
        go_simp
        refine hK _ _ ?_
        clear hK K
        refine wpAny_ready (rs := [7]) (by kernel_rfl) (by simp) ?_
        refine AllReady.cons rfl (fun K hK => ?_) AllReady.nil
        go_simp
        refine hK _ _ ?_
        clear hK K
        refine wpAny_done (by kernel_rfl) ?_ _
        obtain ⟨W7, hW7⟩ : ∃ W7, W7 = wz.setCell ⟨B, k, none⟩ (.slice a5 m5 q5) := ⟨_, rfl⟩
        rw [← hW7] at H7 BX7 BL7 KS7 hs7 ⊢
        clear hW7 cB fB op7
        have hbx := H7.out.box
        rw [zq] at hbx
        obtain ⟨y0, y1, y2, y3, y4⟩ := hbx.five
        obtain ⟨t0, t1, t2, t3, t4⟩ := BX7.out.five
        have x0 := (BX7.out.cell 0 (by simp)).2
        have x1 := (BX7.out.cell 1 (by simp)).2
        have x2 := (BX7.out.cell 2 (by simp)).2
        have x3 := (BX7.out.cell 3 (by simp)).2
        have x4 := (BX7.out.cell 4 (by simp)).2
        have op := put5_only W7 (w.heap.size + 1) (.slice (some ⟨g0', o0', none⟩) n p0) (.slice (some ⟨B, 0, none⟩) n cap) (.slice (some ⟨g2, 0, none⟩) n p2) (.slice (some ⟨g3, 0, none⟩) n p3) (.int .i64 (k' : Int))
        have bx := put5_box BX7.out (.slice (some ⟨g0', o0', none⟩) n p0) (.slice (some ⟨B, 0, none⟩) n cap) (.slice (some ⟨g2, 0, none⟩) n p2) (.slice (some ⟨g3, 0, none⟩) n p3) (.int .i64 (k' : Int))
        have hs8 := op.1
        have NP : Hid (NextPost S w D k (.agg #[.slice (some ⟨g0', o0', none⟩) n p0, .slice (some ⟨B, 0, none⟩) n cap, .slice (some ⟨g2, 0, none⟩) n p2, .slice (some ⟨g3, 0, none⟩) n p3, .int .i64 (k' : Int)]) (.slice none 0 0) (put5 W7 (w.heap.size + 1) (.slice (some ⟨g0', o0', none⟩) n p0) (.slice (some ⟨B, 0, none⟩) n cap) (.slice (some ⟨g2, 0, none⟩) n p2) (.slice (some ⟨g3, 0, none⟩) n p3) (.int .i64 (k' : Int)))) := by
          refine ⟨fun g => S g ∨ (r.1 ≤ g ∧ g < r.2), rs, ?_, ?_, fun g g1 g2 => ?_, fun g hg => ?_, fun lo hl hw => (BL7.out lo hl hw).trans (op.below (fun j e => by omega))⟩
          · have h := H7.out.own
            rw [zq] at h
            exact h.at fun g hg _ => op.2.1 g (by
              rcases hg with hg | hg
              · have := HS.out g hg; omega
              · omega)
          · rw [SENDE.out]
            exact KS7.out.onlyP op (fun g g1 g2 e => by have := hrs2 g g1 g2; omega)
          · have := hrs2 g g1 g2
            rw [hs8, hs7]
            refine ⟨by omega, fun h => ?_⟩
            rcases h with h | h
            · have := HS.out g h; omega
            · omega
          · rw [hs8, hs7]
            rcases hg with hg | hg
            · exact .inl hg
            · exact .inr ⟨by omega, by omega⟩
        obtain ⟨z0, z1, z2, z3, z4⟩ := bx.five
        clear op bx hs8 hs7 hbx H7 BX7 BL7 KS7 hrs2 hr2
        go_wp2
        exact bodyPost_ret (v := .tuple #[.agg #[.slice (some ⟨g0', o0', none⟩) n p0, .slice (some ⟨B, 0, none⟩) n cap, .slice (some ⟨g2, 0, none⟩) n p2, .slice (some ⟨g3, 0, none⟩) n p3, .int .i64 (k' : Int)], .slice none 0 0]) (by simp [results, Try.results87, go_sem, z0, z1, z2, z3, z4]) rfl ⟨_, _, rfl, NP.out⟩
      · intro i' hi τ c wr hb hd
        simp only [List.mem_cons, List.not_mem_nil, or_false] at hi; rcases hi with rfl | rfl | rfl | rfl | rfl | rfl
        · skip
          clear hd
          refine StepF.of (a1 := ⟨#[Value.agg #[Value.slice (some { block := g0', off := o0' }) n p0, Value.slice (some { block := B, off := 0 }) n cap, Value.slice (some { block := g2, off := 0 }) n p2, Value.slice (some { block := g3, off := 0 }) n p3, Value.int IntKind.i64 ↑k], Value.pointer (some { block := w.heap.size, off := 0 }), Value.pointer (some { block := w.heap.size + 1, off := 0 }), Value.slice none 0 0, Value.int IntKind.i64 ↑k, Value.slice none 0 0, Value.slice au 0 pu, Value.pointer (some { block := w.heap.size, off := 4 }), Value.int IntKind.i64 ↑k, Value.int IntKind.i64 ↑k, Value.int IntKind.i64 (↑k + 1), Value.pointer (some { block := w.heap.size, off := 1 }), Value.slice (some { block := B, off := 0 }) n cap, Value.int IntKind.i64 ↑n, Value.int IntKind.i64 ((↑k + 1) % ↑n), Value.pointer (some { block := w.heap.size, off := 4 }), Value.pointer (some { block := w.heap.size, off := 1 }), Value.slice (some { block := B, off := 0 }) n cap, Value.int IntKind.i64 ↑k, Value.pointer (some { block := B, off := k }), Value.slice au 0 pu, Value.slice au 0 pu, Value.int IntKind.i64 0, Value.bool false, undef, undef, undef, undef, undef, undef, undef, undef, undef, undef, undef, undef, Value.slice au 0 pu, Value.int IntKind.i64 0, Value.bool false, Value.bool false, undef, undef, undef, undef, undef, undef, undef, undef, undef, Value.bool false, u50, u51, u52, u53, u54, u55, u56, u57, u58, u59, u60, u61, u62, u63, u64, u65, u66, u67, u68, u69, u70, u71, u72, u73, u74, u75, u76, u77, Value.slice au 0 pu, Value.int IntKind.i64 0, Value.bool true, Value.pointer (some { block := w.heap.size, off := 2 }), Value.slice (some { block := g2, off := 0 }) n p2, Value.int IntKind.i64 ↑k, Value.pointer (some { block := g2, off := k }), τ 0, τ 1, τ 2, τ 3, τ 4, τ 5, undef, undef, undef], []⟩) rfl rfl (fun _ => rfl) (fun K hK => ?_)
          go_simp
          exact hK _ _ (Below.refl _ _) rfl
        · skip
          have f0 : nextF _ _ _ _ _ 0 τ c wr := hd 0 (by decide) (by decide)
          simp only [nextF] at f0
          clear hd
          refine StepF.of (a1 := ⟨#[Value.agg #[Value.slice (some { block := g0', off := o0' }) n p0, Value.slice (some { block := B, off := 0 }) n cap, Value.slice (some { block := g2, off := 0 }) n p2, Value.slice (some { block := g3, off := 0 }) n p3, Value.int IntKind.i64 ↑k], Value.pointer (some { block := w.heap.size, off := 0 }), Value.pointer (some { block := w.heap.size + 1, off := 0 }), Value.slice none 0 0, Value.int IntKind.i64 ↑k, Value.slice none 0 0, Value.slice au 0 pu, Value.pointer (some { block := w.heap.size, off := 4 }), Value.int IntKind.i64 ↑k, Value.int IntKind.i64 ↑k, Value.int IntKind.i64 (↑k + 1), Value.pointer (some { block := w.heap.size, off := 1 }), Value.slice (some { block := B, off := 0 }) n cap, Value.int IntKind.i64 ↑n, Value.int IntKind.i64 ((↑k + 1) % ↑n), Value.pointer (some { block := w.heap.size, off := 4 }), Value.pointer (some { block := w.heap.size, off := 1 }), Value.slice (some { block := B, off := 0 }) n cap, Value.int IntKind.i64 ↑k, Value.pointer (some { block := B, off := k }), Value.slice au 0 pu, Value.slice au 0 pu, Value.int IntKind.i64 0, Value.bool false, undef, undef, undef, undef, undef, undef, undef, undef, undef, undef, undef, undef, Value.slice au 0 pu, Value.int IntKind.i64 0, Value.bool false, Value.bool false, undef, undef, undef, undef, undef, undef, undef, undef, undef, Value.bool false, u50, u51, u52, u53, u54, u55, u56, u57, u58, u59, u60, u61, u62, u63, u64, u65, u66, u67, u68, u69, u70, u71, u72, u73, u74, u75, u76, u77, Value.slice au 0 pu, Value.int IntKind.i64 0, Value.bool true, Value.pointer (some { block := w.heap.size, off := 2 }), Value.slice (some { block := g2, off := 0 }) n p2, Value.int IntKind.i64 ↑k, Value.pointer (some { block := g2, off := k }), (.pointer (some ⟨w.heap.size, 1, none⟩)), τ 1, τ 2, τ 3, τ 4, τ 5, undef, undef, undef], []⟩) (by simp only [f0]) rfl (fun _ => rfl) (fun K hK => ?_)
          obtain ⟨y0, y1, y2, y3, y4⟩ := (HE.out.box.below hb HE.out.box.lt).five
          go_simp
          exact hK _ _ (Below.refl _ _) rfl
        · skip
          clear hd
          refine StepF.of (a1 := ⟨#[Value.agg #[Value.slice (some { block := g0', off := o0' }) n p0, Value.slice (some { block := B, off := 0 }) n cap, Value.slice (some { block := g2, off := 0 }) n p2, Value.slice (some { block := g3, off := 0 }) n p3, Value.int IntKind.i64 ↑k], Value.pointer (some { block := w.heap.size, off := 0 }), Value.pointer (some { block := w.heap.size + 1, off := 0 }), Value.slice none 0 0, Value.int IntKind.i64 ↑k, Value.slice none 0 0, Value.slice au 0 pu, Value.pointer (some { block := w.heap.size, off := 4 }), Value.int IntKind.i64 ↑k, Value.int IntKind.i64 ↑k, Value.int IntKind.i64 (↑k + 1), Value.pointer (some { block := w.heap.size, off := 1 }), Value.slice (some { block := B, off := 0 }) n cap, Value.int IntKind.i64 ↑n, Value.int IntKind.i64 ((↑k + 1) % ↑n), Value.pointer (some { block := w.heap.size, off := 4 }), Value.pointer (some { block := w.heap.size, off := 1 }), Value.slice (some { block := B, off := 0 }) n cap, Value.int IntKind.i64 ↑k, Value.pointer (some { block := B, off := k }), Value.slice au 0 pu, Value.slice au 0 pu, Value.int IntKind.i64 0, Value.bool false, undef, undef, undef, undef, undef, undef, undef, undef, undef, undef, undef, undef, Value.slice au 0 pu, Value.int IntKind.i64 0, Value.bool false, Value.bool false, undef, undef, undef, undef, undef, undef, undef, undef, undef, Value.bool false, u50, u51, u52, u53, u54, u55, u56, u57, u58, u59, u60, u61, u62, u63, u64, u65, u66, u67, u68, u69, u70, u71, u72, u73, u74, u75, u76, u77, Value.slice au 0 pu, Value.int IntKind.i64 0, Value.bool true, Value.pointer (some { block := w.heap.size, off := 2 }), Value.slice (some { block := g2, off := 0 }) n p2, Value.int IntKind.i64 ↑k, Value.pointer (some { block := g2, off := k }), τ 0, τ 1, τ 2, τ 3, τ 4, τ 5, undef, undef, undef], []⟩) rfl rfl (fun _ => rfl) (fun K hK => ?_)
          go_simp
          exact hK _ _ (Below.refl _ _) rfl
        · skip
          clear hd
          refine StepF.of (a1 := ⟨#[Value.agg #[Value.slice (some { block := g0', off := o0' }) n p0, Value.slice (some { block := B, off := 0 }) n cap, Value.slice (some { block := g2, off := 0 }) n p2, Value.slice (some { block := g3, off := 0 }) n p3, Value.int IntKind.i64 ↑k], Value.pointer (some { block := w.heap.size, off := 0 }), Value.pointer (some { block := w.heap.size + 1, off := 0 }), Value.slice none 0 0, Value.int IntKind.i64 ↑k, Value.slice none 0 0, Value.slice au 0 pu, Value.pointer (some { block := w.heap.size, off := 4 }), Value.int IntKind.i64 ↑k, Value.int IntKind.i64 ↑k, Value.int IntKind.i64 (↑k + 1), Value.pointer (some { block := w.heap.size, off := 1 }), Value.slice (some { block := B, off := 0 }) n cap, Value.int IntKind.i64 ↑n, Value.int IntKind.i64 ((↑k + 1) % ↑n), Value.pointer (some { block := w.heap.size, off := 4 }), Value.pointer (some { block := w.heap.size, off := 1 }), Value.slice (some { block := B, off := 0 }) n cap, Value.int IntKind.i64 ↑k, Value.pointer (some { block := B, off := k }), Value.slice au 0 pu, Value.slice au 0 pu, Value.int IntKind.i64 0, Value.bool false, undef, undef, undef, undef, undef, undef, undef, undef, undef, undef, undef, undef, Value.slice au 0 pu, Value.int IntKind.i64 0, Value.bool false, Value.bool false, undef, undef, undef, undef, undef, undef, undef, undef, undef, Value.bool false, u50, u51, u52, u53, u54, u55, u56, u57, u58, u59, u60, u61, u62, u63, u64, u65, u66, u67, u68, u69, u70, u71, u72, u73, u74, u75, u76, u77, Value.slice au 0 pu, Value.int IntKind.i64 0, Value.bool true, Value.pointer (some { block := w.heap.size, off := 2 }), Value.slice (some { block := g2, off := 0 }) n p2, Value.int IntKind.i64 ↑k, Value.pointer (some { block := g2, off := k }), τ 0, τ 1, τ 2, τ 3, τ 4, τ 5, undef, undef, undef], []⟩) rfl rfl (fun _ => rfl) (fun K hK => ?_)
          go_simp
          exact hK _ _ ((Below.refl _ _).alloc (Nat.le_refl _) _) ⟨_, rfl⟩
        · skip
          clear hd
          refine StepF.of (a1 := ⟨#[Value.agg #[Value.slice (some { block := g0', off := o0' }) n p0, Value.slice (some { block := B, off := 0 }) n cap, Value.slice (some { block := g2, off := 0 }) n p2, Value.slice (some { block := g3, off := 0 }) n p3, Value.int IntKind.i64 ↑k], Value.pointer (some { block := w.heap.size, off := 0 }), Value.pointer (some { block := w.heap.size + 1, off := 0 }), Value.slice none 0 0, Value.int IntKind.i64 ↑k, Value.slice none 0 0, Value.slice au 0 pu, Value.pointer (some { block := w.heap.size, off := 4 }), Value.int IntKind.i64 ↑k, Value.int IntKind.i64 ↑k, Value.int IntKind.i64 (↑k + 1), Value.pointer (some { block := w.heap.size, off := 1 }), Value.slice (some { block := B, off := 0 }) n cap, Value.int IntKind.i64 ↑n, Value.int IntKind.i64 ((↑k + 1) % ↑n), Value.pointer (some { block := w.heap.size, off := 4 }), Value.pointer (some { block := w.heap.size, off := 1 }), Value.slice (some { block := B, off := 0 }) n cap, Value.int IntKind.i64 ↑k, Value.pointer (some { block := B, off := k }), Value.slice au 0 pu, Value.slice au 0 pu, Value.int IntKind.i64 0, Value.bool false, undef, undef, undef, undef, undef, undef, undef, undef, undef, undef, undef, undef, Value.slice au 0 pu, Value.int IntKind.i64 0, Value.bool false, Value.bool false, undef, undef, undef, undef, undef, undef, undef, undef, undef, Value.bool false, u50, u51, u52, u53, u54, u55, u56, u57, u58, u59, u60, u61, u62, u63, u64, u65, u66, u67, u68, u69, u70, u71, u72, u73, u74, u75, u76, u77, Value.slice au 0 pu, Value.int IntKind.i64 0, Value.bool true, Value.pointer (some { block := w.heap.size, off := 2 }), Value.slice (some { block := g2, off := 0 }) n p2, Value.int IntKind.i64 ↑k, Value.pointer (some { block := g2, off := k }), τ 0, τ 1, τ 2, τ 3, τ 4, τ 5, undef, undef, undef], []⟩) rfl rfl (fun _ => rfl) (fun K hK => ?_)
          go_simp
          exact hK _ _ (Below.refl _ _) rfl
        · skip
          have f3 : nextF _ _ _ _ _ 3 τ c wr := hd 3 (by decide) (by decide)
          obtain ⟨bb, f3⟩ := f3
          have f4 : nextF _ _ _ _ _ 4 τ c wr := hd 4 (by decide) (by decide)
          simp only [nextF] at f4
          clear hd
          refine StepF.of (a1 := ⟨#[Value.agg #[Value.slice (some { block := g0', off := o0' }) n p0, Value.slice (some { block := B, off := 0 }) n cap, Value.slice (some { block := g2, off := 0 }) n p2, Value.slice (some { block := g3, off := 0 }) n p3, Value.int IntKind.i64 ↑k], Value.pointer (some { block := w.heap.size, off := 0 }), Value.pointer (some { block := w.heap.size + 1, off := 0 }), Value.slice none 0 0, Value.int IntKind.i64 ↑k, Value.slice none 0 0, Value.slice au 0 pu, Value.pointer (some { block := w.heap.size, off := 4 }), Value.int IntKind.i64 ↑k, Value.int IntKind.i64 ↑k, Value.int IntKind.i64 (↑k + 1), Value.pointer (some { block := w.heap.size, off := 1 }), Value.slice (some { block := B, off := 0 }) n cap, Value.int IntKind.i64 ↑n, Value.int IntKind.i64 ((↑k + 1) % ↑n), Value.pointer (some { block := w.heap.size, off := 4 }), Value.pointer (some { block := w.heap.size, off := 1 }), Value.slice (some { block := B, off := 0 }) n cap, Value.int IntKind.i64 ↑k, Value.pointer (some { block := B, off := k }), Value.slice au 0 pu, Value.slice au 0 pu, Value.int IntKind.i64 0, Value.bool false, undef, undef, undef, undef, undef, undef, undef, undef, undef, undef, undef, undef, Value.slice au 0 pu, Value.int IntKind.i64 0, Value.bool false, Value.bool false, undef, undef, undef, undef, undef, undef, undef, undef, undef, Value.bool false, u50, u51, u52, u53, u54, u55, u56, u57, u58, u59, u60, u61, u62, u63, u64, u65, u66, u67, u68, u69, u70, u71, u72, u73, u74, u75, u76, u77, Value.slice au 0 pu, Value.int IntKind.i64 0, Value.bool true, Value.pointer (some { block := w.heap.size, off := 2 }), Value.slice (some { block := g2, off := 0 }) n p2, Value.int IntKind.i64 ↑k, Value.pointer (some { block := g2, off := k }), τ 0, τ 1, τ 2, (.slice (some ⟨bb, 0, none⟩) 0 0), (.slice au 0 pu), τ 5, undef, undef, undef], []⟩) (by simp only [f3, f4]) rfl (fun _ => rfl) (fun K hK => ?_)
          refine step_clone_lit (by rfl) _ _ (by rfl) bb (by rfl) (.slice au 0 pu) rest (by rfl) (KQ.out.below hb) (by have := HRL.out; omega) ?_
          intro u2 w2 k2 ka2 b2
          exact hK u2 w2 b2 ⟨⟨k2, ka2⟩, k2.sform⟩
  · have dl : decide ((0 : Int) < (row.length : Int)) = true := by rw [decide_eq_true_eq]; omega
    have dl2 : decide (0 < row.length) = true := by rw [decide_eq_true_eq]; omega
    go_wp2_with fail
    obtain ⟨W1, hW1⟩ : ∃ W1, W1 = (w.alloc (.cells #[.slice (some ⟨g0, o0, none⟩) n p0, .slice (some ⟨B, 0, none⟩) n cap, .slice (some ⟨g2, 0, none⟩) n p2, .slice (some ⟨g3, 0, none⟩) n p3, .int .i64 (k' : Int)] 55)).alloc (.cells #[.slice none 0 0, .slice none 0 0, .slice none 0 0, .slice none 0 0, .int .i64 0] 55) := ⟨_, rfl⟩
    rw [← hW1] at H1 PR hs1 B0 ⊢
    clear hW1 cu fu hBw hmod
    obtain ⟨y0, y1, y2, y3, y4⟩ := H1.out.box.five
    obtain ⟨_, hg2, cc2, ff2⟩ := H1.out.k2.setN k 0 (by show k < D.f2.length; rw [L2.out, ← HNN.out]; exact hkl)
    obtain ⟨_, hg3, cc3, ff3⟩ := H1.out.k3.setN k 0 (by show k < D.f3.length; rw [L3.out, ← HNN.out]; exact hkl)
    obtain ⟨g0', o0', p0', e0', h0'⟩ := H1.out.k0.reads.cells k (by show k < D.f0.length; rw [← HNN.out]; exact hkl)
    have cc0 := h0' k (by show k < D.f0.length; rw [← HNN.out]; exact hkl)
    simp only at e0' cc0 cc2 cc3
    unfold KCells at cc0
    obtain ⟨ck, hck⟩ : ∃ x, x = fl D.f2 k := ⟨_, rfl⟩
    obtain ⟨qk, hqk⟩ : ∃ x, x = fl D.f0 k := ⟨_, rfl⟩
    obtain ⟨sk, hsk⟩ : ∃ x, x = fl D.f3 k := ⟨_, rfl⟩
    have C2 : W1.cell? ⟨g2, k, none⟩ = some (.int .i64 ck) := by rw [hck]; exact cc2
    have C3 : W1.cell? ⟨g3, k, none⟩ = some (.int .i64 sk) := by rw [hsk]; exact cc3
    have C0 : W1.cell? ⟨g0', o0' + k, none⟩ = some (.int .i64 qk) := by rw [hqk]; exact cc0
    have eg0 : g0' = g0 ∧ o0' = o0 := by
      rw [← HNN.out] at e0'
      cases e0'
      exact ⟨rfl, rfl⟩
    obtain ⟨rfl, rfl⟩ := eg0
    have hbk := HG.out.k k (by rw [L1.out, ← HNN.out]; exact hkl)
    rw [← HROW.out] at hbk
    have bc := HG.out.c k
    have bq := HG.out.q k (by rw [← HNN.out]; exact hkl)
    have bs := HG.out.s k
    rw [← hck] at bc
    rw [← hqk] at bq
    rw [← hsk] at bs
    have HCK := hid hck
    have HQK := hid hqk
    have HSK := hid hsk
    have HBK := hid hbk
    have hw2 : IntKind.i64.wrap (ck + qk) = ck + qk := by rw [IntKind.wrap_i64]; omega
    have hrl : row.length ≤ 30 := hbk.1
    have S2 := (H1.out.ap.inn 2 (by omega)).2 g2 hg2.1 hg2.2
    have S3 := (H1.out.ap.inn 3 (by omega)).2 g3 hg3.1 hg3.2
    have HS2 := hid S2
    have HS3 := hid S3
    have hsetf2 : D.f2.set k ck = D.f2 := by rw [hck]; exact set_fl _ _
    have hsetf3 : D.f3.set k sk = D.f3 := by rw [hsk]; exact set_fl _ _
    have HF2 := hid hsetf2
    have HF3 := hid hsetf3
    clear hck hqk hsk cc0 cc2 cc3 e0' h0' hbk S2 S3 hsetf2 hsetf3
    have H2 := hid (H1.out.set2 k (by show k < D.f2.length; rw [L2.out, ← HNN.out]; exact hkl) (ck + qk))
    have opW := onlyP_set W1 g2 k (.int .i64 (ck + qk))
    have hg2w := HS.out g2 HS2.out
    have PR2 := hid (PR.out.of_block (opW.2.1 _ (by omega)))
    have BL2 : Hid (∀ lo, (∀ g, S g → lo ≤ g) → lo ≤ w.heap.size → Below lo w (W1.setCell ⟨g2, k, none⟩ (.int .i64 (ck + qk))).drew) := fun lo hl hw => ((B0.out.mono hw).trans (opW.below (fun j e => by have := hl g2 HS2.out; omega))).drew
    obtain ⟨u, cu, fu, hB', ku⟩ := H1.out.k1.cell (by show D.f1.length = n; rw [L1.out, ← HNN.out]) k hkl
    have cB : W1.cell? ⟨B, k, none⟩ = some (.slice au row.length pu) := (World.cell?_of_block (a := ⟨B, k, none⟩) (B0.out.block B (lt_of_cell CB0.out))).trans CB0.out
    have D12 : Dj c1 c2 := H1.out.ap.dj 1 2 (by omega) (by omega) (by omega)
    unfold Dj at D12
    have hs2 : (W1.setCell ⟨g2, k, none⟩ (.int .i64 (ck + qk))).heap.size = W1.heap.size := World.size_setCell _ _ _
    obtain ⟨gq, hgq⟩ : ∃ gq, au = some ⟨gq, 0, none⟩ := by
      obtain ⟨_, h⟩ := KU.out
      rcases h with ⟨a', c', e, e2⟩ | ⟨g', c', e, _⟩
      · rw [e2] at hre; simp at hre
      · cases e; exact ⟨g', rfl⟩
    subst hgq
    have HL : Hid (SentL S w w.heap.size (w.heap.size + 2) k B gq pu D (ck + qk) sk row (k' : Int) (.slice (some ⟨g0', o0', none⟩) n p0) (.slice (some ⟨B, 0, none⟩) n cap) (.slice (some ⟨g2, 0, none⟩) n p2) (.slice (some ⟨g3, 0, none⟩) n p3) c0 c1 c2 c3 iv (some ⟨gq, 0, none⟩) 0 (.slice none 0 0) (.slice (some ⟨gq, 0, none⟩) row.length pu) (W1.setCell ⟨g2, k, none⟩ (.int .i64 (ck + qk))).drew) := by
      refine ⟨?_, World.ownsRow_nil _ _ _ _, ?_, fun _ => ⟨rfl, by simp⟩, fun h => absurd h.symm hre, by omega, by rw [List.take_zero, sumI_nil]; omega, by simp [sumI_nil], PR2.out, ?_, BL2.out⟩
      · have h := H2.out.drew
        simp only [List.take_zero, sumI_nil, Int.sub_zero, Int.add_zero, HF3.out]
        exact h
      · show (W1.setCell ⟨g2, k, none⟩ (.int .i64 (ck + qk))).cell? ⟨B, k, none⟩ = _
        rw [World.cell?_setCell_other _ _ _ _ (by simp <;> omega)]
        exact cB
      · show _ ≤ (W1.setCell ⟨g2, k, none⟩ (.int .i64 (ck + qk))).heap.size
        omega
    clear H2 opW PR2 BL2 D12 hs2 cu ku fu hB' cB
    go_big_region
    go_wp2_with fail
    obtain ⟨W2, hW2⟩ : ∃ W2, W2 = (W1.setCell ⟨g2, k, none⟩ (.int .i64 (ck + qk))).drew := ⟨_, rfl⟩
    rw [← hW2] at HL ⊢
    clear hW2 y0 y1 y2 y3 y4 C0 C2 C3 ff2 ff3 H1 B0 PR
    have HRP := hid (row_pos HBK.out.2.1)
    go_loopw [5, 6] (fun vs vq wr => ∃ j, SentL S w w.heap.size (w.heap.size + 2) k B gq pu D (ck + qk) sk row (k' : Int) (.slice (some ⟨g0', o0', none⟩) n p0) (.slice (some ⟨B, 0, none⟩) n cap) (.slice (some ⟨g2, 0, none⟩) n p2) (.slice (some ⟨g3, 0, none⟩) n p3) c0 c1 c2 c3 iv (some ⟨gq, 0, none⟩) j vs vq wr) (fun _ vq _ => lenQ vq)
    case atStart => exact ⟨0, HL.out⟩
    case round =>
      obtain ⟨j, hL⟩ := hrel
      have HLJ := hid hL
      clear HL
      obtain ⟨y0, y1, y2, y3, y4⟩ := hL.tu.box.five
      obtain ⟨_, hg2', cc2, ff2⟩ := hL.tu.k2.setN k 0 (by show k < (D.f2.set k _).length; rw [List.length_set, L2.out, ← HNN.out]; exact hkl)
      obtain ⟨_, hg3', cc3, ff3⟩ := hL.tu.k3.setN k 0 (by show k < (D.f3.set k _).length; rw [List.length_set, L3.out, ← HNN.out]; exact hkl)
      have hk2 : k < D.f2.length := by rw [L2.out, ← HNN.out]; exact hkl
      have hk3 : k < D.f3.length := by rw [L3.out, ← HNN.out]; exact hkl
      obtain ⟨cj, hcj⟩ : ∃ x, x = ck + qk - sumI (row.take j) := ⟨_, rfl⟩
      obtain ⟨sj, hsj⟩ : ∃ x, x = sk + sumI (row.take j) := ⟨_, rfl⟩
      have C2 : wr.cell? ⟨g2, k, none⟩ = some (.int .i64 cj) := by
        have e : (D.f2.set k (ck + qk - sumI (row.take j))).getD k 0 = cj := by rw [hcj]; simp [List.getD_eq_getElem?_getD, hk2]
        rw [← e]; exact cc2
      have C3 : wr.cell? ⟨g3, k, none⟩ = some (.int .i64 sj) := by
        have e : (D.f3.set k (sk + sumI (row.take j))).getD k 0 = sj := by rw [hsj]; simp [List.getD_eq_getElem?_getD, hk3]
        rw [← e]; exact cc3
      clear cc2 cc3
      have HCJ := hid hcj
      have HSJ := hid hsj
      have S1 := (hL.tu.ap.inn 1 (by omega)).2
      have D12 : Dj c1 c2 := hL.tu.ap.dj 1 2 (by omega) (by omega) (by omega)
      have D13 : Dj c1 c3 := hL.tu.ap.dj 1 3 (by omega) (by omega) (by omega)
      have D23 : Dj c2 c3 := hL.tu.ap.dj 2 3 (by omega) (by omega) (by omega)
      have DQ2 : Dj c2 (iv k) := hL.tu.ap.dj 2 (k + 4) (by omega) (by show k + 4 < D.f1.length + 4; rw [L1.out, ← HNN.out]; omega) (by omega)
      have DQ3 : Dj c3 (iv k) := hL.tu.ap.dj 3 (k + 4) (by omega) (by show k + 4 < D.f1.length + 4; rw [L1.out, ← HNN.out]; omega) (by omega)
      unfold Dj at D12 D13 D23 DQ2 DQ3
      have e23 : g2 ≠ g3 := by omega
      have e2A : g2 ≠ w.heap.size := by have := HS.out g2 HS2.out; omega
      have e3A : g3 ≠ w.heap.size := by have := HS.out g3 HS3.out; omega
      obtain ⟨hkr, hBr, fBr⟩ := hL.row (by rw [L1.out, ← HNN.out]) hkl HROW.out
      have hsum := takeT_sum row (ck + qk)
      have hTKL := hL.tk
      have hsmn : (0 ≤ cj ∧ cj ≤ ck + qk) ∧ 0 ≤ sj ∧ sj ≤ 1000200 := by
        have h1 := (sumI_part2 row HRP.out j).1
        have h2 := hL.nn
        rw [hcj, hsj]
        omega
      clear hcj hsj
      by_cases hj : j = row.length
      · obtain ⟨aq, cq, eq⟩ := hL.qe hj
        subst eq
        have TK := tk_end (.inl hj) hL.tk
        obtain ⟨rest, hrest⟩ : ∃ x, x = row.drop j := ⟨_, rfl⟩
        have hrn : rest = [] := by rw [hrest]; exact List.drop_eq_nil_of_le (by omega)
        have hcr : credT D k = ck + qk := by unfold credT; rw [← HROW.out, if_neg hre, HCK.out, HQK.out]
        have hsend : sendT D k = row.take j := by unfold sendT; rw [hcr, ← HROW.out, TK]
        have hleft : leftT D k = rest := by unfold leftT; rw [hcr, ← HROW.out, TK, hrest]
        have hrest2 : restT D k = 0 := by unfold restT; rw [hleft, hrn]; rfl
        have FINE : Hid (stepD D = ⟨D.f0, D.f1.set k rest, D.f2.set k 0, D.f3.set k sj, (k' : Int)⟩) := by
          show _ = _
          unfold stepD nextD
          rw [← HK.out, hleft, hrest2, hsend, ← HSK.out, ← HSJ.out, HK'.out, L1.out, ← HNN.out]
        have SENDE := hid hsend
        have HRL : Hid (rest.length ≤ 30) := by show _ ≤ _; rw [hrn]; simp
        have HE : Hid (TuC S (wr.setCell ⟨g2, k, none⟩ (.int .i64 0)).drew w.heap.size ⟨D.f0, D.f1, D.f2.set k 0, D.f3.set k sj, (k' : Int)⟩ (.slice (some ⟨g0', o0', none⟩) n p0) (.slice (some ⟨B, 0, none⟩) n cap) (.slice (some ⟨g2, 0, none⟩) n p2) (.slice (some ⟨g3, 0, none⟩) n p3) c0 c1 c2 c3 iv) := by
          have h := (hL.tu.set2 k (by show k < (D.f2.set k _).length; rw [List.length_set]; exact hk2) 0).drew
          simp only [List.set_set] at h
          rw [← HSJ.out] at h
          exact h
        have op0 := onlyP_set wr g2 k (.int .i64 0)
        have hg2w := HS.out g2 HS2.out
        have KQ : Hid (KReads (wr.setCell ⟨g2, k, none⟩ (.int .i64 0)).drew (.slice aq 0 cq) rest) := by rw [hrn]; exact kreads_nil _ _ _
        have OSE : Hid ((wr.setCell ⟨g2, k, none⟩ (.int .i64 0)).drew.ownsRow (w.heap.size + 2) 3 1 u5 j (kflat (row.take j))) := owns_at (w' := wr.setCell ⟨g2, k, none⟩ (.int .i64 0)) hL.os fun g e _ => op0.2.1 g (by have := (owns_lt hL.os g e).1; omega)
        have BXE : Hid (BoxL (wr.setCell ⟨g2, k, none⟩ (.int .i64 0)).drew (w.heap.size + 1) [.slice none 0 0, .slice none 0 0, .slice none 0 0, .slice none 0 0, .int .i64 0]) := hL.box.of_block (op0.2.1 _ (by omega))
        have BLE : Hid (∀ lo, (∀ g, S g → lo ≤ g) → lo ≤ w.heap.size → Below lo w (wr.setCell ⟨g2, k, none⟩ (.int .i64 0)).drew) := fun lo a b => ((hL.bl lo a b).trans (op0.below (fun j e => by have := a g2 HS2.out; omega))).drew
        have hszE : w.heap.size + 2 ≤ (wr.setCell ⟨g2, k, none⟩ (.int .i64 0)).drew.heap.size := by show _ ≤ (wr.setCell ⟨g2, k, none⟩ (.int .i64 0)).heap.size; rw [World.size_setCell]; exact hL.sz
        clear hL TK hrest hcr hsend hleft hrest2 hrn op0 hTKL
        go_wp2_with fail
        go_big_region
        go_wp2_with fail
        clear y0 y1 y2 y3 y4 C2 C3 ff2 ff3 HLJ
        obtain ⟨wE, hwE⟩ : ∃ wE, wE = (wr.setCell ⟨g2, k, none⟩ (.int .i64 0)).drew := ⟨_, rfl⟩
        rw [← hwE] at HE KQ OSE BXE BLE hszE ⊢
        clear hwE
        refine wp_region_any (by kernel_rfl) ?_
        change wpAny _ _ _ _ _ _ _ (World.drew _)
        obtain ⟨wF, hwF⟩ : ∃ wF, wF = World.drew wE := ⟨_, rfl⟩
        replace HE := hid (show TuC S wF w.heap.size _ (.slice (some ⟨g0', o0', none⟩) n p0) (.slice (some ⟨B, 0, none⟩) n cap) (.slice (some ⟨g2, 0, none⟩) n p2) (.slice (some ⟨g3, 0, none⟩) n p3) c0 c1 c2 c3 iv by rw [hwF]; exact HE.out.drew)
        replace KQ : Hid (KReads wF (.slice aq 0 cq) rest) := by rw [hwF]; exact KQ.out
        replace OSE : Hid (wF.ownsRow (w.heap.size + 2) 3 1 u5 j (kflat (row.take j))) := by rw [hwF]; exact OSE.out
        replace BXE : Hid (BoxL wF (w.heap.size + 1) [.slice none 0 0, .slice none 0 0, .slice none 0 0, .slice none 0 0, .int .i64 0]) := by rw [hwF]; exact BXE.out
        replace BLE : Hid (∀ lo, (∀ g, S g → lo ≤ g) → lo ≤ w.heap.size → Below lo w wF) := by rw [hwF]; exact fun lo a b => (BLE.out lo a b).drew
        replace hszE : w.heap.size + 2 ≤ wF.heap.size := by rw [hwF]; exact hszE
        rw [← hwF]
        clear hwF
        refine wpAny_facts' 2 (Array.replicate 8 false) #[true, true, true, true, true, true, false, false] [0, 1, 2, 3, 4, 5] (fun τ : Nat → Value => #[Value.agg #[Value.slice (some { block := g0', off := o0' }) n p0, Value.slice (some { block := B, off := 0 }) n cap, Value.slice (some { block := g2, off := 0 }) n p2, Value.slice (some { block := g3, off := 0 }) n p3, Value.int IntKind.i64 ↑k], Value.pointer (some { block := w.heap.size, off := 0 }), Value.pointer (some { block := w.heap.size + 1, off := 0 }), Value.slice none 0 0, Value.int IntKind.i64 ↑k, u5, Value.slice aq 0 cq, Value.pointer (some { block := w.heap.size, off := 4 }), Value.int IntKind.i64 ↑k, Value.int IntKind.i64 ↑k, Value.int IntKind.i64 (↑k + 1), Value.pointer (some { block := w.heap.size, off := 1 }), Value.slice (some { block := B, off := 0 }) n cap, Value.int IntKind.i64 ↑n, Value.int IntKind.i64 ((↑k + 1) % ↑n), Value.pointer (some { block := w.heap.size, off := 4 }), Value.pointer (some { block := w.heap.size, off := 1 }), Value.slice (some { block := B, off := 0 }) n cap, Value.int IntKind.i64 ↑k, Value.pointer (some { block := B, off := k }), Value.slice (some { block := gq, off := 0 }) row.length pu, Value.slice (some { block := gq, off := 0 }) row.length pu, Value.int IntKind.i64 ↑row.length, Value.bool true, Value.pointer (some { block := w.heap.size, off := 2 }), Value.slice (some { block := g2, off := 0 }) n p2, Value.int IntKind.i64 ↑k, Value.pointer (some { block := g2, off := k }), Value.int IntKind.i64 ck, Value.pointer (some { block := w.heap.size, off := 0 }), Value.slice (some { block := g0', off := o0' }) n p0, Value.int IntKind.i64 ↑k, Value.pointer (some { block := g0', off := o0' + k }), Value.int IntKind.i64 qk, Value.int IntKind.i64 (ck + qk), Value.pointer (some { block := g2, off := k }), Value.slice aq 0 cq, Value.int IntKind.i64 0, Value.bool false, Value.bool false, undef, undef, undef, undef, undef, undef, undef, undef, undef, Value.bool false, u50, u51, u52, u53, u54, u55, u56, u57, u58, u59, u60, u61, u62, u63, u64, u65, u66, u67, u68, u69, u70, u71, u72, u73, u74, u75, u76, u77, Value.slice aq 0 cq, Value.int IntKind.i64 0, Value.bool true, Value.pointer (some { block := w.heap.size, off := 2 }), Value.slice (some { block := g2, off := 0 }) n p2, Value.int IntKind.i64 ↑k, Value.pointer (some { block := g2, off := k }), τ 0, τ 1, τ 2, τ 3, τ 4, τ 5, undef, undef, undef]) (nextF w.heap.size k (.slice (some ⟨B, 0, none⟩) n cap) (.slice aq 0 cq) rest) (fun _ => undef) rfl (by kernel_rfl) (by kernel_rfl) (by kernel_rfl) (by kernel_rfl) (by decide) nextF_keep (fun j hj i hi σ c w v r hne hd h => nextF_loc hj hne trivial h) ?_ ?_
        · intro τ c wz hb hf hin hdj
          obtain ⟨⟨k5, ka5⟩, a5, m5, q5, e5⟩ : nextF _ _ _ _ _ 5 τ c wz := hf 5 (by decide)
          have e1 : nextF _ _ _ _ _ 1 τ c wz := hf 1 (by decide)
          have e2 : nextF _ _ _ _ _ 2 τ c wz := hf 2 (by decide)
          simp only [nextF] at e1 e2
          have n5 := hin 5 (by decide)
          rw [e5] at k5 ka5
          clear hf hin hdj
          try dsimp only
          rw [e1, e2, e5]
          have hbs := hb.size
          have HZ2 := hid (HE.out.below hb)
          have hBS := (HE.out.ap.inn 1 (by omega)).2 B hBr.1 hBr.2
          have hBw := HS.out B hBS
          obtain ⟨u', cu', fu', _, _⟩ := HZ2.out.k1.cell (by show D.f1.length = n; rw [L1.out, ← HNN.out]) k hkl
          obtain ⟨r, hr1, hr2⟩ : ∃ r : Nat × Nat, KOwn r.1 r.2 wz (.slice a5 m5 q5) rest ∧ ((r.2 = r.1 + 1 ∧ wF.heap.size ≤ r.1 ∧ r.1 < wz.heap.size) ∨ (r.2 = r.1 ∧ r.1 = wz.heap.size)) := by
            rcases ka5 with ⟨h0, aa, ea⟩ | ⟨ho, hlt⟩
            · refine ⟨(wz.heap.size, wz.heap.size), ?_, .inr ⟨rfl, rfl⟩⟩
              rw [ea, h0]
              exact kown_nil _ _ _ _ _
            · cases hob : (Value.slice a5 m5 q5).ownBlock with
              | none => exact ⟨(wz.heap.size, wz.heap.size), KOwn.of_owns2 ho (by have := HRL.out; omega) (fun g e => by rw [hob] at e; cases e), .inr ⟨rfl, rfl⟩⟩
              | some g =>
                have hgl := owns_lt ho g hob
                exact ⟨(g, g + 1), KOwn.of_owns2 ho (by have := HRL.out; omega) (fun g' e => by rw [hob] at e; cases e; exact ⟨Nat.le_refl _, Nat.lt_succ_self _⟩), .inl ⟨rfl, by show wF.heap.size ≤ g; omega, hgl.2⟩⟩
          have H7 : Hid (TuC (fun g => S g ∨ (r.1 ≤ g ∧ g < r.2)) (wz.setCell ⟨B, k, none⟩ (.slice a5 m5 q5)) w.heap.size (stepD D) (.slice (some ⟨g0', o0', none⟩) n p0) (.slice (some ⟨B, 0, none⟩) n cap) (.slice (some ⟨g2, 0, none⟩) n p2) (.slice (some ⟨g3, 0, none⟩) n p3) c0 c1 c2 c3 (upd iv k r)) := by
            have h := TuC.set1 (S' := fun g => S g ∨ (r.1 ≤ g ∧ g < r.2)) HZ2.out (by show k < D.f1.length; rw [L1.out, ← HNN.out]; exact hkl) hr1 (by
              rcases hr2 with ⟨y1, y2, y3⟩ | ⟨y1, y2⟩
              · exact .inl ⟨y1, .inr ⟨Nat.le_refl _, by omega⟩, fun hg => by have := HS.out _ hg; omega⟩
              · exact .inr ⟨y1, fun g hg => by have := HS.out g hg; omega⟩) (fun g hg => .inl hg) (fun h => by
              rcases h with h | h
              · have := HS.out _ h; omega
              · omega)
            rw [FINE.out]
            exact h
          have op7 := onlyP_set wz B k (.slice a5 m5 q5)
          have hs7 := op7.1
          obtain ⟨rs, hrs1, hrs2⟩ : ∃ rs : Nat × Nat, KOwn rs.1 rs.2 wz u5 (row.take j) ∧ ∀ g, rs.1 ≤ g → g < rs.2 → w.heap.size + 2 ≤ g ∧ g < wF.heap.size := by
            have ho := owns_at OSE.out fun g _ hg => hb.block g hg
            cases hob : u5.ownBlock with
            | none => exact ⟨(0, 0), KOwn.of_owns2 ho (by rw [List.length_take]; have := hrl; omega) (fun g e => by rw [hob] at e; cases e), fun g g1 g2 => by simp only at g2; omega⟩
            | some g =>
              have hgl := owns_lt OSE.out g hob
              refine ⟨(g, g + 1), KOwn.of_owns2 ho (by rw [List.length_take]; have := hrl; omega) (fun g' e => by rw [hob] at e; cases e; exact ⟨Nat.le_refl _, Nat.lt_succ_self _⟩), fun g' y1 y2 => ?_⟩
              simp only at y1 y2
              omega
          have BX7 := hid ((BXE.out.below hb BXE.out.lt).of_block (op7.2.1 _ (by omega)))
          have BL7 : Hid (∀ lo, (∀ g, S g → lo ≤ g) → lo ≤ w.heap.size → Below lo w (wz.setCell ⟨B, k, none⟩ (.slice a5 m5 q5))) := fun lo hl hw => ((BLE.out lo hl hw).trans (hb.mono (by omega))).trans (op7.below (fun j e => by have := hl B hBS; omega))
          have KS7 := hid (hrs1.onlyP op7 (fun g g1 g2 e => by have := hrs2 g g1 g2; omega))
          obtain ⟨as5, ns5, ks5, es5⟩ := hrs1.sform
          have cB := cu'
          have fB := fu'
          have zq : (stepD D).f4 = (k' : Int) := by rw [FINE.out]
          clear k5 ka5 n5 e1 e2 e5 HZ2 hr1 hrs1 cu' fu' HE KQ OSE BXE BLE
          refine wpAny_ready (rs := [6]) (by kernel_rfl) (by simp) ?_
          refine AllReady.cons rfl (fun K hK => ?_) AllReady.nil
          go_simp
          refine hK _ _ ?_
          clear hK K
          refine wpAny_ready (rs := [7]) (by kernel_rfl) (by simp) ?_
          refine AllReady.cons rfl (fun K hK => ?_) AllReady.nil
          go_simp
          refine hK _ _ ?_
          clear hK K
          refine wpAny_done (by kernel_rfl) ?_ _
          obtain ⟨W7, hW7⟩ : ∃ W7, W7 = wz.setCell ⟨B, k, none⟩ (.slice a5 m5 q5) := ⟨_, rfl⟩
          rw [← hW7] at H7 BX7 BL7 KS7 hs7 ⊢
          clear hW7 cB fB op7
          have hbx := H7.out.box
          rw [zq] at hbx
          obtain ⟨y0, y1, y2, y3, y4⟩ := hbx.five
          obtain ⟨t0, t1, t2, t3, t4⟩ := BX7.out.five
          have x0 := (BX7.out.cell 0 (by simp)).2
          have x1 := (BX7.out.cell 1 (by simp)).2
          have x2 := (BX7.out.cell 2 (by simp)).2
          have x3 := (BX7.out.cell 3 (by simp)).2
          have x4 := (BX7.out.cell 4 (by simp)).2
          have op := put5_only W7 (w.heap.size + 1) (.slice (some ⟨g0', o0', none⟩) n p0) (.slice (some ⟨B, 0, none⟩) n cap) (.slice (some ⟨g2, 0, none⟩) n p2) (.slice (some ⟨g3, 0, none⟩) n p3) (.int .i64 (k' : Int))
          have bx := put5_box BX7.out (.slice (some ⟨g0', o0', none⟩) n p0) (.slice (some ⟨B, 0, none⟩) n cap) (.slice (some ⟨g2, 0, none⟩) n p2) (.slice (some ⟨g3, 0, none⟩) n p3) (.int .i64 (k' : Int))
          have hs8 := op.1
          have NP : Hid (NextPost S w D k (.agg #[.slice (some ⟨g0', o0', none⟩) n p0, .slice (some ⟨B, 0, none⟩) n cap, .slice (some ⟨g2, 0, none⟩) n p2, .slice (some ⟨g3, 0, none⟩) n p3, .int .i64 (k' : Int)]) u5 (put5 W7 (w.heap.size + 1) (.slice (some ⟨g0', o0', none⟩) n p0) (.slice (some ⟨B, 0, none⟩) n cap) (.slice (some ⟨g2, 0, none⟩) n p2) (.slice (some ⟨g3, 0, none⟩) n p3) (.int .i64 (k' : Int)))) := by
            refine ⟨fun g => S g ∨ (r.1 ≤ g ∧ g < r.2), rs, ?_, ?_, fun g g1 g2 => ?_, fun g hg => ?_, fun lo hl hw => (BL7.out lo hl hw).trans (op.below (fun j e => by omega))⟩
            · have h := H7.out.own
              rw [zq] at h
              exact h.at fun g hg _ => op.2.1 g (by
                rcases hg with hg | hg
                · have := HS.out g hg; omega
                · omega)
            · rw [SENDE.out]
              exact KS7.out.onlyP op (fun g g1 g2 e => by have := hrs2 g g1 g2; omega)
            · have := hrs2 g g1 g2
              rw [hs8, hs7]
              refine ⟨by omega, fun h => ?_⟩
              rcases h with h | h
              · have := HS.out g h; omega
              · omega
            · rw [hs8, hs7]
              rcases hg with hg | hg
              · exact .inl hg
              · exact .inr ⟨by omega, by omega⟩
          obtain ⟨z0, z1, z2, z3, z4⟩ := bx.five
          subst es5
          clear op bx hs8 hs7 hbx H7 BX7 BL7 KS7 hrs2 hr2
          go_wp2
          exact bodyPost_ret (v := .tuple #[.agg #[.slice (some ⟨g0', o0', none⟩) n p0, .slice (some ⟨B, 0, none⟩) n cap, .slice (some ⟨g2, 0, none⟩) n p2, .slice (some ⟨g3, 0, none⟩) n p3, .int .i64 (k' : Int)], .slice as5 ns5 ks5]) (by simp [results, Try.results87, go_sem, z0, z1, z2, z3, z4]) rfl ⟨_, _, rfl, NP.out⟩
        · intro i' hi τ c wr hb hd
          simp only [List.mem_cons, List.not_mem_nil, or_false] at hi; rcases hi with rfl | rfl | rfl | rfl | rfl | rfl
          · skip
            clear hd
            refine StepF.of (a1 := ⟨#[Value.agg #[Value.slice (some { block := g0', off := o0' }) n p0, Value.slice (some { block := B, off := 0 }) n cap, Value.slice (some { block := g2, off := 0 }) n p2, Value.slice (some { block := g3, off := 0 }) n p3, Value.int IntKind.i64 ↑k], Value.pointer (some { block := w.heap.size, off := 0 }), Value.pointer (some { block := w.heap.size + 1, off := 0 }), Value.slice none 0 0, Value.int IntKind.i64 ↑k, u5, Value.slice aq 0 cq, Value.pointer (some { block := w.heap.size, off := 4 }), Value.int IntKind.i64 ↑k, Value.int IntKind.i64 ↑k, Value.int IntKind.i64 (↑k + 1), Value.pointer (some { block := w.heap.size, off := 1 }), Value.slice (some { block := B, off := 0 }) n cap, Value.int IntKind.i64 ↑n, Value.int IntKind.i64 ((↑k + 1) % ↑n), Value.pointer (some { block := w.heap.size, off := 4 }), Value.pointer (some { block := w.heap.size, off := 1 }), Value.slice (some { block := B, off := 0 }) n cap, Value.int IntKind.i64 ↑k, Value.pointer (some { block := B, off := k }), Value.slice (some { block := gq, off := 0 }) row.length pu, Value.slice (some { block := gq, off := 0 }) row.length pu, Value.int IntKind.i64 ↑row.length, Value.bool true, Value.pointer (some { block := w.heap.size, off := 2 }), Value.slice (some { block := g2, off := 0 }) n p2, Value.int IntKind.i64 ↑k, Value.pointer (some { block := g2, off := k }), Value.int IntKind.i64 ck, Value.pointer (some { block := w.heap.size, off := 0 }), Value.slice (some { block := g0', off := o0' }) n p0, Value.int IntKind.i64 ↑k, Value.pointer (some { block := g0', off := o0' + k }), Value.int IntKind.i64 qk, Value.int IntKind.i64 (ck + qk), Value.pointer (some { block := g2, off := k }), Value.slice aq 0 cq, Value.int IntKind.i64 0, Value.bool false, Value.bool false, undef, undef, undef, undef, undef, undef, undef, undef, undef, Value.bool false, u50, u51, u52, u53, u54, u55, u56, u57, u58, u59, u60, u61, u62, u63, u64, u65, u66, u67, u68, u69, u70, u71, u72, u73, u74, u75, u76, u77, Value.slice aq 0 cq, Value.int IntKind.i64 0, Value.bool true, Value.pointer (some { block := w.heap.size, off := 2 }), Value.slice (some { block := g2, off := 0 }) n p2, Value.int IntKind.i64 ↑k, Value.pointer (some { block := g2, off := k }), τ 0, τ 1, τ 2, τ 3, τ 4, τ 5, undef, undef, undef], []⟩) rfl rfl (fun _ => rfl) (fun K hK => ?_)
            go_simp
            exact hK _ _ (Below.refl _ _) rfl
          · skip
            have f0 : nextF _ _ _ _ _ 0 τ c wr := hd 0 (by decide) (by decide)
            simp only [nextF] at f0
            clear hd
            refine StepF.of (a1 := ⟨#[Value.agg #[Value.slice (some { block := g0', off := o0' }) n p0, Value.slice (some { block := B, off := 0 }) n cap, Value.slice (some { block := g2, off := 0 }) n p2, Value.slice (some { block := g3, off := 0 }) n p3, Value.int IntKind.i64 ↑k], Value.pointer (some { block := w.heap.size, off := 0 }), Value.pointer (some { block := w.heap.size + 1, off := 0 }), Value.slice none 0 0, Value.int IntKind.i64 ↑k, u5, Value.slice aq 0 cq, Value.pointer (some { block := w.heap.size, off := 4 }), Value.int IntKind.i64 ↑k, Value.int IntKind.i64 ↑k, Value.int IntKind.i64 (↑k + 1), Value.pointer (some { block := w.heap.size, off := 1 }), Value.slice (some { block := B, off := 0 }) n cap, Value.int IntKind.i64 ↑n, Value.int IntKind.i64 ((↑k + 1) % ↑n), Value.pointer (some { block := w.heap.size, off := 4 }), Value.pointer (some { block := w.heap.size, off := 1 }), Value.slice (some { block := B, off := 0 }) n cap, Value.int IntKind.i64 ↑k, Value.pointer (some { block := B, off := k }), Value.slice (some { block := gq, off := 0 }) row.length pu, Value.slice (some { block := gq, off := 0 }) row.length pu, Value.int IntKind.i64 ↑row.length, Value.bool true, Value.pointer (some { block := w.heap.size, off := 2 }), Value.slice (some { block := g2, off := 0 }) n p2, Value.int IntKind.i64 ↑k, Value.pointer (some { block := g2, off := k }), Value.int IntKind.i64 ck, Value.pointer (some { block := w.heap.size, off := 0 }), Value.slice (some { block := g0', off := o0' }) n p0, Value.int IntKind.i64 ↑k, Value.pointer (some { block := g0', off := o0' + k }), Value.int IntKind.i64 qk, Value.int IntKind.i64 (ck + qk), Value.pointer (some { block := g2, off := k }), Value.slice aq 0 cq, Value.int IntKind.i64 0, Value.bool false, Value.bool false, undef, undef, undef, undef, undef, undef, undef, undef, undef, Value.bool false, u50, u51, u52, u53, u54, u55, u56, u57, u58, u59, u60, u61, u62, u63, u64, u65, u66, u67, u68, u69, u70, u71, u72, u73, u74, u75, u76, u77, Value.slice aq 0 cq, Value.int IntKind.i64 0, Value.bool true, Value.pointer (some { block := w.heap.size, off := 2 }), Value.slice (some { block := g2, off := 0 }) n p2, Value.int IntKind.i64 ↑k, Value.pointer (some { block := g2, off := k }), (.pointer (some ⟨w.heap.size, 1, none⟩)), τ 1, τ 2, τ 3, τ 4, τ 5, undef, undef, undef], []⟩) (by simp only [f0]) rfl (fun _ => rfl) (fun K hK => ?_)
            obtain ⟨y0, y1, y2, y3, y4⟩ := (HE.out.box.below hb HE.out.box.lt).five
            go_simp
            exact hK _ _ (Below.refl _ _) rfl
          · skip
            clear hd
            refine StepF.of (a1 := ⟨#[Value.agg #[Value.slice (some { block := g0', off := o0' }) n p0, Value.slice (some { block := B, off := 0 }) n cap, Value.slice (some { block := g2, off := 0 }) n p2, Value.slice (some { block := g3, off := 0 }) n p3, Value.int IntKind.i64 ↑k], Value.pointer (some { block := w.heap.size, off := 0 }), Value.pointer (some { block := w.heap.size + 1, off := 0 }), Value.slice none 0 0, Value.int IntKind.i64 ↑k, u5, Value.slice aq 0 cq, Value.pointer (some { block := w.heap.size, off := 4 }), Value.int IntKind.i64 ↑k, Value.int IntKind.i64 ↑k, Value.int IntKind.i64 (↑k + 1), Value.pointer (some { block := w.heap.size, off := 1 }), Value.slice (some { block := B, off := 0 }) n cap, Value.int IntKind.i64 ↑n, Value.int IntKind.i64 ((↑k + 1) % ↑n), Value.pointer (some { block := w.heap.size, off := 4 }), Value.pointer (some { block := w.heap.size, off := 1 }), Value.slice (some { block := B, off := 0 }) n cap, Value.int IntKind.i64 ↑k, Value.pointer (some { block := B, off := k }), Value.slice (some { block := gq, off := 0 }) row.length pu, Value.slice (some { block := gq, off := 0 }) row.length pu, Value.int IntKind.i64 ↑row.length, Value.bool true, Value.pointer (some { block := w.heap.size, off := 2 }), Value.slice (some { block := g2, off := 0 }) n p2, Value.int IntKind.i64 ↑k, Value.pointer (some { block := g2, off := k }), Value.int IntKind.i64 ck, Value.pointer (some { block := w.heap.size, off := 0 }), Value.slice (some { block := g0', off := o0' }) n p0, Value.int IntKind.i64 ↑k, Value.pointer (some { block := g0', off := o0' + k }), Value.int IntKind.i64 qk, Value.int IntKind.i64 (ck + qk), Value.pointer (some { block := g2, off := k }), Value.slice aq 0 cq, Value.int IntKind.i64 0, Value.bool false, Value.bool false, undef, undef, undef, undef, undef, undef, undef, undef, undef, Value.bool false, u50, u51, u52, u53, u54, u55, u56, u57, u58, u59, u60, u61, u62, u63, u64, u65, u66, u67, u68, u69, u70, u71, u72, u73, u74, u75, u76, u77, Value.slice aq 0 cq, Value.int IntKind.i64 0, Value.bool true, Value.pointer (some { block := w.heap.size, off := 2 }), Value.slice (some { block := g2, off := 0 }) n p2, Value.int IntKind.i64 ↑k, Value.pointer (some { block := g2, off := k }), τ 0, τ 1, τ 2, τ 3, τ 4, τ 5, undef, undef, undef], []⟩) rfl rfl (fun _ => rfl) (fun K hK => ?_)
            go_simp
            exact hK _ _ (Below.refl _ _) rfl
          · skip
            clear hd
            refine StepF.of (a1 := ⟨#[Value.agg #[Value.slice (some { block := g0', off := o0' }) n p0, Value.slice (some { block := B, off := 0 }) n cap, Value.slice (some { block := g2, off := 0 }) n p2, Value.slice (some { block := g3, off := 0 }) n p3, Value.int IntKind.i64 ↑k], Value.pointer (some { block := w.heap.size, off := 0 }), Value.pointer (some { block := w.heap.size + 1, off := 0 }), Value.slice none 0 0, Value.int IntKind.i64 ↑k, u5, Value.slice aq 0 cq, Value.pointer (some { block := w.heap.size, off := 4 }), Value.int IntKind.i64 ↑k, Value.int IntKind.i64 ↑k, Value.int IntKind.i64 (↑k + 1), Value.pointer (some { block := w.heap.size, off := 1 }), Value.slice (some { block := B, off := 0 }) n cap, Value.int IntKind.i64 ↑n, Value.int IntKind.i64 ((↑k + 1) % ↑n), Value.pointer (some { block := w.heap.size, off := 4 }), Value.pointer (some { block := w.heap.size, off := 1 }), Value.slice (some { block := B, off := 0 }) n cap, Value.int IntKind.i64 ↑k, Value.pointer (some { block := B, off := k }), Value.slice (some { block := gq, off := 0 }) row.length pu, Value.slice (some { block := gq, off := 0 }) row.length pu, Value.int IntKind.i64 ↑row.length, Value.bool true, Value.pointer (some { block := w.heap.size, off := 2 }), Value.slice (some { block := g2, off := 0 }) n p2, Value.int IntKind.i64 ↑k, Value.pointer (some { block := g2, off := k }), Value.int IntKind.i64 ck, Value.pointer (some { block := w.heap.size, off := 0 }), Value.slice (some { block := g0', off := o0' }) n p0, Value.int IntKind.i64 ↑k, Value.pointer (some { block := g0', off := o0' + k }), Value.int IntKind.i64 qk, Value.int IntKind.i64 (ck + qk), Value.pointer (some { block := g2, off := k }), Value.slice aq 0 cq, Value.int IntKind.i64 0, Value.bool false, Value.bool false, undef, undef, undef, undef, undef, undef, undef, undef, undef, Value.bool false, u50, u51, u52, u53, u54, u55, u56, u57, u58, u59, u60, u61, u62, u63, u64, u65, u66, u67, u68, u69, u70, u71, u72, u73, u74, u75, u76, u77, Value.slice aq 0 cq, Value.int IntKind.i64 0, Value.bool true, Value.pointer (some { block := w.heap.size, off := 2 }), Value.slice (some { block := g2, off := 0 }) n p2, Value.int IntKind.i64 ↑k, Value.pointer (some { block := g2, off := k }), τ 0, τ 1, τ 2, τ 3, τ 4, τ 5, undef, undef, undef], []⟩) rfl rfl (fun _ => rfl) (fun K hK => ?_)
            go_simp
            exact hK _ _ ((Below.refl _ _).alloc (Nat.le_refl _) _) ⟨_, rfl⟩
          · skip
            clear hd
            refine StepF.of (a1 := ⟨#[Value.agg #[Value.slice (some { block := g0', off := o0' }) n p0, Value.slice (some { block := B, off := 0 }) n cap, Value.slice (some { block := g2, off := 0 }) n p2, Value.slice (some { block := g3, off := 0 }) n p3, Value.int IntKind.i64 ↑k], Value.pointer (some { block := w.heap.size, off := 0 }), Value.pointer (some { block := w.heap.size + 1, off := 0 }), Value.slice none 0 0, Value.int IntKind.i64 ↑k, u5, Value.slice aq 0 cq, Value.pointer (some { block := w.heap.size, off := 4 }), Value.int IntKind.i64 ↑k, Value.int IntKind.i64 ↑k, Value.int IntKind.i64 (↑k + 1), Value.pointer (some { block := w.heap.size, off := 1 }), Value.slice (some { block := B, off := 0 }) n cap, Value.int IntKind.i64 ↑n, Value.int IntKind.i64 ((↑k + 1) % ↑n), Value.pointer (some { block := w.heap.size, off := 4 }), Value.pointer (some { block := w.heap.size, off := 1 }), Value.slice (some { block := B, off := 0 }) n cap, Value.int IntKind.i64 ↑k, Value.pointer (some { block := B, off := k }), Value.slice (some { block := gq, off := 0 }) row.length pu, Value.slice (some { block := gq, off := 0 }) row.length pu, Value.int IntKind.i64 ↑row.length, Value.bool true, Value.pointer (some { block := w.heap.size, off := 2 }), Value.slice (some { block := g2, off := 0 }) n p2, Value.int IntKind.i64 ↑k, Value.pointer (some { block := g2, off := k }), Value.int IntKind.i64 ck, Value.pointer (some { block := w.heap.size, off := 0 }), Value.slice (some { block := g0', off := o0' }) n p0, Value.int IntKind.i64 ↑k, Value.pointer (some { block := g0', off := o0' + k }), Value.int IntKind.i64 qk, Value.int IntKind.i64 (ck + qk), Value.pointer (some { block := g2, off := k }), Value.slice aq 0 cq, Value.int IntKind.i64 0, Value.bool false, Value.bool false, undef, undef, undef, undef, undef, undef, undef, undef, undef, Value.bool false, u50, u51, u52, u53, u54, u55, u56, u57, u58, u59, u60, u61, u62, u63, u64, u65, u66, u67, u68, u69, u70, u71, u72, u73, u74, u75, u76, u77, Value.slice aq 0 cq, Value.int IntKind.i64 0, Value.bool true, Value.pointer (some { block := w.heap.size, off := 2 }), Value.slice (some { block := g2, off := 0 }) n p2, Value.int IntKind.i64 ↑k, Value.pointer (some { block := g2, off := k }), τ 0, τ 1, τ 2, τ 3, τ 4, τ 5, undef, undef, undef], []⟩) rfl rfl (fun _ => rfl) (fun K hK => ?_)
            go_simp
            exact hK _ _ (Below.refl _ _) rfl
          · skip
            have f3 : nextF _ _ _ _ _ 3 τ c wr := hd 3 (by decide) (by decide)
            obtain ⟨bb, f3⟩ := f3
            have f4 : nextF _ _ _ _ _ 4 τ c wr := hd 4 (by decide) (by decide)
            simp only [nextF] at f4
            clear hd
            refine StepF.of (a1 := ⟨#[Value.agg #[Value.slice (some { block := g0', off := o0' }) n p0, Value.slice (some { block := B, off := 0 }) n cap, Value.slice (some { block := g2, off := 0 }) n p2, Value.slice (some { block := g3, off := 0 }) n p3, Value.int IntKind.i64 ↑k], Value.pointer (some { block := w.heap.size, off := 0 }), Value.pointer (some { block := w.heap.size + 1, off := 0 }), Value.slice none 0 0, Value.int IntKind.i64 ↑k, u5, Value.slice aq 0 cq, Value.pointer (some { block := w.heap.size, off := 4 }), Value.int IntKind.i64 ↑k, Value.int IntKind.i64 ↑k, Value.int IntKind.i64 (↑k + 1), Value.pointer (some { block := w.heap.size, off := 1 }), Value.slice (some { block := B, off := 0 }) n cap, Value.int IntKind.i64 ↑n, Value.int IntKind.i64 ((↑k + 1) % ↑n), Value.pointer (some { block := w.heap.size, off := 4 }), Value.pointer (some { block := w.heap.size, off := 1 }), Value.slice (some { block := B, off := 0 }) n cap, Value.int IntKind.i64 ↑k, Value.pointer (some { block := B, off := k }), Value.slice (some { block := gq, off := 0 }) row.length pu, Value.slice (some { block := gq, off := 0 }) row.length pu, Value.int IntKind.i64 ↑row.length, Value.bool true, Value.pointer (some { block := w.heap.size, off := 2 }), Value.slice (some { block := g2, off := 0 }) n p2, Value.int IntKind.i64 ↑k, Value.pointer (some { block := g2, off := k }), Value.int IntKind.i64 ck, Value.pointer (some { block := w.heap.size, off := 0 }), Value.slice (some { block := g0', off := o0' }) n p0, Value.int IntKind.i64 ↑k, Value.pointer (some { block := g0', off := o0' + k }), Value.int IntKind.i64 qk, Value.int IntKind.i64 (ck + qk), Value.pointer (some { block := g2, off := k }), Value.slice aq 0 cq, Value.int IntKind.i64 0, Value.bool false, Value.bool false, undef, undef, undef, undef, undef, undef, undef, undef, undef, Value.bool false, u50, u51, u52, u53, u54, u55, u56, u57, u58, u59, u60, u61, u62, u63, u64, u65, u66, u67, u68, u69, u70, u71, u72, u73, u74, u75, u76, u77, Value.slice aq 0 cq, Value.int IntKind.i64 0, Value.bool true, Value.pointer (some { block := w.heap.size, off := 2 }), Value.slice (some { block := g2, off := 0 }) n p2, Value.int IntKind.i64 ↑k, Value.pointer (some { block := g2, off := k }), τ 0, τ 1, τ 2, (.slice (some ⟨bb, 0, none⟩) 0 0), (.slice aq 0 cq), τ 5, undef, undef, undef], []⟩) (by simp only [f3, f4]) rfl (fun _ => rfl) (fun K hK => ?_)
            refine step_clone_lit (by rfl) _ _ (by rfl) bb (by rfl) (.slice aq 0 cq) rest (by rfl) (KQ.out.below hb) (by have := HRL.out; omega) ?_
            intro u2 w2 k2 ka2 b2
            exact hK u2 w2 b2 ⟨⟨k2, ka2⟩, k2.sform⟩
      · have hjl : j < row.length := by have := hL.le; omega
        obtain ⟨_, eq⟩ := hL.qf hjl
        subst eq
        obtain ⟨x, hx⟩ : ∃ x, x = row.getD j 0 := ⟨_, rfl⟩
        have hxb : 1 ≤ x ∧ x ≤ 20 := by rw [hx]; exact HBK.out.2.1 j hjl
        obtain ⟨gq', oq', cq', eq', hq'⟩ := hkr.reads.cells j hjl
        cases eq'
        have CX : wr.cell? ⟨gq, j, none⟩ = some (.int .i64 x) := by have := hq' j hjl; rw [Nat.zero_add] at this; rw [hx]; exact this
        have HX := hid hx
        obtain ⟨m, hm⟩ : ∃ m, m = row.length - j := ⟨_, rfl⟩
        obtain ⟨pc, hpc⟩ : ∃ m, m = pu - j := ⟨_, rfl⟩
        have hm0 : 0 < m := by omega
        have HM := hid hm
        have HPC := hid hpc
        rw [← hm, ← hpc]
        have dm : decide ((0 : Int) < (m : Int)) = true := by rw [decide_eq_true_eq]; omega
        have dm2 : decide (0 < m) = true := by rw [decide_eq_true_eq]; exact hm0
        have HLJ' := hid hL
        clear hL hx hq' hm hpc hTKL
        by_cases hle : x ≤ cj
        · have dx : decide (x ≤ cj) = true := by rw [decide_eq_true_eq]; exact hle
          have hw3 : IntKind.i64.wrap (cj - x) = cj - x := by rw [IntKind.wrap_i64]; omega
          have hw4 : IntKind.i64.wrap (sj + x) = sj + x := by rw [IntKind.wrap_i64]; omega
          have H3 : Hid (TuC S (wr.setCell ⟨g2, k, none⟩ (.int .i64 (cj - x))).drew.drew w.heap.size ⟨D.f0, D.f1, D.f2.set k (cj - x), D.f3.set k sj, (k' : Int)⟩ (.slice (some ⟨g0', o0', none⟩) n p0) (.slice (some ⟨B, 0, none⟩) n cap) (.slice (some ⟨g2, 0, none⟩) n p2) (.slice (some ⟨g3, 0, none⟩) n p3) c0 c1 c2 c3 iv) := by
            have h := (HLJ'.out.tu.set2 k (by show k < (D.f2.set k _).length; rw [List.length_set]; exact hk2) (cj - x)).drew.drew
            simp only [List.set_set] at h
            rw [← HSJ.out] at h
            exact h
          have OP3 : Hid (OnlyP (fun j => S j) wr (wr.setCell ⟨g2, k, none⟩ (.int .i64 (cj - x))).drew.drew) := (onlyP_set wr g2 k (.int .i64 (cj - x))).mono (fun j e => by rw [e]; exact HS2.out)
          have hgqr : (iv k).1 ≤ gq ∧ gq < (iv k).2 := by
            obtain ⟨_, h⟩ := hkr
            rcases h with ⟨a', c', e, e2⟩ | ⟨g', c', e, hh, _⟩
            · rw [e2] at hjl; simp at hjl
            · cases e; exact ⟨hh.1, hh.2.1⟩
          have eq2 : gq ≠ g2 := by omega
          have eq3 : gq ≠ g3 := by omega
          have hpm : m ≤ pc := by
            have : row.length ≤ pu := by
              obtain ⟨_, h⟩ := hkr
              rcases h with ⟨a', c', e, e2⟩ | ⟨g', c', e, hh, _⟩
              · rw [e2] at hjl; simp at hjl
              · cases e; exact hh.2.2
            rw [HM.out, HPC.out]
            omega
          go_wp2_with fail
          go_big_region
          go_wp2_with fail
          go_big_region
          obtain ⟨W3, hW3⟩ : ∃ W3, W3 = (wr.setCell ⟨g2, k, none⟩ (.int .i64 (cj - x))).drew.drew := ⟨_, rfl⟩
          have CX3 : W3.cell? ⟨gq, j, none⟩ = some (.int .i64 x) := by
            rw [hW3]
            show (wr.setCell ⟨g2, k, none⟩ (.int .i64 (cj - x))).cell? ⟨gq, j, none⟩ = _
            rw [World.cell?_setCell_other _ _ _ _ (by simp <;> omega)]
            exact CX
          have CB3 : Hid (∀ b, (c1.1 ≤ b ∧ b < c1.2) → W3.heap[b]? = wr.heap[b]?) := fun b hb => by rw [hW3]; exact Below.heap_setCell _ _ _ _ (by show b ≠ g2; omega)
          rw [← hW3] at H3 OP3 ⊢
          clear hW3 y0 y1 y2 y3 y4 C2 C3 ff2 ff3 CX
          obtain ⟨y0, y1, y2, y3, y4⟩ := H3.out.box.five
          obtain ⟨_, _, cc3, ff3⟩ := H3.out.k3.setN k 0 (by show k < (D.f3.set k _).length; rw [List.length_set]; exact hk3)
          have C3 : W3.cell? ⟨g3, k, none⟩ = some (.int .i64 sj) := by
            have e : (D.f3.set k sj).getD k 0 = sj := by simp [List.getD_eq_getElem?_getD, hk3]
            rw [← e]; exact cc3
          have H4 : Hid (TuC S (W3.setCell ⟨g3, k, none⟩ (.int .i64 (sj + x))).drew w.heap.size ⟨D.f0, D.f1, D.f2.set k (cj - x), D.f3.set k (sj + x), (k' : Int)⟩ (.slice (some ⟨g0', o0', none⟩) n p0) (.slice (some ⟨B, 0, none⟩) n cap) (.slice (some ⟨g2, 0, none⟩) n p2) (.slice (some ⟨g3, 0, none⟩) n p3) c0 c1 c2 c3 iv) := by
            have h := (H3.out.set3 k (by show k < (D.f3.set k _).length; rw [List.length_set]; exact hk3) (sj + x)).drew
            simp only [List.set_set] at h
            exact h
          have OP4 : Hid (OnlyP (fun j => S j) wr (W3.setCell ⟨g3, k, none⟩ (.int .i64 (sj + x))).drew) := OP3.out.trans ((onlyP_set W3 g3 k (.int .i64 (sj + x))).mono (fun j e => by rw [e]; exact HS3.out))
          clear cc3
          go_wp2_with fail
          go_big_region
          obtain ⟨W4, hW4⟩ : ∃ W4, W4 = (W3.setCell ⟨g3, k, none⟩ (.int .i64 (sj + x))).drew := ⟨_, rfl⟩
          have CX4 : W4.cell? ⟨gq, j, none⟩ = some (.int .i64 x) := by
            rw [hW4]
            show (W3.setCell ⟨g3, k, none⟩ (.int .i64 (sj + x))).cell? ⟨gq, j, none⟩ = _
            rw [World.cell?_setCell_other _ _ _ _ (by simp <;> omega)]
            exact CX3
          have hs4 : W4.heap.size = wr.heap.size := by rw [hW4]; exact OP4.out.1
          have CB4 : Hid (∀ b, (c1.1 ≤ b ∧ b < c1.2) → W4.heap[b]? = wr.heap[b]?) := fun b hb => by rw [hW4]; show (W3.setCell ⟨g3, k, none⟩ (.int .i64 (sj + x))).heap[b]? = _; rw [Below.heap_setCell _ _ _ _ (by show b ≠ g3; omega)]; exact CB3.out b hb
          rw [← hW4] at H4 OP4 ⊢
          clear hW4 y0 y1 y2 y3 y4 C3 ff3 CX3 H3 OP3
          have CBK : Hid (∀ b, (c1.1 ≤ b ∧ b < c1.2) → W4.heap[b]? = wr.heap[b]?) := hid CB4.out
          have OS4 : Hid (W4.ownsRow (w.heap.size + 2) 3 1 u5 j (kflat (row.take j))) := owns_at HLJ'.out.os fun g e _ => OP4.out.2.1 g (fun hg => by have := HS.out g hg; have := (owns_lt HLJ'.out.os g e).1; omega)
          have hle4 : w.heap.size + 2 ≤ W4.heap.size := by have := HLJ'.out.sz; omega
          clear hs4
          go_wp2_with (at_builtin; refine wpList_append_reads _ rfl _ _ rfl (w.heap.size + 2) _ _ _ rfl (OS4.out.alloc _) _ [x] rfl (kreads_int _ _) (by rw [List.length_singleton]; omega) (by rw [World.size_alloc]; omega) ?_)
          intro v6 w6 ho6 hg6 hv6
          have KEEP : ∀ g, g < w.heap.size + 2 → w6.heap[g]? = W4.heap[g]? := fun g hg => by
            rw [hg6.block g (by rw [World.size_alloc]; omega) (fun e => by have := (owns_lt HLJ'.out.os g e.symm).1; omega)]
            exact ((Below.refl W4.heap.size W4).alloc (Nat.le_refl _) _).block g (by omega)
          have hz6 : W4.heap.size + 1 ≤ w6.heap.size := by have := hg6.size; rw [World.size_alloc] at this; exact this
          have hxs := sumI_take_succ hjl
          rw [← HX.out] at hxs
          have e1 : ck + qk - sumI (row.take (j + 1)) = cj - x := by rw [hxs, HCJ.out]; omega
          have e2 : sk + sumI (row.take (j + 1)) = sj + x := by rw [hxs, HSJ.out]; omega
          have NEXT : Hid (∀ vq', (j + 1 < row.length → vq' = .slice (some ⟨gq, j + 1, none⟩) (row.length - (j + 1)) (pu - (j + 1))) → (j + 1 = row.length → ∃ a c, vq' = .slice a 0 c) → SentL S w w.heap.size (w.heap.size + 2) k B gq pu D (ck + qk) sk row (k' : Int) (.slice (some ⟨g0', o0', none⟩) n p0) (.slice (some ⟨B, 0, none⟩) n cap) (.slice (some ⟨g2, 0, none⟩) n p2) (.slice (some ⟨g3, 0, none⟩) n p3) c0 c1 c2 c3 iv (some ⟨gq, 0, none⟩) (j + 1) v6 vq' w6) := fun vq' q1 q2 => by
            refine ⟨?_, ?_, ?_, fun h => ⟨rfl, q1 h⟩, q2, by omega, by rw [e1]; omega, ?_, ?_, by omega, fun lo hl hw => ?_⟩
            · rw [e1, e2]
              exact H4.out.at fun g hg _ => KEEP g (by rcases hg with hg | hg; · have := HS.out g hg; omega
                                                       · omega)
            · rw [take_succ_snoc row j hjl, ← HX.out]
              exact ho6
            · have hBS := (H4.out.ap.inn 1 (by omega)).2 B hBr.1 hBr.2
              have hBw := HS.out B hBS
              rw [World.cell?_of_block (a := ⟨B, k, none⟩) (KEEP B (by omega))]
              have h4 := H4.out.k1.cell (by show D.f1.length = n; rw [L1.out, ← HNN.out]) k hkl
              obtain ⟨u', cu', _, _, _⟩ := h4
              rw [World.cell?_of_block (a := ⟨B, k, none⟩) (CBK.out B hBr)]
              exact HLJ'.out.cb
            · exact tk_next hjl (by rw [← HX.out, ← HCJ.out]; exact hle) HLJ'.out.tk
            · exact (HLJ'.out.box.of_block (OP4.out.2.1 _ (fun hg => by have := HS.out _ hg; omega))).of_block (KEEP _ (by omega))
            · have b1 := HLJ'.out.bl lo hl hw
              have b2 : Below lo wr W4 := OP4.out.below (fun j hj => hl j hj)
              have b3 : Below lo W4 _ := ((Below.refl W4.heap.size W4).alloc (Nat.le_refl _) (.cells #[.int .i64 x] 3)).mono (by omega)
              exact ((b1.trans b2).trans b3).trans ((Below.refl lo _).grown hg6 (by rw [World.size_alloc]; omega) (fun g e => by have := (owns_lt HLJ'.out.os g e).1; omega))
          clear ho6 hg6 hv6 KEEP e1 e2 hxs
          by_cases hp1 : pc = 1
          · subst hp1
            obtain rfl : m = 1 := by omega
            have hjn : j + 1 = row.length := by have := HM.out; omega
            have HN := hid (NEXT.out (.slice (some ⟨gq, j, none⟩) 0 0) (fun h => by omega) (fun _ => ⟨_, _, rfl⟩))
            go_wp2
            go_roundw
            case rel => exact ⟨j + 1, HN.out⟩
            case measure => simp [lenQ]
          · have HN : Hid (SentL S w w.heap.size (w.heap.size + 2) k B gq pu D (ck + qk) sk row (k' : Int) (.slice (some ⟨g0', o0', none⟩) n p0) (.slice (some ⟨B, 0, none⟩) n cap) (.slice (some ⟨g2, 0, none⟩) n p2) (.slice (some ⟨g3, 0, none⟩) n p3) c0 c1 c2 c3 iv (some ⟨gq, 0, none⟩) (j + 1) v6 (.slice (some ⟨gq, j + 1, none⟩) (m - 1) (pc - 1)) w6) := NEXT.out _ (fun h => by rw [HM.out, HPC.out]; congr 1 <;> omega) (fun h => ⟨_, _, by rw [show m - 1 = 0 by have := HM.out; omega]⟩)
            have hp2 : ¬ ((pc : Int) = 1) := by omega
            go_wp2
            go_roundw
            case rel => exact ⟨j + 1, HN.out⟩
            case measure => simp only [lenQ]; omega
        · have dx : decide (x ≤ cj) = false := by rw [decide_eq_false_iff_not]; exact hle
          have hm1 : ((m : Int) == 0) = false := by rw [beq_eq_false_iff_ne]; omega
          have hm2 : (m == 0) = false := by rw [beq_eq_false_iff_ne]; omega
          have TK := tk_end (.inr ⟨hjl, by rw [← HX.out, ← HCJ.out]; exact hle⟩) HLJ'.out.tk
          obtain ⟨rest, hrest⟩ : ∃ x, x = row.drop j := ⟨_, rfl⟩
          have hcr : credT D k = ck + qk := by unfold credT; rw [← HROW.out, if_neg hre, HCK.out, HQK.out]
          have hsend : sendT D k = row.take j := by unfold sendT; rw [hcr, ← HROW.out, TK]
          have hleft : leftT D k = rest := by unfold leftT; rw [hcr, ← HROW.out, TK, hrest]
          have hrl0 : rest.length ≠ 0 := by rw [hrest, List.length_drop]; omega
          have hrest2 : restT D k = cj := by unfold restT; rw [hleft, if_neg hrl0, hcr, ← HROW.out, TK, HCJ.out]
          have FINE : Hid (stepD D = ⟨D.f0, D.f1.set k rest, D.f2.set k cj, D.f3.set k sj, (k' : Int)⟩) := by
            show _ = _
            unfold stepD nextD
            rw [← HK.out, hleft, hrest2, hsend, ← HSK.out, ← HSJ.out, HK'.out, L1.out, ← HNN.out]
          have SENDE := hid hsend
          have HRL : Hid (rest.length ≤ 30) := by show _ ≤ _; rw [hrest, List.length_drop]; omega
          have HE : Hid (TuC S wr w.heap.size ⟨D.f0, D.f1, D.f2.set k cj, D.f3.set k sj, (k' : Int)⟩ (.slice (some ⟨g0', o0', none⟩) n p0) (.slice (some ⟨B, 0, none⟩) n cap) (.slice (some ⟨g2, 0, none⟩) n p2) (.slice (some ⟨g3, 0, none⟩) n p3) c0 c1 c2 c3 iv) := by
            have h := HLJ'.out.tu
            rw [← HCJ.out, ← HSJ.out] at h
            exact h
          have KQ : Hid (KReads wr (.slice (some ⟨gq, j, none⟩) m pc) rest) := by
            have hcells := hkr.reads.cells j hjl
            obtain ⟨b', o', c', e', hc'⟩ := hcells
            cases e'
            have hml : rest.length = m := by rw [hrest, List.length_drop, HM.out]
            refine ⟨some ⟨gq, j, none⟩, pc, by rw [hml], ⟨by rw [hml, HM.out]; omega, ?_⟩, .inr ⟨gq, j, rfl, fun i hi => ?_⟩⟩
            · have : row.length ≤ pu := by
                obtain ⟨_, h⟩ := hkr
                rcases h with ⟨a', c', e, e2⟩ | ⟨g', c', e, hh, _⟩
                · rw [e2] at hjl; simp at hjl
                · cases e; exact hh.2.2
              rw [hml, HM.out, HPC.out]
              omega
            · have h := hc' (j + i) (by rw [hml, HM.out] at hi; omega)
              rw [Nat.zero_add] at h
              have e : rest.getD i 0 = row.getD (j + i) 0 := by rw [hrest]; simp [List.getD_eq_getElem?_getD]
              rw [e]
              exact h
          have OSE := hid HLJ'.out.os
          have BXE := hid HLJ'.out.box
          have BLE := hid HLJ'.out.bl
          have hszE := HLJ'.out.sz
          clear TK hrest hcr hsend hleft hrl0 hrest2
          go_wp2_with fail
          go_big_region
          go_wp2_with fail
          clear y0 y1 y2 y3 y4 C2 C3 ff2 ff3 CX HLJ HLJ'
          obtain ⟨wE, hwE⟩ : ∃ wE, wE = World.drew wr := ⟨_, rfl⟩
          replace HE : Hid (TuC S wE w.heap.size ⟨D.f0, D.f1, D.f2.set k cj, D.f3.set k sj, (k' : Int)⟩ (.slice (some ⟨g0', o0', none⟩) n p0) (.slice (some ⟨B, 0, none⟩) n cap) (.slice (some ⟨g2, 0, none⟩) n p2) (.slice (some ⟨g3, 0, none⟩) n p3) c0 c1 c2 c3 iv) := by rw [hwE]; exact hid HE.out.drew
          replace KQ : Hid (KReads wE (.slice (some ⟨gq, j, none⟩) m pc) rest) := by rw [hwE]; exact KQ.out
          replace OSE : Hid (wE.ownsRow (w.heap.size + 2) 3 1 u5 j (kflat (row.take j))) := by rw [hwE]; exact OSE.out
          replace BXE : Hid (BoxL wE (w.heap.size + 1) [.slice none 0 0, .slice none 0 0, .slice none 0 0, .slice none 0 0, .int .i64 0]) := by rw [hwE]; exact BXE.out
          replace BLE : Hid (∀ lo, (∀ g, S g → lo ≤ g) → lo ≤ w.heap.size → Below lo w wE) := by rw [hwE]; exact fun lo a b => (BLE.out lo a b).drew
          replace hszE : w.heap.size + 2 ≤ wE.heap.size := by rw [hwE]; exact hszE
          rw [← hwE]
          clear hwE
          refine wp_region_any (by kernel_rfl) ?_
          change wpAny _ _ _ _ _ _ _ (World.drew _)
          obtain ⟨wF, hwF⟩ : ∃ wF, wF = World.drew wE := ⟨_, rfl⟩
          replace HE := hid (show TuC S wF w.heap.size _ (.slice (some ⟨g0', o0', none⟩) n p0) (.slice (some ⟨B, 0, none⟩) n cap) (.slice (some ⟨g2, 0, none⟩) n p2) (.slice (some ⟨g3, 0, none⟩) n p3) c0 c1 c2 c3 iv by rw [hwF]; exact HE.out.drew)
          replace KQ : Hid (KReads wF (.slice (some ⟨gq, j, none⟩) m pc) rest) := by rw [hwF]; exact KQ.out
          replace OSE : Hid (wF.ownsRow (w.heap.size + 2) 3 1 u5 j (kflat (row.take j))) := by rw [hwF]; exact OSE.out
          replace BXE : Hid (BoxL wF (w.heap.size + 1) [.slice none 0 0, .slice none 0 0, .slice none 0 0, .slice none 0 0, .int .i64 0]) := by rw [hwF]; exact BXE.out
          replace BLE : Hid (∀ lo, (∀ g, S g → lo ≤ g) → lo ≤ w.heap.size → Below lo w wF) := by rw [hwF]; exact fun lo a b => (BLE.out lo a b).drew
          replace hszE : w.heap.size + 2 ≤ wF.heap.size := by rw [hwF]; exact hszE
          rw [← hwF]
          clear hwF
          refine wpAny_facts' 2 (Array.replicate 8 false) #[true, true, true, true, true, true, false, false] [0, 1, 2, 3, 4, 5] (fun τ : Nat → Value => #[Value.agg #[Value.slice (some { block := g0', off := o0' }) n p0, Value.slice (some { block := B, off := 0 }) n cap, Value.slice (some { block := g2, off := 0 }) n p2, Value.slice (some { block := g3, off := 0 }) n p3, Value.int IntKind.i64 ↑k], Value.pointer (some { block := w.heap.size, off := 0 }), Value.pointer (some { block := w.heap.size + 1, off := 0 }), Value.slice none 0 0, Value.int IntKind.i64 ↑k, u5, Value.slice (some { block := gq, off := j }) m pc, Value.pointer (some { block := w.heap.size, off := 4 }), Value.int IntKind.i64 ↑k, Value.int IntKind.i64 ↑k, Value.int IntKind.i64 (↑k + 1), Value.pointer (some { block := w.heap.size, off := 1 }), Value.slice (some { block := B, off := 0 }) n cap, Value.int IntKind.i64 ↑n, Value.int IntKind.i64 ((↑k + 1) % ↑n), Value.pointer (some { block := w.heap.size, off := 4 }), Value.pointer (some { block := w.heap.size, off := 1 }), Value.slice (some { block := B, off := 0 }) n cap, Value.int IntKind.i64 ↑k, Value.pointer (some { block := B, off := k }), Value.slice (some { block := gq, off := 0 }) row.length pu, Value.slice (some { block := gq, off := 0 }) row.length pu, Value.int IntKind.i64 ↑row.length, Value.bool true, Value.pointer (some { block := w.heap.size, off := 2 }), Value.slice (some { block := g2, off := 0 }) n p2, Value.int IntKind.i64 ↑k, Value.pointer (some { block := g2, off := k }), Value.int IntKind.i64 ck, Value.pointer (some { block := w.heap.size, off := 0 }), Value.slice (some { block := g0', off := o0' }) n p0, Value.int IntKind.i64 ↑k, Value.pointer (some { block := g0', off := o0' + k }), Value.int IntKind.i64 qk, Value.int IntKind.i64 (ck + qk), Value.pointer (some { block := g2, off := k }), Value.slice (some { block := gq, off := j }) m pc, Value.int IntKind.i64 ↑m, Value.bool true, Value.bool true, Value.slice (some { block := gq, off := j }) m pc, Value.pointer (some { block := gq, off := j }), Value.int IntKind.i64 x, Value.pointer (some { block := w.heap.size, off := 2 }), Value.slice (some { block := g2, off := 0 }) n p2, Value.int IntKind.i64 ↑k, Value.pointer (some { block := g2, off := k }), Value.int IntKind.i64 cj, Value.bool false, Value.bool false, u50, u51, u52, u53, u54, u55, u56, u57, u58, u59, u60, u61, u62, u63, u64, u65, u66, u67, u68, u69, u70, u71, u72, u73, u74, u75, u76, u77, Value.slice (some { block := gq, off := j }) m pc, Value.int IntKind.i64 ↑m, Value.bool false, undef, undef, undef, undef, τ 0, τ 1, τ 2, τ 3, τ 4, τ 5, undef, undef, undef]) (nextF w.heap.size k (.slice (some ⟨B, 0, none⟩) n cap) (.slice (some ⟨gq, j, none⟩) m pc) rest) (fun _ => undef) rfl (by kernel_rfl) (by kernel_rfl) (by kernel_rfl) (by kernel_rfl) (by decide) nextF_keep (fun j hj i hi σ c w v r hne hd h => nextF_loc hj hne trivial h) ?_ ?_
          · intro τ c wz hb hf hin hdj
            obtain ⟨⟨k5, ka5⟩, a5, m5, q5, e5⟩ : nextF _ _ _ _ _ 5 τ c wz := hf 5 (by decide)
            have e1 : nextF _ _ _ _ _ 1 τ c wz := hf 1 (by decide)
            have e2 : nextF _ _ _ _ _ 2 τ c wz := hf 2 (by decide)
            simp only [nextF] at e1 e2
            have n5 := hin 5 (by decide)
            rw [e5] at k5 ka5
            clear hf hin hdj
            try dsimp only
            rw [e1, e2, e5]
            have hbs := hb.size
            have HZ2 := hid (HE.out.below hb)
            have hBS := (HE.out.ap.inn 1 (by omega)).2 B hBr.1 hBr.2
            have hBw := HS.out B hBS
            obtain ⟨u', cu', fu', _, _⟩ := HZ2.out.k1.cell (by show D.f1.length = n; rw [L1.out, ← HNN.out]) k hkl
            obtain ⟨r, hr1, hr2⟩ : ∃ r : Nat × Nat, KOwn r.1 r.2 wz (.slice a5 m5 q5) rest ∧ ((r.2 = r.1 + 1 ∧ wF.heap.size ≤ r.1 ∧ r.1 < wz.heap.size) ∨ (r.2 = r.1 ∧ r.1 = wz.heap.size)) := by
              rcases ka5 with ⟨h0, aa, ea⟩ | ⟨ho, hlt⟩
              · refine ⟨(wz.heap.size, wz.heap.size), ?_, .inr ⟨rfl, rfl⟩⟩
                rw [ea, h0]
                exact kown_nil _ _ _ _ _
              · cases hob : (Value.slice a5 m5 q5).ownBlock with
                | none => exact ⟨(wz.heap.size, wz.heap.size), KOwn.of_owns2 ho (by have := HRL.out; omega) (fun g e => by rw [hob] at e; cases e), .inr ⟨rfl, rfl⟩⟩
                | some g =>
                  have hgl := owns_lt ho g hob
                  exact ⟨(g, g + 1), KOwn.of_owns2 ho (by have := HRL.out; omega) (fun g' e => by rw [hob] at e; cases e; exact ⟨Nat.le_refl _, Nat.lt_succ_self _⟩), .inl ⟨rfl, by show wF.heap.size ≤ g; omega, hgl.2⟩⟩
            have H7 : Hid (TuC (fun g => S g ∨ (r.1 ≤ g ∧ g < r.2)) (wz.setCell ⟨B, k, none⟩ (.slice a5 m5 q5)) w.heap.size (stepD D) (.slice (some ⟨g0', o0', none⟩) n p0) (.slice (some ⟨B, 0, none⟩) n cap) (.slice (some ⟨g2, 0, none⟩) n p2) (.slice (some ⟨g3, 0, none⟩) n p3) c0 c1 c2 c3 (upd iv k r)) := by
              have h := TuC.set1 (S' := fun g => S g ∨ (r.1 ≤ g ∧ g < r.2)) HZ2.out (by show k < D.f1.length; rw [L1.out, ← HNN.out]; exact hkl) hr1 (by
                rcases hr2 with ⟨y1, y2, y3⟩ | ⟨y1, y2⟩
                · exact .inl ⟨y1, .inr ⟨Nat.le_refl _, by omega⟩, fun hg => by have := HS.out _ hg; omega⟩
                · exact .inr ⟨y1, fun g hg => by have := HS.out g hg; omega⟩) (fun g hg => .inl hg) (fun h => by
                rcases h with h | h
                · have := HS.out _ h; omega
                · omega)
              rw [FINE.out]
              exact h
            have op7 := onlyP_set wz B k (.slice a5 m5 q5)
            have hs7 := op7.1
            obtain ⟨rs, hrs1, hrs2⟩ : ∃ rs : Nat × Nat, KOwn rs.1 rs.2 wz u5 (row.take j) ∧ ∀ g, rs.1 ≤ g → g < rs.2 → w.heap.size + 2 ≤ g ∧ g < wF.heap.size := by
              have ho := owns_at OSE.out fun g _ hg => hb.block g hg
              cases hob : u5.ownBlock with
              | none => exact ⟨(0, 0), KOwn.of_owns2 ho (by rw [List.length_take]; have := hrl; omega) (fun g e => by rw [hob] at e; cases e), fun g g1 g2 => by simp only at g2; omega⟩
              | some g =>
                have hgl := owns_lt OSE.out g hob
                refine ⟨(g, g + 1), KOwn.of_owns2 ho (by rw [List.length_take]; have := hrl; omega) (fun g' e => by rw [hob] at e; cases e; exact ⟨Nat.le_refl _, Nat.lt_succ_self _⟩), fun g' y1 y2 => ?_⟩
                simp only at y1 y2
                omega
            have BX7 := hid ((BXE.out.below hb BXE.out.lt).of_block (op7.2.1 _ (by omega)))
            have BL7 : Hid (∀ lo, (∀ g, S g → lo ≤ g) → lo ≤ w.heap.size → Below lo w (wz.setCell ⟨B, k, none⟩ (.slice a5 m5 q5))) := fun lo hl hw => ((BLE.out lo hl hw).trans (hb.mono (by omega))).trans (op7.below (fun j e => by have := hl B hBS; omega))
            have KS7 := hid (hrs1.onlyP op7 (fun g g1 g2 e => by have := hrs2 g g1 g2; omega))
            obtain ⟨as5, ns5, ks5, es5⟩ := hrs1.sform
            have cB := cu'
            have fB := fu'
            have zq : (stepD D).f4 = (k' : Int) := by rw [FINE.out]
            clear k5 ka5 n5 e1 e2 e5 HZ2 hr1 hrs1 cu' fu' HE KQ OSE BXE BLE
            refine wpAny_ready (rs := [6]) (by kernel_rfl) (by simp) ?_
            refine AllReady.cons rfl (fun K hK => ?_) AllReady.nil
            go_simp
            refine hK _ _ ?_
            clear hK K
            refine wpAny_ready (rs := [7]) (by kernel_rfl) (by simp) ?_
            refine AllReady.cons rfl (fun K hK => ?_) AllReady.nil
            go_simp
            refine hK _ _ ?_
            clear hK K
            refine wpAny_done (by kernel_rfl) ?_ _
            obtain ⟨W7, hW7⟩ : ∃ W7, W7 = wz.setCell ⟨B, k, none⟩ (.slice a5 m5 q5) := ⟨_, rfl⟩
            rw [← hW7] at H7 BX7 BL7 KS7 hs7 ⊢
            clear hW7 cB fB op7
            have hbx := H7.out.box
            rw [zq] at hbx
            obtain ⟨y0, y1, y2, y3, y4⟩ := hbx.five
            obtain ⟨t0, t1, t2, t3, t4⟩ := BX7.out.five
            have x0 := (BX7.out.cell 0 (by simp)).2
            have x1 := (BX7.out.cell 1 (by simp)).2
            have x2 := (BX7.out.cell 2 (by simp)).2
            have x3 := (BX7.out.cell 3 (by simp)).2
            have x4 := (BX7.out.cell 4 (by simp)).2
            have op := put5_only W7 (w.heap.size + 1) (.slice (some ⟨g0', o0', none⟩) n p0) (.slice (some ⟨B, 0, none⟩) n cap) (.slice (some ⟨g2, 0, none⟩) n p2) (.slice (some ⟨g3, 0, none⟩) n p3) (.int .i64 (k' : Int))
            have bx := put5_box BX7.out (.slice (some ⟨g0', o0', none⟩) n p0) (.slice (some ⟨B, 0, none⟩) n cap) (.slice (some ⟨g2, 0, none⟩) n p2) (.slice (some ⟨g3, 0, none⟩) n p3) (.int .i64 (k' : Int))
            have hs8 := op.1
            have NP : Hid (NextPost S w D k (.agg #[.slice (some ⟨g0', o0', none⟩) n p0, .slice (some ⟨B, 0, none⟩) n cap, .slice (some ⟨g2, 0, none⟩) n p2, .slice (some ⟨g3, 0, none⟩) n p3, .int .i64 (k' : Int)]) u5 (put5 W7 (w.heap.size + 1) (.slice (some ⟨g0', o0', none⟩) n p0) (.slice (some ⟨B, 0, none⟩) n cap) (.slice (some ⟨g2, 0, none⟩) n p2) (.slice (some ⟨g3, 0, none⟩) n p3) (.int .i64 (k' : Int)))) := by
              refine ⟨fun g => S g ∨ (r.1 ≤ g ∧ g < r.2), rs, ?_, ?_, fun g g1 g2 => ?_, fun g hg => ?_, fun lo hl hw => (BL7.out lo hl hw).trans (op.below (fun j e => by omega))⟩
              · have h := H7.out.own
                rw [zq] at h
                exact h.at fun g hg _ => op.2.1 g (by
                  rcases hg with hg | hg
                  · have := HS.out g hg; omega
                  · omega)
              · rw [SENDE.out]
                exact KS7.out.onlyP op (fun g g1 g2 e => by have := hrs2 g g1 g2; omega)
              · have := hrs2 g g1 g2
                rw [hs8, hs7]
                refine ⟨by omega, fun h => ?_⟩
                rcases h with h | h
                · have := HS.out g h; omega
                · omega
              · rw [hs8, hs7]
                rcases hg with hg | hg
                · exact .inl hg
                · exact .inr ⟨by omega, by omega⟩
            obtain ⟨z0, z1, z2, z3, z4⟩ := bx.five
            subst es5
            clear op bx hs8 hs7 hbx H7 BX7 BL7 KS7 hrs2 hr2
            go_wp2
            exact bodyPost_ret (v := .tuple #[.agg #[.slice (some ⟨g0', o0', none⟩) n p0, .slice (some ⟨B, 0, none⟩) n cap, .slice (some ⟨g2, 0, none⟩) n p2, .slice (some ⟨g3, 0, none⟩) n p3, .int .i64 (k' : Int)], .slice as5 ns5 ks5]) (by simp [results, Try.results87, go_sem, z0, z1, z2, z3, z4]) rfl ⟨_, _, rfl, NP.out⟩
          · intro i' hi τ c wr hb hd
            simp only [List.mem_cons, List.not_mem_nil, or_false] at hi; rcases hi with rfl | rfl | rfl | rfl | rfl | rfl
            · skip
              clear hd
              refine StepF.of (a1 := ⟨#[Value.agg #[Value.slice (some { block := g0', off := o0' }) n p0, Value.slice (some { block := B, off := 0 }) n cap, Value.slice (some { block := g2, off := 0 }) n p2, Value.slice (some { block := g3, off := 0 }) n p3, Value.int IntKind.i64 ↑k], Value.pointer (some { block := w.heap.size, off := 0 }), Value.pointer (some { block := w.heap.size + 1, off := 0 }), Value.slice none 0 0, Value.int IntKind.i64 ↑k, u5, Value.slice (some { block := gq, off := j }) m pc, Value.pointer (some { block := w.heap.size, off := 4 }), Value.int IntKind.i64 ↑k, Value.int IntKind.i64 ↑k, Value.int IntKind.i64 (↑k + 1), Value.pointer (some { block := w.heap.size, off := 1 }), Value.slice (some { block := B, off := 0 }) n cap, Value.int IntKind.i64 ↑n, Value.int IntKind.i64 ((↑k + 1) % ↑n), Value.pointer (some { block := w.heap.size, off := 4 }), Value.pointer (some { block := w.heap.size, off := 1 }), Value.slice (some { block := B, off := 0 }) n cap, Value.int IntKind.i64 ↑k, Value.pointer (some { block := B, off := k }), Value.slice (some { block := gq, off := 0 }) row.length pu, Value.slice (some { block := gq, off := 0 }) row.length pu, Value.int IntKind.i64 ↑row.length, Value.bool true, Value.pointer (some { block := w.heap.size, off := 2 }), Value.slice (some { block := g2, off := 0 }) n p2, Value.int IntKind.i64 ↑k, Value.pointer (some { block := g2, off := k }), Value.int IntKind.i64 ck, Value.pointer (some { block := w.heap.size, off := 0 }), Value.slice (some { block := g0', off := o0' }) n p0, Value.int IntKind.i64 ↑k, Value.pointer (some { block := g0', off := o0' + k }), Value.int IntKind.i64 qk, Value.int IntKind.i64 (ck + qk), Value.pointer (some { block := g2, off := k }), Value.slice (some { block := gq, off := j }) m pc, Value.int IntKind.i64 ↑m, Value.bool true, Value.bool true, Value.slice (some { block := gq, off := j }) m pc, Value.pointer (some { block := gq, off := j }), Value.int IntKind.i64 x, Value.pointer (some { block := w.heap.size, off := 2 }), Value.slice (some { block := g2, off := 0 }) n p2, Value.int IntKind.i64 ↑k, Value.pointer (some { block := g2, off := k }), Value.int IntKind.i64 cj, Value.bool false, Value.bool false, u50, u51, u52, u53, u54, u55, u56, u57, u58, u59, u60, u61, u62, u63, u64, u65, u66, u67, u68, u69, u70, u71, u72, u73, u74, u75, u76, u77, Value.slice (some { block := gq, off := j }) m pc, Value.int IntKind.i64 ↑m, Value.bool false, undef, undef, undef, undef, τ 0, τ 1, τ 2, τ 3, τ 4, τ 5, undef, undef, undef], []⟩) rfl rfl (fun _ => rfl) (fun K hK => ?_)
              go_simp
              exact hK _ _ (Below.refl _ _) rfl
            · skip
              have f0 : nextF _ _ _ _ _ 0 τ c wr := hd 0 (by decide) (by decide)
              simp only [nextF] at f0
              clear hd
              refine StepF.of (a1 := ⟨#[Value.agg #[Value.slice (some { block := g0', off := o0' }) n p0, Value.slice (some { block := B, off := 0 }) n cap, Value.slice (some { block := g2, off := 0 }) n p2, Value.slice (some { block := g3, off := 0 }) n p3, Value.int IntKind.i64 ↑k], Value.pointer (some { block := w.heap.size, off := 0 }), Value.pointer (some { block := w.heap.size + 1, off := 0 }), Value.slice none 0 0, Value.int IntKind.i64 ↑k, u5, Value.slice (some { block := gq, off := j }) m pc, Value.pointer (some { block := w.heap.size, off := 4 }), Value.int IntKind.i64 ↑k, Value.int IntKind.i64 ↑k, Value.int IntKind.i64 (↑k + 1), Value.pointer (some { block := w.heap.size, off := 1 }), Value.slice (some { block := B, off := 0 }) n cap, Value.int IntKind.i64 ↑n, Value.int IntKind.i64 ((↑k + 1) % ↑n), Value.pointer (some { block := w.heap.size, off := 4 }), Value.pointer (some { block := w.heap.size, off := 1 }), Value.slice (some { block := B, off := 0 }) n cap, Value.int IntKind.i64 ↑k, Value.pointer (some { block := B, off := k }), Value.slice (some { block := gq, off := 0 }) row.length pu, Value.slice (some { block := gq, off := 0 }) row.length pu, Value.int IntKind.i64 ↑row.length, Value.bool true, Value.pointer (some { block := w.heap.size, off := 2 }), Value.slice (some { block := g2, off := 0 }) n p2, Value.int IntKind.i64 ↑k, Value.pointer (some { block := g2, off := k }), Value.int IntKind.i64 ck, Value.pointer (some { block := w.heap.size, off := 0 }), Value.slice (some { block := g0', off := o0' }) n p0, Value.int IntKind.i64 ↑k, Value.pointer (some { block := g0', off := o0' + k }), Value.int IntKind.i64 qk, Value.int IntKind.i64 (ck + qk), Value.pointer (some { block := g2, off := k }), Value.slice (some { block := gq, off := j }) m pc, Value.int IntKind.i64 ↑m, Value.bool true, Value.bool true, Value.slice (some { block := gq, off := j }) m pc, Value.pointer (some { block := gq, off := j }), Value.int IntKind.i64 x, Value.pointer (some { block := w.heap.size, off := 2 }), Value.slice (some { block := g2, off := 0 }) n p2, Value.int IntKind.i64 ↑k, Value.pointer (some { block := g2, off := k }), Value.int IntKind.i64 cj, Value.bool false, Value.bool false, u50, u51, u52, u53, u54, u55, u56, u57, u58, u59, u60, u61, u62, u63, u64, u65, u66, u67, u68, u69, u70, u71, u72, u73, u74, u75, u76, u77, Value.slice (some { block := gq, off := j }) m pc, Value.int IntKind.i64 ↑m, Value.bool false, undef, undef, undef, undef, (.pointer (some ⟨w.heap.size, 1, none⟩)), τ 1, τ 2, τ 3, τ 4, τ 5, undef, undef, undef], []⟩) (by simp only [f0]) rfl (fun _ => rfl) (fun K hK => ?_)
              obtain ⟨y0, y1, y2, y3, y4⟩ := (HE.out.box.below hb HE.out.box.lt).five
              go_simp
              exact hK _ _ (Below.refl _ _) rfl
            · skip
              clear hd
              refine StepF.of (a1 := ⟨#[Value.agg #[Value.slice (some { block := g0', off := o0' }) n p0, Value.slice (some { block := B, off := 0 }) n cap, Value.slice (some { block := g2, off := 0 }) n p2, Value.slice (some { block := g3, off := 0 }) n p3, Value.int IntKind.i64 ↑k], Value.pointer (some { block := w.heap.size, off := 0 }), Value.pointer (some { block := w.heap.size + 1, off := 0 }), Value.slice none 0 0, Value.int IntKind.i64 ↑k, u5, Value.slice (some { block := gq, off := j }) m pc, Value.pointer (some { block := w.heap.size, off := 4 }), Value.int IntKind.i64 ↑k, Value.int IntKind.i64 ↑k, Value.int IntKind.i64 (↑k + 1), Value.pointer (some { block := w.heap.size, off := 1 }), Value.slice (some { block := B, off := 0 }) n cap, Value.int IntKind.i64 ↑n, Value.int IntKind.i64 ((↑k + 1) % ↑n), Value.pointer (some { block := w.heap.size, off := 4 }), Value.pointer (some { block := w.heap.size, off := 1 }), Value.slice (some { block := B, off := 0 }) n cap, Value.int IntKind.i64 ↑k, Value.pointer (some { block := B, off := k }), Value.slice (some { block := gq, off := 0 }) row.length pu, Value.slice (some { block := gq, off := 0 }) row.length pu, Value.int IntKind.i64 ↑row.length, Value.bool true, Value.pointer (some { block := w.heap.size, off := 2 }), Value.slice (some { block := g2, off := 0 }) n p2, Value.int IntKind.i64 ↑k, Value.pointer (some { block := g2, off := k }), Value.int IntKind.i64 ck, Value.pointer (some { block := w.heap.size, off := 0 }), Value.slice (some { block := g0', off := o0' }) n p0, Value.int IntKind.i64 ↑k, Value.pointer (some { block := g0', off := o0' + k }), Value.int IntKind.i64 qk, Value.int IntKind.i64 (ck + qk), Value.pointer (some { block := g2, off := k }), Value.slice (some { block := gq, off := j }) m pc, Value.int IntKind.i64 ↑m, Value.bool true, Value.bool true, Value.slice (some { block := gq, off := j }) m pc, Value.pointer (some { block := gq, off := j }), Value.int IntKind.i64 x, Value.pointer (some { block := w.heap.size, off := 2 }), Value.slice (some { block := g2, off := 0 }) n p2, Value.int IntKind.i64 ↑k, Value.pointer (some { block := g2, off := k }), Value.int IntKind.i64 cj, Value.bool false, Value.bool false, u50, u51, u52, u53, u54, u55, u56, u57, u58, u59, u60, u61, u62, u63, u64, u65, u66, u67, u68, u69, u70, u71, u72, u73, u74, u75, u76, u77, Value.slice (some { block := gq, off := j }) m pc, Value.int IntKind.i64 ↑m, Value.bool false, undef, undef, undef, undef, τ 0, τ 1, τ 2, τ 3, τ 4, τ 5, undef, undef, undef], []⟩) rfl rfl (fun _ => rfl) (fun K hK => ?_)
              go_simp
              exact hK _ _ (Below.refl _ _) rfl
            · skip
              clear hd
              refine StepF.of (a1 := ⟨#[Value.agg #[Value.slice (some { block := g0', off := o0' }) n p0, Value.slice (some { block := B, off := 0 }) n cap, Value.slice (some { block := g2, off := 0 }) n p2, Value.slice (some { block := g3, off := 0 }) n p3, Value.int IntKind.i64 ↑k], Value.pointer (some { block := w.heap.size, off := 0 }), Value.pointer (some { block := w.heap.size + 1, off := 0 }), Value.slice none 0 0, Value.int IntKind.i64 ↑k, u5, Value.slice (some { block := gq, off := j }) m pc, Value.pointer (some { block := w.heap.size, off := 4 }), Value.int IntKind.i64 ↑k, Value.int IntKind.i64 ↑k, Value.int IntKind.i64 (↑k + 1), Value.pointer (some { block := w.heap.size, off := 1 }), Value.slice (some { block := B, off := 0 }) n cap, Value.int IntKind.i64 ↑n, Value.int IntKind.i64 ((↑k + 1) % ↑n), Value.pointer (some { block := w.heap.size, off := 4 }), Value.pointer (some { block := w.heap.size, off := 1 }), Value.slice (some { block := B, off := 0 }) n cap, Value.int IntKind.i64 ↑k, Value.pointer (some { block := B, off := k }), Value.slice (some { block := gq, off := 0 }) row.length pu, Value.slice (some { block := gq, off := 0 }) row.length pu, Value.int IntKind.i64 ↑row.length, Value.bool true, Value.pointer (some { block := w.heap.size, off := 2 }), Value.slice (some { block := g2, off := 0 }) n p2, Value.int IntKind.i64 ↑k, Value.pointer (some { block := g2, off := k }), Value.int IntKind.i64 ck, Value.pointer (some { block := w.heap.size, off := 0 }), Value.slice (some { block := g0', off := o0' }) n p0, Value.int IntKind.i64 ↑k, Value.pointer (some { block := g0', off := o0' + k }), Value.int IntKind.i64 qk, Value.int IntKind.i64 (ck + qk), Value.pointer (some { block := g2, off := k }), Value.slice (some { block := gq, off := j }) m pc, Value.int IntKind.i64 ↑m, Value.bool true, Value.bool true, Value.slice (some { block := gq, off := j }) m pc, Value.pointer (some { block := gq, off := j }), Value.int IntKind.i64 x, Value.pointer (some { block := w.heap.size, off := 2 }), Value.slice (some { block := g2, off := 0 }) n p2, Value.int IntKind.i64 ↑k, Value.pointer (some { block := g2, off := k }), Value.int IntKind.i64 cj, Value.bool false, Value.bool false, u50, u51, u52, u53, u54, u55, u56, u57, u58, u59, u60, u61, u62, u63, u64, u65, u66, u67, u68, u69, u70, u71, u72, u73, u74, u75, u76, u77, Value.slice (some { block := gq, off := j }) m pc, Value.int IntKind.i64 ↑m, Value.bool false, undef, undef, undef, undef, τ 0, τ 1, τ 2, τ 3, τ 4, τ 5, undef, undef, undef], []⟩) rfl rfl (fun _ => rfl) (fun K hK => ?_)
              go_simp
              exact hK _ _ ((Below.refl _ _).alloc (Nat.le_refl _) _) ⟨_, rfl⟩
            · skip
              clear hd
              refine StepF.of (a1 := ⟨#[Value.agg #[Value.slice (some { block := g0', off := o0' }) n p0, Value.slice (some { block := B, off := 0 }) n cap, Value.slice (some { block := g2, off := 0 }) n p2, Value.slice (some { block := g3, off := 0 }) n p3, Value.int IntKind.i64 ↑k], Value.pointer (some { block := w.heap.size, off := 0 }), Value.pointer (some { block := w.heap.size + 1, off := 0 }), Value.slice none 0 0, Value.int IntKind.i64 ↑k, u5, Value.slice (some { block := gq, off := j }) m pc, Value.pointer (some { block := w.heap.size, off := 4 }), Value.int IntKind.i64 ↑k, Value.int IntKind.i64 ↑k, Value.int IntKind.i64 (↑k + 1), Value.pointer (some { block := w.heap.size, off := 1 }), Value.slice (some { block := B, off := 0 }) n cap, Value.int IntKind.i64 ↑n, Value.int IntKind.i64 ((↑k + 1) % ↑n), Value.pointer (some { block := w.heap.size, off := 4 }), Value.pointer (some { block := w.heap.size, off := 1 }), Value.slice (some { block := B, off := 0 }) n cap, Value.int IntKind.i64 ↑k, Value.pointer (some { block := B, off := k }), Value.slice (some { block := gq, off := 0 }) row.length pu, Value.slice (some { block := gq, off := 0 }) row.length pu, Value.int IntKind.i64 ↑row.length, Value.bool true, Value.pointer (some { block := w.heap.size, off := 2 }), Value.slice (some { block := g2, off := 0 }) n p2, Value.int IntKind.i64 ↑k, Value.pointer (some { block := g2, off := k }), Value.int IntKind.i64 ck, Value.pointer (some { block := w.heap.size, off := 0 }), Value.slice (some { block := g0', off := o0' }) n p0, Value.int IntKind.i64 ↑k, Value.pointer (some { block := g0', off := o0' + k }), Value.int IntKind.i64 qk, Value.int IntKind.i64 (ck + qk), Value.pointer (some { block := g2, off := k }), Value.slice (some { block := gq, off := j }) m pc, Value.int IntKind.i64 ↑m, Value.bool true, Value.bool true, Value.slice (some { block := gq, off := j }) m pc, Value.pointer (some { block := gq, off := j }), Value.int IntKind.i64 x, Value.pointer (some { block := w.heap.size, off := 2 }), Value.slice (some { block := g2, off := 0 }) n p2, Value.int IntKind.i64 ↑k, Value.pointer (some { block := g2, off := k }), Value.int IntKind.i64 cj, Value.bool false, Value.bool false, u50, u51, u52, u53, u54, u55, u56, u57, u58, u59, u60, u61, u62, u63, u64, u65, u66, u67, u68, u69, u70, u71, u72, u73, u74, u75, u76, u77, Value.slice (some { block := gq, off := j }) m pc, Value.int IntKind.i64 ↑m, Value.bool false, undef, undef, undef, undef, τ 0, τ 1, τ 2, τ 3, τ 4, τ 5, undef, undef, undef], []⟩) rfl rfl (fun _ => rfl) (fun K hK => ?_)
              go_simp
              exact hK _ _ (Below.refl _ _) rfl
            · skip
              have f3 : nextF _ _ _ _ _ 3 τ c wr := hd 3 (by decide) (by decide)
              obtain ⟨bb, f3⟩ := f3
              have f4 : nextF _ _ _ _ _ 4 τ c wr := hd 4 (by decide) (by decide)
              simp only [nextF] at f4
              clear hd
              refine StepF.of (a1 := ⟨#[Value.agg #[Value.slice (some { block := g0', off := o0' }) n p0, Value.slice (some { block := B, off := 0 }) n cap, Value.slice (some { block := g2, off := 0 }) n p2, Value.slice (some { block := g3, off := 0 }) n p3, Value.int IntKind.i64 ↑k], Value.pointer (some { block := w.heap.size, off := 0 }), Value.pointer (some { block := w.heap.size + 1, off := 0 }), Value.slice none 0 0, Value.int IntKind.i64 ↑k, u5, Value.slice (some { block := gq, off := j }) m pc, Value.pointer (some { block := w.heap.size, off := 4 }), Value.int IntKind.i64 ↑k, Value.int IntKind.i64 ↑k, Value.int IntKind.i64 (↑k + 1), Value.pointer (some { block := w.heap.size, off := 1 }), Value.slice (some { block := B, off := 0 }) n cap, Value.int IntKind.i64 ↑n, Value.int IntKind.i64 ((↑k + 1) % ↑n), Value.pointer (some { block := w.heap.size, off := 4 }), Value.pointer (some { block := w.heap.size, off := 1 }), Value.slice (some { block := B, off := 0 }) n cap, Value.int IntKind.i64 ↑k, Value.pointer (some { block := B, off := k }), Value.slice (some { block := gq, off := 0 }) row.length pu, Value.slice (some { block := gq, off := 0 }) row.length pu, Value.int IntKind.i64 ↑row.length, Value.bool true, Value.pointer (some { block := w.heap.size, off := 2 }), Value.slice (some { block := g2, off := 0 }) n p2, Value.int IntKind.i64 ↑k, Value.pointer (some { block := g2, off := k }), Value.int IntKind.i64 ck, Value.pointer (some { block := w.heap.size, off := 0 }), Value.slice (some { block := g0', off := o0' }) n p0, Value.int IntKind.i64 ↑k, Value.pointer (some { block := g0', off := o0' + k }), Value.int IntKind.i64 qk, Value.int IntKind.i64 (ck + qk), Value.pointer (some { block := g2, off := k }), Value.slice (some { block := gq, off := j }) m pc, Value.int IntKind.i64 ↑m, Value.bool true, Value.bool true, Value.slice (some { block := gq, off := j }) m pc, Value.pointer (some { block := gq, off := j }), Value.int IntKind.i64 x, Value.pointer (some { block := w.heap.size, off := 2 }), Value.slice (some { block := g2, off := 0 }) n p2, Value.int IntKind.i64 ↑k, Value.pointer (some { block := g2, off := k }), Value.int IntKind.i64 cj, Value.bool false, Value.bool false, u50, u51, u52, u53, u54, u55, u56, u57, u58, u59, u60, u61, u62, u63, u64, u65, u66, u67, u68, u69, u70, u71, u72, u73, u74, u75, u76, u77, Value.slice (some { block := gq, off := j }) m pc, Value.int IntKind.i64 ↑m, Value.bool false, undef, undef, undef, undef, τ 0, τ 1, τ 2, (.slice (some ⟨bb, 0, none⟩) 0 0), (.slice (some ⟨gq, j, none⟩) m pc), τ 5, undef, undef, undef], []⟩) (by simp only [f3, f4]) rfl (fun _ => rfl) (fun K hK => ?_)
              refine step_clone_lit (by rfl) _ _ (by rfl) bb (by rfl) (.slice (some ⟨gq, j, none⟩) m pc) rest (by rfl) (KQ.out.below hb) (by have := HRL.out; omega) ?_
              intro u2 w2 k2 ka2 b2
              exact hK u2 w2 b2 ⟨⟨k2, ka2⟩, k2.sform⟩
end Go.Proofs.Ytepnhbicmlfnhac
