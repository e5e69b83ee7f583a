/-
  spec.PutPacket where nothing is put: no turns. Nothing old is written.
  PutPacket and NewTurns of both sides in one contract each; a packet put leaves turns good. Nothing old is written.
-/
import Derived.Test.YtepnhbicmlfnhacTurnPut
import Derived.Test.YtepnhbicmlfnhacSGoodT
import Derived.Test.YtepnhbicmlfnhacSIn
import Derived.Test.YtepnhbicmlfnhacInfoII
import Derived.Test.YtepnhbicmlfnhacSPut
import Derived.Test.YtepnhbicmlfnhacIPut
import Derived.Test.YtepnhbicmlfnhacIPutNo
import Derived.Test.YtepnhbicmlfnhacSNewT
import Derived.Test.YtepnhbicmlfnhacINewT
import Derived.Test.YtepnhbicmlfnhacTurnRun
namespace Go.Proofs.Ytepnhbicmlfnhac
open Go.RowKit

set_option maxRecDepth 100000 in
set_option maxHeartbeats 16000000 in
theorem sput_no (v : Value) (D : TuD) (q x : Int) (w : World) (hr : TuReads w v D) (h : putOk D q x = false) :
    Calls Try.prog 44 #[v, .int .i64 q, .int .i64 x] w fun e w' => ∃ u0, e = .returned (.tuple #[u0, .bool false]) ∧ TuOwn (Iv w.heap.size w'.heap.size) w' u0 noT ∧ Below w.heap.size w w' := by
  have HP := hid h
  clear h
  have HR := hid hr
  obtain ⟨v0, v1, v2, v3, rfl, r0, r1, r2, r3⟩ := hr
  have R1 := hid r1
  obtain ⟨a0, p0, rfl, _, _⟩ := r0
  obtain ⟨a1, p1, rfl, _, _⟩ := r1
  obtain ⟨a2, p2, rfl, _, _⟩ := r2
  obtain ⟨a3, p3, rfl, _, _⟩ := r3
  obtain ⟨z, hz⟩ : ∃ z, z = D.f4 := ⟨_, rfl⟩
  rw [← hz] at HR ⊢
  clear hz
  obtain ⟨t, ht⟩ : ∃ t, goodTu D = t := ⟨_, rfl⟩
  have HT := hid ht
  clear ht
  have PA := hid (boxL_new w [.slice a0 D.f0.length p0, .slice a1 D.f1.length p1, .slice a2 D.f2.length p2, .slice a3 D.f3.length p3, .int .i64 z] 55)
  have PR := hid (boxL_new (w.alloc (.cells #[.slice a0 D.f0.length p0, .slice a1 D.f1.length p1, .slice a2 D.f2.length p2, .slice a3 D.f3.length p3, .int .i64 z] 55)) [.slice none 0 0, .slice none 0 0, .slice none 0 0, .slice none 0 0, .int .i64 0] 55)
  replace PA := hid (PA.out.below ((Below.refl _ _).alloc (Nat.le_refl _) (.cells #[.slice none 0 0, .slice none 0 0, .slice none 0 0, .slice none 0 0, .int .i64 0] 55)) PA.out.lt)
  rw [World.size_alloc] at PR
  have B0 : Hid (Below w.heap.size w ((w.alloc (.cells #[.slice a0 D.f0.length p0, .slice a1 D.f1.length p1, .slice a2 D.f2.length p2, .slice a3 D.f3.length p3, .int .i64 z] 55)).alloc (.cells #[.slice none 0 0, .slice none 0 0, .slice none 0 0, .slice none 0 0, .int .i64 0] 55))) := ((Below.refl _ _).alloc (Nat.le_refl _) _).alloc (by simp) _
  obtain ⟨q0, q1, q2, q3, q4⟩ := PA.out.five
  go_enter Try.func44, Try.ntmps44
  go_wp2_with fail
  refine (sgoodT_eq _ D t HT.out _ (HR.out.below B0.out)).mono ?_
  rintro e w1 ⟨rfl, b1⟩
  have B1 : Hid (Below w.heap.size w w1) := B0.out.trans (b1.mono B0.out.size)
  have PA1 := hid (PA.out.below b1 PA.out.lt)
  have PR1 := hid (PR.out.below b1 PR.out.lt)
  clear b1 q0 q1 q2 q3 q4 PA PR B0
  obtain ⟨q0, q1, q2, q3, q4⟩ := PA1.out.five
  obtain ⟨t0, t1, t2, t3, t4⟩ := PR1.out.five
  have x0 := (PR1.out.cell 0 (by simp)).2
  have x1 := (PR1.out.cell 1 (by simp)).2
  have x2 := (PR1.out.cell 2 (by simp)).2
  have x3 := (PR1.out.cell 3 (by simp)).2
  have x4 := (PR1.out.cell 4 (by simp)).2
  have op := put5_only w1 (w.heap.size + 1) (.slice none 0 0) (.slice none 0 0) (.slice none 0 0) (.slice none 0 0) (.int .i64 0)
  have bx := put5_box PR1.out (.slice none 0 0) (.slice none 0 0) (.slice none 0 0) (.slice none 0 0) (.int .i64 0)
  have HB := hid (B1.out.trans (op.below (lo := w.heap.size) fun j e => by omega))
  obtain ⟨z0, z1, z2, z3, z4⟩ := bx.five
  clear op bx
  cases t
  · go_wp2
    exact bodyPost_ret (v := .tuple #[.agg #[.slice none 0 0, .slice none 0 0, .slice none 0 0, .slice none 0 0, .int .i64 0], .bool false]) (by simp [results, Try.results44, go_sem, z0, z1, z2, z3, z4]) rfl ⟨_, rfl, noT_own _ _ _, HB.out⟩
  by_cases hq0 : q < 0
  · have d1 : decide (q < 0) = true := by rw [decide_eq_true_eq]; exact hq0
    go_wp2
    exact bodyPost_ret (v := .tuple #[.agg #[.slice none 0 0, .slice none 0 0, .slice none 0 0, .slice none 0 0, .int .i64 0], .bool false]) (by simp [results, Try.results44, go_sem, z0, z1, z2, z3, z4]) rfl ⟨_, rfl, noT_own _ _ _, HB.out⟩
  have d1 : decide (q < 0) = false := by rw [decide_eq_false_iff_not]; exact hq0
  obtain ⟨k, hk⟩ : ∃ k : Nat, q = (k : Int) := ⟨q.toNat, by omega⟩
  subst hk
  by_cases hq1 : D.f1.length ≤ k
  · have d2 : decide ((D.f1.length : Int) ≤ (k : Int)) = true := by rw [decide_eq_true_eq]; omega
    have d3 : decide (D.f1.length ≤ k) = true := by rw [decide_eq_true_eq]; exact hq1
    go_wp2
    exact bodyPost_ret (v := .tuple #[.agg #[.slice none 0 0, .slice none 0 0, .slice none 0 0, .slice none 0 0, .int .i64 0], .bool false]) (by simp [results, Try.results44, go_sem, z0, z1, z2, z3, z4]) rfl ⟨_, rfl, noT_own _ _ _, HB.out⟩
  have d2 : decide ((D.f1.length : Int) ≤ (k : Int)) = false := by rw [decide_eq_false_iff_not]; omega
  have d3 : decide (D.f1.length ≤ k) = false := by rw [decide_eq_false_iff_not]; exact hq1
  have hkl : k < D.f1.length := by omega
  obtain ⟨b, hb⟩ : ∃ b, decide (1 ≤ x ∧ x ≤ 20) = b := ⟨_, rfl⟩
  have HXB := hid hb
  clear hb
  go_wp2_with fail
  refine (l1In_eq x 1 20 b HXB.out _).mono ?_
  rintro e w' ⟨rfl, hw⟩; obtain rfl := hw.symm
  cases b
  · go_wp2
    exact bodyPost_ret (v := .tuple #[.agg #[.slice none 0 0, .slice none 0 0, .slice none 0 0, .slice none 0 0, .int .i64 0], .bool false]) (by simp [results, Try.results44, go_sem, z0, z1, z2, z3, z4]) rfl ⟨_, rfl, noT_own _ _ _, HB.out⟩
  have h30 : (D.f1.getD k []).length = 30 := by
    have h := HP.out
    unfold putOk at h
    rw [HT.out, HXB.out, Int.toNat_natCast, decide_eq_true (by omega)] at h
    simpa using h
  obtain ⟨g1, o1, p1', e1, h1⟩ := R1.out.cells k hkl
  cases e1
  obtain ⟨u, cu, hu⟩ := h1 k hkl
  obtain ⟨au, ku, rfl, _, _⟩ := hu
  rw [h30] at cu
  have CU1 := (World.cell?_of_block (a := ⟨g1, o1 + k, none⟩) (B1.out.block g1 (lt_of_cell cu))).trans cu
  have n0 : (0 : Int) ≤ (k : Int) := by omega
  have n1 : (k : Int) < (D.f1.length : Int) := by omega
  clear cu h1 h30
  go_wp2
  exact bodyPost_ret (v := .tuple #[.agg #[.slice none 0 0, .slice none 0 0, .slice none 0 0, .slice none 0 0, .int .i64 0], .bool false]) (by simp [results, Try.results44, go_sem, z0, z1, z2, z3, z4]) rfl ⟨_, rfl, noT_own _ _ _, HB.out⟩
end Go.Proofs.Ytepnhbicmlfnhac
namespace Go.Proofs.Ytepnhbicmlfnhac
open Go.RowKit

def putX (D : TuD) (q x : Int) : TuD := bif putOk D q x then putD D q.toNat x else noT
def newX (xs : List Int) : TuD := bif newOk xs then newT xs else noT
def PutTells (f : Nat) : Prop := ∀ (v : Value) (D : TuD) (q x : Int) (w : World), TuReads w v D → Calls Try.prog f #[v, .int .i64 q, .int .i64 x] w fun e w' => ∃ u, e = .returned (.tuple #[u, .bool (putOk D q x)]) ∧ TuReads w' u (putX D q x) ∧ Below w.heap.size w w'
def NewTells (f : Nat) : Prop := ∀ (v : Value) (xs : List Int) (w : World), KReads w v xs → Calls Try.prog f #[v] w fun e w' => ∃ u, e = .returned (.tuple #[u, .bool (newOk xs)]) ∧ TuReads w' u (newX xs) ∧ Below w.heap.size w w'
theorem sput_tells : PutTells 44 := by
  intro v D q x w hr
  unfold putX
  cases h : putOk D q x with
  | true => exact (sput_yes v D q x w hr h).mono fun _ _ ⟨u, he, ho, hb⟩ => ⟨u, he, ho.reads, hb⟩
  | false => exact (sput_no v D q x w hr h).mono fun _ _ ⟨u, he, ho, hb⟩ => ⟨u, he, ho.reads, hb⟩
theorem iput_tells : PutTells 43 := by
  intro v D q x w hr
  unfold putX
  cases h : putOk D q x with
  | true => exact (iput_yes v D q x w hr h).mono fun _ _ ⟨u, he, ho, hb⟩ => ⟨u, he, ho.reads, hb⟩
  | false => exact (iput_no v D q x w hr h).mono fun _ _ ⟨u, he, ho, hb⟩ => ⟨u, he, ho.reads, hb⟩
theorem snew_tells : NewTells 47 := by
  intro v xs w hr
  unfold newX
  cases h : newOk xs with
  | true => exact (snewT_yes v xs w hr h).mono fun _ _ ⟨u, he, ho, hb⟩ => ⟨u, he, ho.reads, hb⟩
  | false => exact (snewT_no v xs w hr h).mono fun _ _ ⟨u, he, ho, hb⟩ => ⟨u, he, ho.reads, hb⟩
theorem inew_tells : NewTells 46 := by
  intro v xs w hr
  unfold newX
  cases h : newOk xs with
  | true => exact (inewT_yes v xs w hr h).mono fun _ _ ⟨u, he, ho, hb⟩ => ⟨u, he, ho.reads, hb⟩
  | false => exact (inewT_no v xs w hr h).mono fun _ _ ⟨u, he, ho, hb⟩ => ⟨u, he, ho.reads, hb⟩
theorem put_good {D : TuD} {q x : Int} (h : putOk D q x = true) : goodTu (putX D q x) = true := by
  have e : putX D q x = putD D q.toNat x := by unfold putX; rw [h]; rfl
  rw [e]
  unfold putOk at h
  simp only [Bool.and_eq_true, decide_eq_true_eq, Bool.not_eq_true', decide_eq_false_iff_not] at h
  obtain ⟨hg, hq, hx, hl⟩ := h
  have hG := goodT_of hg
  obtain ⟨k, rfl⟩ := Int.eq_ofNat_of_zero_le hq.1
  rw [Int.toNat_natCast] at hl ⊢
  have hk : k < D.f1.length := by omega
  refine goodTu_of ⟨hG.n, hG.q, by show (D.f1.set k _).length = _; rw [List.length_set]; exact hG.l1, hG.l2, hG.l3, hG.c, hG.s, hG.at_, fun i hi => ?_⟩
  have hi' : i < D.f1.length := by have : i < (D.f1.set k (D.f1.getD k [] ++ [x])).length := hi; simpa using this
  show ((D.f1.set k (D.f1.getD k [] ++ [x])).getD i []).length ≤ 30 ∧ (∀ j, j < ((D.f1.set k (D.f1.getD k [] ++ [x])).getD i []).length → 1 ≤ fl ((D.f1.set k (D.f1.getD k [] ++ [x])).getD i []) j ∧ fl ((D.f1.set k (D.f1.getD k [] ++ [x])).getD i []) j ≤ 20) ∧ (((D.f1.set k (D.f1.getD k [] ++ [x])).getD i []).length = 0 → fl D.f2 i = 0)
  obtain ⟨a1, a2, a3⟩ := hG.k i hi'
  by_cases e : k = i
  · subst e
    have e2 : (D.f1.set k (D.f1.getD k [] ++ [x])).getD k [] = D.f1.getD k [] ++ [x] := by rw [List.getD_eq_getElem?_getD, List.getElem?_set_self hk]; rfl
    rw [e2, List.length_append]
    refine ⟨by simp only [List.length_singleton]; omega, fun j hj => ?_, fun h => by simp at h⟩
    simp only [List.length_singleton] at hj
    by_cases ej : j < (D.f1.getD k []).length
    · have := a2 j ej
      have e3 : fl (D.f1.getD k [] ++ [x]) j = fl (D.f1.getD k []) j := by unfold fl; rw [List.getD_eq_getElem?_getD, List.getElem?_append_left ej, ← List.getD_eq_getElem?_getD]
      rw [e3]; exact this
    · have e4 : j = (D.f1.getD k []).length := by omega
      have e3 : fl (D.f1.getD k [] ++ [x]) j = x := by unfold fl; rw [List.getD_eq_getElem?_getD, List.getElem?_append_right (by omega), e4]; simp
      rw [e3]; exact hx
  · have e2 : (D.f1.set k (D.f1.getD k [] ++ [x])).getD i [] = D.f1.getD i [] := by rw [List.getD_eq_getElem?_getD, List.getElem?_set_ne e, ← List.getD_eq_getElem?_getD]
    rw [e2]
    exact ⟨a1, a2, a3⟩
end Go.Proofs.Ytepnhbicmlfnhac
