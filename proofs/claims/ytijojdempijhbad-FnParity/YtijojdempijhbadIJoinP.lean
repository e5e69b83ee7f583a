/-
  impl.JoinPieces: the first bytes of pieces together, or the zero answer. Nothing old is written.
-/
import Derived.Test.YtijojdempijhbadIPieces
import Derived.Test.YtijojdempijhbadIJoinS
import Derived.Test.YtijojdempijhbadCloneX
namespace Go.Proofs.Ytijojdempijhbad
open Go.RowKit

set_option maxHeartbeats 4000000 in
theorem ijoinp_any (v : Value) (xs : List XEl) (long : Int) (T : ByteArray) (t : Bool) (hT : joinT xs long = T) (ht : joinB xs long = t) (w : World) (hr : XReads w v xs) :
    Calls Try.prog 72 #[v, .int .i64 long] w fun e w' => e = .returned (.tuple #[.string T, .bool t]) ∧ Below w.heap.size w w' := by
  have HR := hid hr
  have HT := hid hT
  have Ht := hid ht
  clear hT ht
  obtain ⟨gd, hg⟩ : ∃ g, goodP xs = g := ⟨_, rfl⟩
  have HG := hid hg
  cases gd
  · have HF : Hid (t = false) := by show _ = _; rw [← Ht.out]; unfold joinB; rw [hg]; rfl
    have HE : Hid (T = ByteArray.empty) := by show _ = _; rw [← HT.out]; unfold joinT; rw [Ht.out, HF.out]; rfl
    clear hr hg
    go_enter Try.func72, Try.ntmps72
    go_wp2_with fail
    refine (ipieces_eq _ xs false HG.out _ HR.out).mono ?_
    rintro e w' ⟨rfl, hw⟩; obtain rfl := hw.symm
    go_wp2
    go_ret2
    exact ⟨by rw [HE.out, HF.out]; rfl, Below.refl _ _⟩
  obtain ⟨n, h1, h2, h3, h4, hs⟩ := goodP_parts hg
  have HN := hid hs
  obtain ⟨b, off, cap, rfl, hcs⟩ := hr.cells 0 h3
  have c1 : w.cell? ⟨b, off, none⟩ = some (.string (xs.getD 0 xz)) := hcs 0 h3
  have H2 : Hid (decide (0 ≤ long ∧ long ≤ ((xs.length * n : Nat) : Int)) = t) := by
    show _ = _
    rw [← Ht.out]
    unfold joinB
    rw [hg, h1, Bool.true_and, decide_eq_decide]
    simp
  obtain ⟨z, hz⟩ : ∃ z, xs.getD 0 xz = z := ⟨_, rfl⟩
  rw [hz] at c1 h1
  have hzi : (z.size : Int) = (n : Int) := by rw [h1]
  have hlt0 : (0 : Int) < (xs.length : Int) := by omega
  have hlt1 : 0 < xs.length := by omega
  obtain ⟨m, hm⟩ : ∃ m, xs.length * n = m := ⟨_, rfl⟩
  rw [hm] at H2
  have hm2 : m ≤ 8 * 16 := by rw [← hm]; exact Nat.mul_le_mul h4 h2
  have e1 : (xs.length : Int) * (n : Int) = (m : Nat) := by rw [← hm]; simp
  have e2 : IntKind.i64.wrap (m : Int) = (m : Nat) := by rw [IntKind.wrap_i64]; omega
  have HLL : Hid ((catL xs).length = m) := by show _ = _; rw [← hm]; exact catL_len hs
  clear hs hr hg hz h1 hcs hm
  by_cases q1 : long < 0
  · have HF : Hid (t = false) := by show _ = _; rw [← H2.out, decide_eq_false (by omega)]
    have HE : Hid (T = ByteArray.empty) := by show _ = _; rw [← HT.out]; unfold joinT; rw [Ht.out, HF.out]; rfl
    have d1 : decide (long < 0) = true := by simpa using q1
    go_enter Try.func72, Try.ntmps72
    go_wp2_with fail
    refine (ipieces_eq _ xs true HG.out _ HR.out).mono ?_
    rintro e w' ⟨rfl, hw⟩; obtain rfl := hw.symm
    go_wp2
    go_ret2
    exact ⟨by rw [HE.out, HF.out]; rfl, Below.refl _ _⟩
  have d1 : decide (long < 0) = false := by simpa using q1
  by_cases q2 : (m : Int) < long
  · have HF : Hid (t = false) := by show _ = _; rw [← H2.out, decide_eq_false (by omega)]
    have HE : Hid (T = ByteArray.empty) := by show _ = _; rw [← HT.out]; unfold joinT; rw [Ht.out, HF.out]; rfl
    have d2 : decide (long > (m : Int)) = true := by simpa using q2
    go_enter Try.func72, Try.ntmps72
    go_wp2_with fail
    refine (ipieces_eq _ xs true HG.out _ HR.out).mono ?_
    rintro e w' ⟨rfl, hw⟩; obtain rfl := hw.symm
    go_wp2
    go_ret2
    exact ⟨by rw [HE.out, HF.out]; rfl, Below.refl _ _⟩
  have d2 : decide (long > (m : Int)) = false := by simpa using q2
  obtain rfl : true = t := by rw [← H2.out, decide_eq_true (by omega)]
  obtain ⟨k, rfl⟩ := Int.eq_ofNat_of_zero_le (show 0 ≤ long by omega)
  have hkm : k ≤ m := by omega
  have HE : Hid (T = ⟨((catL xs).take k).toArray⟩) := by show _ = _; rw [← HT.out]; unfold joinT; rw [Ht.out, if_pos rfl]; rfl
  clear HT
  go_enter Try.func72, Try.ntmps72
  go_wp2_with fail
  refine (ipieces_eq _ xs true HG.out _ HR.out).mono ?_
  rintro e w' ⟨rfl, hw⟩; obtain rfl := hw.symm
  go_wp2_with fail
  refine (ijoins_any _ xs n _ HR.out h3 h4 h2 HN.out).mono ?_
  rintro e w1 ⟨rfl, b1⟩
  have hx := extract_list (catL xs) k (by rw [HLL.out]; exact hkm)
  have hszz : (⟨(catL xs).toArray⟩ : ByteArray).size = m := by rw [← HLL.out]; show (catL xs).toArray.size = _; simp
  have hTs : T.size ≤ 128 := by
    rw [HE.out]
    show ((catL xs).take k).toArray.size ≤ _
    simp
    omega
  obtain ⟨S, hS⟩ : ∃ S : ByteArray, S = ⟨(catL xs).toArray⟩ := ⟨_, rfl⟩
  rw [← hS] at hx hszz ⊢
  rw [← HE.out] at hx
  clear hS
  have g1 : (k : Int) ≤ (S.size : Int) := by omega
  have g2 : k ≤ S.size := by omega
  have g3 : (0 : Int) ≤ (k : Int) := by omega
  clear hszz
  go_wp2_with fail
  refine (clone_any T _ (by omega)).mono ?_
  rintro e w2 ⟨rfl, b2⟩
  go_wp2
  go_ret2
  exact ⟨rfl, b1.trans (b2.mono b1.size)⟩
end Go.Proofs.Ytijojdempijhbad
