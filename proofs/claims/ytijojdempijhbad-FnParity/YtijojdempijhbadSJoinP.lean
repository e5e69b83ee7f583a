/-
  spec.JoinPieces: the first bytes of pieces together, or the zero answer. Nothing is written.
-/
import Derived.Test.YtijojdempijhbadSIn
import Derived.Test.YtijojdempijhbadJnMath
import Derived.Laws.Concat
namespace Go.Proofs.Ytijojdempijhbad
open Go.RowKit

set_option maxHeartbeats 4000000 in
theorem sjoinp_any (v : Value) (xs : List XEl) (long : Int) (T : ByteArray) (t : Bool) (hT : joinT xs long = T) (ht : joinB xs long = t) (w : World) (hr : XReads w v xs) :
    Calls Try.prog 73 #[v, .int .i64 long] w fun e w' => e = .returned (.tuple #[.string T, .bool t]) ∧ Below w.heap.size w w' := by
  have HR := hid hr
  have HT := hid hT
  have Ht := hid ht
  clear hT ht
  obtain ⟨gd, hg⟩ : ∃ g, goodP xs = g := ⟨_, rfl⟩
  have HG := hid hg
  cases gd
  · have HF : Hid (t = false) := by show _ = _; rw [← Ht.out]; unfold joinB; rw [hg]; rfl
    have HE : Hid (T = ByteArray.empty) := by show _ = _; rw [← HT.out]; unfold joinT; rw [Ht.out, HF.out]; rfl
    clear hr hg
    go_enter Try.func73, Try.ntmps73
    go_wp2_with fail
    refine (spieces_eq _ xs false HG.out _ HR.out).mono ?_
    rintro e w' ⟨rfl, hw⟩; obtain rfl := hw.symm
    go_wp2
    go_ret2
    exact ⟨by rw [HE.out, HF.out]; rfl, Below.refl _ _⟩
  obtain ⟨n, h1, h2, h3, h4, hs⟩ := goodP_parts hg
  have HN := hid hs
  obtain ⟨b, off, cap, rfl, hcs⟩ := hr.cells 0 h3
  have HC := hid hcs
  have c1 : w.cell? ⟨b, off, none⟩ = some (.string (xs.getD 0 xz)) := hcs 0 h3
  have H2 : Hid (decide (0 ≤ long ∧ long ≤ ((xs.length * n : Nat) : Int)) = t) := by
    show _ = _
    rw [← Ht.out]
    unfold joinB
    rw [hg, h1, Bool.true_and, decide_eq_decide]
    simp
  obtain ⟨z, hz⟩ : ∃ z, xs.getD 0 xz = z := ⟨_, rfl⟩
  rw [hz] at c1 h1
  have hzi : (z.size : Int) = (n : Int) := by rw [h1]
  have hlt0 : (0 : Int) < (xs.length : Int) := by omega
  have hlt1 : 0 < xs.length := by omega
  obtain ⟨m, hm⟩ : ∃ m, xs.length * n = m := ⟨_, rfl⟩
  rw [hm] at H2
  have hm2 : m ≤ 8 * 16 := by rw [← hm]; exact Nat.mul_le_mul h4 h2
  have e1 : (xs.length : Int) * (n : Int) = (m : Nat) := by rw [← hm]; simp
  have e2 : IntKind.i64.wrap (m : Int) = (m : Nat) := by rw [IntKind.wrap_i64]; omega
  have HLL : Hid ((catL xs).length = m) := by show _ = _; rw [← hm]; exact catL_len hs
  have HM := hid hm
  clear hs hr hg hz h1 hcs hm
  cases t
  · have HE : Hid (T = ByteArray.empty) := by show _ = _; rw [← HT.out]; unfold joinT; rw [Ht.out]; rfl
    go_enter Try.func73, Try.ntmps73
    go_wp2_with fail
    refine (spieces_eq _ xs true HG.out _ HR.out).mono ?_
    rintro e w' ⟨rfl, hw⟩; obtain rfl := hw.symm
    go_wp2_with fail
    refine (l1In_eq long 0 m false H2.out _).mono ?_
    rintro e w' ⟨rfl, hw⟩; obtain rfl := hw.symm
    go_wp2
    go_ret2
    exact ⟨by rw [HE.out]; rfl, Below.refl _ _⟩
  have hl := of_decide_eq_true H2.out
  obtain ⟨k, rfl⟩ := Int.eq_ofNat_of_zero_le hl.1
  have hkm : k ≤ m := by omega
  have HE : Hid (T = ⟨((catL xs).take k).toArray⟩) := by show _ = _; rw [← HT.out]; unfold joinT; rw [Ht.out, if_pos rfl]; rfl
  clear hl HT
  go_enter Try.func73, Try.ntmps73
  go_wp2_with fail
  refine (spieces_eq _ xs true HG.out _ HR.out).mono ?_
  rintro e w' ⟨rfl, hw⟩; obtain rfl := hw.symm
  go_wp2_with fail
  refine (l1In_eq k 0 m true H2.out _).mono ?_
  rintro e w' ⟨rfl, hw⟩; obtain rfl := hw.symm
  go_wp2
  go_loopw [6, 26] (fun sv iv wr => ∃ i : Nat, i ≤ xs.length ∧ iv = .int .i64 (i : Nat) ∧ sv = .string ⟨(catL (xs.take i)).toArray⟩ ∧ w = wr) (fun _ iv _ => xs.length - (intOf iv).toNat)
  case atStart => exact ⟨0, Nat.zero_le _, rfl, rfl, rfl⟩
  case round =>
    obtain ⟨i, hi, rfl, rfl, rfl⟩ := hrel
    by_cases hlt : i < xs.length
    · have c0 : _ = _ := HC.out i hlt
      have HTk := hid (catL_take xs i hlt)
      have hsz : (xs.getD i xz).size = n := HN.out _ (by simp [List.getD_eq_getElem?_getD, hlt])
      have hcl := catL_len_take HN.out (Nat.le_of_lt hlt)
      have hle : i * n ≤ 8 * 16 := Nat.mul_le_mul (by omega) h2
      obtain ⟨l, hl⟩ : ∃ l, catL (xs.take i) = l := ⟨_, rfl⟩
      obtain ⟨s, hs⟩ : ∃ s, xs.getD i xz = s := ⟨_, rfl⟩
      rw [hs] at c0 HTk hsz
      rw [hl] at HTk hcl ⊢
      have hll : (⟨l.toArray⟩ : ByteArray).size = l.length := by show l.toArray.size = _; simp
      have hadd := run_string_add_sum (P := Try.prog) w ⟨l.toArray⟩ s (by rw [hll]; omega)
      have happ : (⟨l.toArray⟩ : ByteArray) ++ s = ⟨(l ++ s.data.toList).toArray⟩ := by
        obtain ⟨d⟩ := s
        rw [ByteArray.mk_append_mk]
      rw [happ, ← HTk.out] at hadd
      have hltd : (i : Int) < (xs.length : Int) := by omega
      clear hs hl happ hll hcl hsz
      go_wp2
      go_roundw
      case rel => exact ⟨i + 1, by omega, by go_num, rfl, trivial⟩
      case measure => simp [intOf]; omega
    · obtain rfl : i = xs.length := by omega
      rw [List.take_length]
      have hx := extract_list (catL xs) k (by rw [HLL.out]; exact hkm)
      have hszz : (⟨(catL xs).toArray⟩ : ByteArray).size = m := by rw [← HLL.out]; show (catL xs).toArray.size = _; simp
      obtain ⟨S, hS⟩ : ∃ S : ByteArray, S = ⟨(catL xs).toArray⟩ := ⟨_, rfl⟩
      rw [← hS] at hx hszz ⊢
      rw [← HE.out] at hx
      clear hS
      have g1 : (k : Int) ≤ (S.size : Int) := by omega
      have g2 : k ≤ S.size := by omega
      have g3 : (0 : Int) ≤ (k : Int) := by omega
      clear hszz
      go_wp2
      go_ret2
      exact ⟨rfl, Below.refl _ _⟩
end Go.Proofs.Ytijojdempijhbad
