/-
  spec.BestMany: the most that some mask has in time. Nothing old is written.
-/
import Derived.Test.YtpkngcamaahhdabSTask
import Derived.Test.YtpkngcamaahhdabSByEnd
import Derived.Test.YtpkngcamaahhdabBits
namespace Go.Proofs.Ytpkngcamaahhdab
open Go.RowKit

set_option maxHeartbeats 1000000 in
theorem sbest_no (v : Value) (xs : List TkEl) (w : World) (hr : TkReads w v xs) (hg : goodT xs = false) :
    Calls Try.prog 23 #[v] w fun e w' => e = .returned (.tuple #[.int .i64 0, .bool false]) ∧ Below w.heap.size w w' := by
  have HR := hid hr
  clear hr
  go_enter Try.func23, Try.ntmps23
  go_wp2_with fail
  refine (sgoodTasks_eq _ xs false hg _ HR.out).mono ?_
  rintro e w1 ⟨rfl, b1⟩
  have B1 := hid b1
  clear b1
  go_wp2
  go_ret2
  exact ⟨rfl, B1.out⟩
theorem run_in {xs : List TkEl} (hg : goodT xs = true) (m : Nat) : ∀ E : List Nat, (∀ k, k ∈ E → k < xs.length) → (runR (needT xs) (endT xs) m E).1 ≤ E.length ∧ 0 ≤ (runR (needT xs) (endT xs) m E).2.1 ∧ (runR (needT xs) (endT xs) m E).2.1 ≤ 20 * E.length
  | [], _ => by simp [runR]
  | x :: E, h => by
    obtain ⟨h1, h2, h3⟩ := run_in hg m E fun k hk => h k (List.mem_cons_of_mem _ hk)
    have h4 := goodT_at hg x (h x (List.mem_cons_self ..))
    unfold runR
    split
    · simp only [List.length_cons]; omega
    · simp only [List.length_cons]; omega
theorem bit_at (m x : Nat) (hm : m ≤ 1024) : (bits .and .i64 ((m : Int) / 2 ^ x) 1 == 1) = m.testBit x := by
  have e : ((m : Int) / 2 ^ x) = ((m / 2 ^ x : Nat) : Int) := by simp
  have hlt : m / 2 ^ x < 9223372036854775808 := Nat.lt_of_le_of_lt (Nat.div_le_self _ _) (by omega)
  rw [e, show (1 : Int) = ((1 : Nat) : Int) from rfl, bits_and_i64 _ _ hlt (by omega), Nat.and_one_is_mod, Nat.testBit_eq_decide_div_mod_eq, Bool.eq_iff_iff]
  simp only [beq_iff_eq, decide_eq_true_eq]
  omega
/-- Behind the first i of an order. -/
def runU (xs : List TkEl) (m : Nat) (es : List Nat) (i : Nat) : Nat × Int × Bool := runR (needT xs) (endT xs) m (es.take i).reverse
theorem runU_succ (xs : List TkEl) (m : Nat) {es : List Nat} {i : Nat} (h : i < es.length) : runU xs m es (i + 1) = if m.testBit (es.getD i 0) = true then ((runU xs m es i).1 + 1, (runU xs m es i).2.1 + needT xs (es.getD i 0), (runU xs m es i).2.2 && decide ((runU xs m es i).2.1 + needT xs (es.getD i 0) ≤ endT xs (es.getD i 0))) else runU xs m es i := by
  unfold runU
  rw [take_next h, List.reverse_append]
  rfl
theorem bestU_succ (xs : List TkEl) (es : List Nat) (m : Nat) : bestU (needT xs) (endT xs) es (m + 1) = if (runU xs m es es.length).2.2 = true ∧ bestU (needT xs) (endT xs) es m < (runU xs m es es.length).1 then (runU xs m es es.length).1 else bestU (needT xs) (endT xs) es m := by
  unfold runU
  rw [List.take_length]
  rfl
set_option maxRecDepth 100000 in
set_option maxHeartbeats 8000000 in
theorem sbest_yes (v : Value) (xs : List TkEl) (w : World) (hr : TkReads w v xs) (hg : goodT xs = true) :
    Calls Try.prog 23 #[v] w fun e w' => e = .returned (.tuple #[.int .i64 (bestL xs : Nat), .bool true]) ∧ Below w.heap.size w w' := by
  have HR := hid hr
  have HG := hid hg
  have hlen := goodT_len hg
  obtain ⟨a, cap, rfl, _, _⟩ := hr
  clear hg
  go_enter Try.func23, Try.ntmps23
  go_wp2_with fail
  refine (sgoodTasks_eq _ xs true HG.out _ HR.out).mono ?_
  rintro e w1 ⟨rfl, b1⟩
  have B1 := hid b1
  clear b1
  go_wp2_with fail
  refine (sbyend_any _ xs _ (HR.out.below B1.out) HG.out).mono ?_
  rintro e w2 ⟨u, rfl, hown, hb2⟩
  have HO := hid hown.reads
  have B2 : Hid (Below w.heap.size w w2) := B1.out.trans (hb2.mono B1.out.size)
  have HBL : Hid ((ofN (byEndL xs)).length = xs.length) := by show _ = _; rw [ofN, List.length_map, byEndL, byEnd_len]
  have HBE : Hid ((byEndL xs).length = xs.length) := by show _ = _; rw [byEndL, byEnd_len]
  obtain ⟨a1, cap1, e1, _, _⟩ := hown.reads
  rw [HBL.out] at e1
  subst e1
  clear hown hb2
  obtain ⟨N, hN⟩ : ∃ N : Nat, N = 2 ^ xs.length := ⟨_, rfl⟩
  have hN2 : N ≤ 1024 := by rw [hN]; exact Nat.le_trans (Nat.pow_le_pow_right (by omega) hlen) (by decide)
  have hsh : wrap64 ((2 : Int) ^ xs.length) = (N : Int) := by
    have e : ((2 : Int) ^ xs.length) = (N : Int) := by rw [hN]; simp
    rw [e]
    unfold wrap64
    omega
  have HBV : Hid (bestL xs = bestU (needT xs) (endT xs) (byEndL xs) N) := by show _ = _; rw [hN]; rfl
  clear hN
  go_wp2
  go_loopw [5, 6] (fun b s wr => ∃ m : Nat, m ≤ N ∧ s = .int .i64 m ∧ b = .int .i64 (bestU (needT xs) (endT xs) (byEndL xs) m : Nat) ∧ w2 = wr) (fun _ s _ => N - (intOf s).toNat)
  case atStart => exact ⟨0, Nat.zero_le _, rfl, rfl, rfl⟩
  case round =>
    obtain ⟨m, hm, rfl, rfl, rfl⟩ := hrel
    by_cases hlt : m < N
    · have HBS := hid (bestU_succ xs (byEndL xs) m)
      obtain ⟨bb, hbb⟩ : ∃ bb, bb = bestU (needT xs) (endT xs) (byEndL xs) m := ⟨_, rfl⟩
      rw [← hbb] at HBS ⊢
      have hbn : bb ≤ 1024 := by
        rw [hbb]
        refine Nat.le_trans (bestU_le _ _ _ xs.length ?_ m) (by omega)
        intro m' _
        have := (run_in HG.out m' (byEndL xs).reverse (fun j hj => by rw [List.mem_reverse] at hj; exact byEnd_lt _ _ hj)).1
        rw [List.length_reverse, HBE.out] at this
        exact this
      clear hbb
      go_wp2
      go_loopw [7, 8, 9, 27] (fun n t o i wz => ∃ k : Nat, k ≤ xs.length ∧ i = .int .i64 k ∧ n = .int .i64 ((runU xs m (byEndL xs) k).1 : Nat) ∧ t = .int .i64 (runU xs m (byEndL xs) k).2.1 ∧ o = .bool (runU xs m (byEndL xs) k).2.2 ∧ w2 = wz) (fun _ _ _ i _ => xs.length - (intOf i).toNat)
      case atStart => exact ⟨0, Nat.zero_le _, rfl, rfl, rfl, rfl, rfl⟩
      case round =>
        obtain ⟨k, hk, rfl, rfl, rfl, rfl, rfl⟩ := hrel
        by_cases hkl : k < xs.length
        · obtain ⟨g1, o1, capx, e, hd⟩ := HO.out.cells k (by rw [HBL.out]; exact hkl)
          rw [HBL.out] at e
          cases e
          obtain ⟨x, hx⟩ : ∃ x, x = (byEndL xs).getD k 0 := ⟨_, rfl⟩
          have hkb : k < (byEndL xs).length := by rw [HBE.out]; exact hkl
          have hxl : x < xs.length := by rw [hx]; exact byEnd_lt _ _ (getD_mem hkb)
          have d0 : w2.cell? ⟨g1, o1 + k, none⟩ = some (.int .i64 (x : Nat)) := by
            have := hd k (by rw [HBL.out]; exact hkl)
            rw [ofN_get hkb, ← hx] at this
            exact this
          obtain ⟨g, o, cap', e, hc⟩ := (HR.out.below B2.out).cells x hxl
          cases e
          obtain ⟨c0, c1⟩ := hc x hxl
          have c0' : w2.cell? ⟨g, o + x * 2, none⟩ = some (.int .i64 (needT xs x)) := c0
          have c1' : w2.cell? ⟨g, o + x * 2 + 1, none⟩ = some (.int .i64 (endT xs x)) := c1
          have HRS := hid (runU_succ xs m hkb)
          rw [← hx] at HRS
          have hrb := run_in HG.out m ((byEndL xs).take k).reverse (fun j hj => by rw [List.mem_reverse] at hj; exact byEnd_lt _ _ (List.mem_of_mem_take hj))
          change (runU xs m (byEndL xs) k).1 ≤ _ ∧ 0 ≤ (runU xs m (byEndL xs) k).2.1 ∧ (runU xs m (byEndL xs) k).2.1 ≤ _ at hrb
          have hlt2 : ((byEndL xs).take k).reverse.length ≤ 10 := by rw [List.length_reverse, List.length_take]; omega
          obtain ⟨n, t, ok, hrun⟩ : ∃ n t ok, runU xs m (byEndL xs) k = (n, t, ok) := ⟨_, _, _, rfl⟩
          rw [hrun] at HRS hrb ⊢
          have hnd := goodT_at HG.out x hxl
          obtain ⟨p, hp⟩ : ∃ p, p = needT xs x := ⟨_, rfl⟩
          obtain ⟨q, hq⟩ : ∃ q, q = endT xs x := ⟨_, rfl⟩
          rw [← hp] at c0' HRS hnd
          rw [← hq] at c1' HRS hnd
          have hb1 : n ≤ 10 := by have := hrb.1; simp only at this; omega
          have hb2 : 0 ≤ t ∧ t ≤ 200 := by have := hrb.2; simp only at this; omega
          clear hd hc c0 c1 hx hp hq hrb hrun hlt2
          simp only at HRS ⊢
          have hbit := bit_at m x (by omega)
          have hw1 : IntKind.i64.wrap ((n : Int) + 1) = ((n + 1 : Nat) : Int) := by rw [IntKind.wrap_i64]; omega
          have hw2 : IntKind.i64.wrap (t + p) = t + p := by rw [IntKind.wrap_i64]; omega
          cases hb : m.testBit x
          · have HRS' : Hid (runU xs m (byEndL xs) (k + 1) = (n, t, ok)) := by
              show _ = _
              rw [HRS.out, hb]
              rfl
            rw [hb] at hbit
            clear HRS hb
            go_wp2
            go_roundw
            case rel => exact ⟨k + 1, by omega, by go_num, by rw [HRS'.out], by rw [HRS'.out], by rw [HRS'.out], by first | rfl | trivial⟩
            case measure => simp [intOf]; omega
          · rw [hb] at hbit
            by_cases htq : t + p ≤ q
            · have hdt : decide (t + p ≤ q) = true := by simpa using htq
              have HRS' : Hid (runU xs m (byEndL xs) (k + 1) = (n + 1, t + p, ok)) := by
                show _ = _
                rw [HRS.out, if_pos hb, hdt, Bool.and_true]
              clear HRS hb htq
              cases ok
              all_goals
                go_wp2
                go_roundw
                case rel => exact ⟨k + 1, by omega, by go_num, by rw [HRS'.out]; simp, by rw [HRS'.out], by rw [HRS'.out], by first | rfl | trivial⟩
                case measure => simp [intOf]; omega
            · have hdt : decide (t + p ≤ q) = false := by simpa using htq
              have HRS' : Hid (runU xs m (byEndL xs) (k + 1) = (n + 1, t + p, false)) := by
                show _ = _
                rw [HRS.out, if_pos hb, hdt, Bool.and_false]
              clear HRS hb htq
              cases ok
              all_goals
                go_wp2
                go_roundw
                case rel => exact ⟨k + 1, by omega, by go_num, by rw [HRS'.out]; simp, by rw [HRS'.out], by rw [HRS'.out], by first | rfl | trivial⟩
                case measure => simp [intOf]; omega
        · obtain rfl : k = xs.length := by omega
          have hw3 : IntKind.i64.wrap ((m : Int) + 1) = ((m + 1 : Nat) : Int) := by rw [IntKind.wrap_i64]; omega
          rw [HBE.out] at HBS
          obtain ⟨n, t, ok, hrun⟩ : ∃ n t ok, runU xs m (byEndL xs) xs.length = (n, t, ok) := ⟨_, _, _, rfl⟩
          rw [hrun] at HBS ⊢
          simp only at HBS ⊢
          clear hrun
          by_cases hcc : ok = true ∧ bb < n
          · obtain ⟨rfl, hbn2⟩ := hcc
            have HBS' : Hid (bestU (needT xs) (endT xs) (byEndL xs) (m + 1) = n) := by show _ = _; rw [HBS.out, if_pos ⟨rfl, hbn2⟩]
            have hd : decide ((n : Int) > (bb : Int)) = true := by simp; omega
            clear HBS
            go_wp2
            go_roundw
            case rel => exact ⟨m + 1, by omega, by go_num, by rw [HBS'.out], by first | rfl | trivial⟩
            case measure => simp [intOf]; omega
          · have HBS' : Hid (bestU (needT xs) (endT xs) (byEndL xs) (m + 1) = bb) := by show _ = _; rw [HBS.out, if_neg hcc]
            clear HBS
            cases ok
            · clear hcc
              go_wp2
              go_roundw
              case rel => exact ⟨m + 1, by omega, by go_num, by rw [HBS'.out], by first | rfl | trivial⟩
              case measure => simp [intOf]; omega
            · have hbn3 : n ≤ bb := Nat.le_of_not_lt fun h => hcc ⟨rfl, h⟩
              have hd : decide ((n : Int) > (bb : Int)) = false := by simp; omega
              clear hcc
              go_wp2
              go_roundw
              case rel => exact ⟨m + 1, by omega, by go_num, by rw [HBS'.out], by first | rfl | trivial⟩
              case measure => simp [intOf]; omega
    · obtain rfl : m = N := by omega
      go_wp2
      go_ret2
      exact ⟨by rw [HBV.out]; rfl, B2.out⟩
end Go.Proofs.Ytpkngcamaahhdab
