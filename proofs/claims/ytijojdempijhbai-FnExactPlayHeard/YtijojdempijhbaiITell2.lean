/-
  impl.ifNotTooMany: spans, where they are not too many; the world stays. Both ways in one form too.
  impl.JoinSpans: what is told of good spans, in memory of its own; nothing old is written.
-/
import Derived.Test.YtijojdempijhbaiSpans
import Derived.Test.YtijojdempijhbaiSCloneM
import Derived.Test.YtijojdempijhbaiJoinMath
import Derived.Test.YtijojdempijhbaiLenFacts
import Derived.Test.YtijojdempijhbaiSpanOk
import Derived.Test.YtijojdempijhbaiCutMath
import Derived.Test.YtijojdempijhbaiSpanTake
namespace Go.Proofs.Ytijojdempijhbai
open Go.RowKit
set_option maxRecDepth 100000

theorem itell_yes (v : Value) (xs : List Sp) (w : World) (hr : SReads w v xs) (h : xs.length ≤ 20) : Calls Try.prog 39 #[v] w fun e w' => e = .returned (.tuple #[v, .bool true]) ∧ w' = w := by
  obtain ⟨a, cap, rfl, _, _⟩ := hr
  go_enter Try.func39, Try.ntmps39
  go_wp2
  go_ret2
  exact ⟨rfl, rfl⟩
theorem itell_no (v : Value) (xs : List Sp) (w : World) (hr : SReads w v xs) (h : ¬ xs.length ≤ 20) : Calls Try.prog 39 #[v] w fun e w' => e = .returned (.tuple #[.slice none 0 0, .bool false]) ∧ w' = w := by
  obtain ⟨a, cap, rfl, _, _⟩ := hr
  go_enter Try.func39, Try.ntmps39
  go_wp2
  go_ret2
  exact ⟨rfl, rfl⟩
def tellY (l : List Sp) : List Sp := if l.length ≤ 20 then l else []
def tellB (l : List Sp) : Bool := decide (l.length ≤ 20)
theorem tellY_len (l : List Sp) : (tellY l).length ≤ 20 := by
  unfold tellY
  split
  · assumption
  · simp
theorem itell_own (base : Nat) (v : Value) (xs : List Sp) (w : World) (ho : SOwn base w v xs) : Calls Try.prog 39 #[v] w fun e w' => ∃ v', e = .returned (.tuple #[v', .bool (tellB xs)]) ∧ SOwn base w v' (tellY xs) ∧ w' = w := by
  by_cases h : xs.length ≤ 20
  · refine (itell_yes v xs w ho.reads h).mono fun e w' he => ⟨v, ?_, ?_, he.2⟩
    · rw [he.1]; simp [tellB, h]
    · unfold tellY; rw [if_pos h]; exact ho
  · refine (itell_no v xs w ho.reads h).mono fun e w' he => ⟨.slice none 0 0, ?_, ?_, he.2⟩
    · rw [he.1]; simp [tellB, h]
    · unfold tellY; rw [if_neg h]; exact sown_nil _ _ _
end Go.Proofs.Ytijojdempijhbai
namespace Go.Proofs.Ytijojdempijhbai
open Go.RowKit
set_option maxRecDepth 100000

theorem joinL_snoc (a b : List Sp) (x : Sp) : joinL a (b ++ [x]) = addL (joinL a b) x := by
  induction b generalizing a with
  | nil => rfl
  | cons y b ih => exact ih _
theorem joinL_take (a b : List Sp) (k : Nat) (hk : k < b.length) : joinL a (b.take (k + 1)) = addL (joinL a (b.take k)) (b.getD k (0, 0)) := by
  rw [List.take_succ_eq_append_getElem hk, joinL_snoc]
  simp [List.getD_eq_getElem?_getD, hk]
theorem sown_of_clone {w w' : World} {v : Value} {xs : List Sp} (h : (xs = [] ∧ ∃ a, v = .slice a 0 0) ∨ (xs ≠ [] ∧ w'.ownsRow w.heap.size 51 2 v xs.length (flat xs))) (hx : xs.length ≤ 1048576) : SOwn w.heap.size w' v xs := by
  rcases h with ⟨rfl, a, rfl⟩ | ⟨_, h⟩
  · exact sown_nil _ _ _
  · exact SOwn.of_owns h (by omega)

set_option maxHeartbeats 2000000 in
theorem ijoin_good (va vb : Value) (xs ys : List Sp) (w : World) (ha : SReads w va xs) (hb : SReads w vb ys) (ga : goodL xs = true) (gb : goodL ys = true) :
    Calls Try.prog 67 #[va, vb] w fun e w' => ∃ v', e = .returned (.tuple #[v', .bool (tellB (joinL xs ys))]) ∧ SOwn w.heap.size w' v' (tellY (joinL xs ys)) ∧ Below w.heap.size w w' := by
  have HA := hid ha
  have HB := hid hb
  have CA := hid (good_chain ga)
  have CB := hid (good_chain gb)
  have la := good_len ga
  have lb := good_len gb
  obtain ⟨b, cap, rfl, _, _⟩ := hb
  clear ha
  go_enter Try.func67, Try.ntmps67
  go_wp2_with fail
  refine (igood_any va xs _ HA.out).mono ?_
  rintro e w1 ⟨rfl, b1⟩
  have B1 := hid b1
  clear b1
  rw [ga]
  go_wp2_with fail
  refine (igood_any _ ys _ (HB.out.below B1.out)).mono ?_
  rintro e w2 ⟨rfl, b2⟩
  have B2 : Hid (Below w.heap.size w w2) := B1.out.trans (b2.mono B1.out.size)
  clear b2 B1
  rw [gb]
  go_wp2_with fail
  refine (clone_any va xs w2 (HA.out.below B2.out) (by omega)).mono ?_
  rintro e w3 ⟨v3, rfl, b3, h3⟩
  have O3 := hid ((sown_of_clone h3 (by omega)).mono B2.out.size)
  have B3 : Hid (Below w.heap.size w w3) := B2.out.trans (b3.mono B2.out.size)
  clear b3 h3 B2
  go_wp2
  go_loopw [6, 21] (fun o i wr => ∃ k : Nat, k ≤ ys.length ∧ i = .int .i64 k ∧ SOwn w.heap.size wr o (joinL xs (ys.take k)) ∧ Below w.heap.size w wr) (fun _ i _ => ys.length - (intOf i).toNat)
  case atStart => exact ⟨0, Nat.zero_le _, rfl, O3.out, B3.out⟩
  case round =>
    obtain ⟨k, hk, rfl, hown, hbel⟩ := hrel
    have HO := hid hown
    have HB' := hid hbel
    clear hown hbel
    by_cases hlt : k < ys.length
    · obtain ⟨ga, oa, cap', e, hca⟩ := sreads_cells (HB.out.below HB'.out) k hlt
      cases e
      have c1 := (hca k hlt).1
      have c2 := (hca k hlt).2
      have HX : Hid (addL (joinL xs (ys.take k)) ((ys.getD k (0, 0)).1, (ys.getD k (0, 0)).2) = joinL xs (ys.take (k + 1))) := (joinL_take xs ys k hlt).symm
      have HCJ := hid (joinL_chain CA.out (chain_take CB.out k))
      clear hca
      generalize (ys.getD k (0, 0)).1 = p at c1 HX
      generalize (ys.getD k (0, 0)).2 = q at c2 HX
      go_wp2_with fail
      refine (joined_any _ (joinL xs (ys.take k)) p q _ (HO.out.below ?hb).reads HCJ.out (chain_len' HCJ.out)).mono ?_
      case hb => go_grown
      rintro e w4 ⟨v4, rfl, o4, b4⟩
      rw [HX.out] at o4
      have O4 := hid (o4.mono (base' := w.heap.size) (by have := HB'.out.size; simp; omega))
      have B4 : Hid (Below w.heap.size w w4) := (HB'.out.alloc HB'.out.size _).trans (b4.mono (by have := HB'.out.size; simp; omega))
      clear o4 b4
      go_wp2
      go_roundw
      case rel => exact ⟨k + 1, by omega, by go_num, O4.out, B4.out⟩
      case measure => simp [intOf]; omega
    · have HO' : Hid (SOwn w.heap.size wr u6 (joinL xs ys)) := by
        have := HO.out
        rw [List.take_of_length_le (by omega)] at this
        exact this
      go_wp2_with fail
      refine (itell_own _ _ _ _ HO'.out).mono ?_
      rintro e w' ⟨v6, rfl, o6, hw⟩; obtain rfl := hw.symm
      have O6 := hid o6
      clear o6
      go_wp2
      go_ret2
      exact ⟨_, rfl, O6.out, HB'.out⟩

set_option maxHeartbeats 1000000 in
theorem ijoin_bad (va vb : Value) (xs ys : List Sp) (w : World) (ha : SReads w va xs) (hb : SReads w vb ys) (h : (goodL xs && goodL ys) = false) :
    Calls Try.prog 67 #[va, vb] w fun e w' => e = .returned (.tuple #[.slice none 0 0, .bool false]) ∧ Below w.heap.size w w' := by
  have HA := hid ha
  have HB := hid hb
  clear ha hb
  cases hg : goodL xs with
  | false =>
    clear h
    go_enter Try.func67, Try.ntmps67
    go_wp2_with fail
    refine (igood_any va xs _ HA.out).mono ?_
    rintro e w1 ⟨rfl, b1⟩
    have B1 := hid b1
    clear b1
    rw [hg]
    go_wp2
    go_ret2
    exact ⟨rfl, B1.out⟩
  | true =>
    have hx : goodL ys = false := by rw [hg, Bool.true_and] at h; exact h
    clear h
    go_enter Try.func67, Try.ntmps67
    go_wp2_with fail
    refine (igood_any va xs _ HA.out).mono ?_
    rintro e w1 ⟨rfl, b1⟩
    have B1 := hid b1
    clear b1
    rw [hg]
    go_wp2_with fail
    refine (igood_any _ ys _ (HB.out.below B1.out)).mono ?_
    rintro e w2 ⟨rfl, b2⟩
    have B2 : Hid (Below w.heap.size w w2) := B1.out.trans (b2.mono B1.out.size)
    clear b2 B1
    rw [hx]
    go_wp2
    go_ret2
    exact ⟨rfl, B2.out⟩

def joinY (xs ys : List Sp) : List Sp := if (goodL xs && goodL ys) = true then tellY (joinL xs ys) else []
def joinB (xs ys : List Sp) : Bool := (goodL xs && goodL ys) && tellB (joinL xs ys)
theorem ijoin_any (va vb : Value) (xs ys : List Sp) (w : World) (ha : SReads w va xs) (hb : SReads w vb ys) :
    Calls Try.prog 67 #[va, vb] w fun e w' => ∃ v', e = .returned (.tuple #[v', .bool (joinB xs ys)]) ∧ SOwn w.heap.size w' v' (joinY xs ys) ∧ Below w.heap.size w w' := by
  unfold joinY joinB
  cases h : (goodL xs && goodL ys) with
  | false => exact (ijoin_bad va vb xs ys w ha hb h).mono fun _ _ ⟨a, b⟩ => ⟨_, a, sown_nil _ _ _, b⟩
  | true =>
    have h' := h
    rw [Bool.and_eq_true] at h'
    exact ijoin_good va vb xs ys w ha hb h'.1 h'.2
end Go.Proofs.Ytijojdempijhbai
