/-
  impl.wrongWay, impl.goodWays: whether ways are as the document says. Nothing old is written.
-/
import Derived.Test.YtflhlinkolbbiaeWyFns
namespace Go.Proofs.Ytflhlinkolbbiae
open Go.RowKit

abbrev wrongWV : Value := .func (.func 118) #[] #[]
set_option maxHeartbeats 2000000 in
theorem wrongWay_eq (x : WyEl) (t : Bool) (h : wayB x = t) (w : World) : Calls Try.prog 118 #[.agg #[.int .i64 x.1, .int .i64 x.2]] w fun e w' => e = .returned (.bool (!t)) ∧ Below w.heap.size w w' := by
  obtain ⟨p, q⟩ := x
  have HT : Hid ((decide (0 ≤ p ∧ p ≤ 100) && decide (1 ≤ q ∧ q ≤ 20)) = t) := h
  clear h
  by_cases h1 : p < 0
  · have HV : Hid (t = false) := by show _ = _; rw [← HT.out, decide_eq_false (p := 0 ≤ p ∧ p ≤ 100) (by omega)]; rfl
    have d1 : decide (p < 0) = true := by simpa using h1
    clear HT
    go_enter Try.func118, Try.ntmps118
    go_wp2
    go_ret
    exact ⟨by rw [HV.out]; rfl, by go_grown⟩
  have d1 : decide (p < 0) = false := by simpa using h1
  by_cases h2 : 100 < p
  · have HV : Hid (t = false) := by show _ = _; rw [← HT.out, decide_eq_false (p := 0 ≤ p ∧ p ≤ 100) (by omega)]; rfl
    have d2 : decide (100 < p) = true := by simpa using h2
    clear HT
    go_enter Try.func118, Try.ntmps118
    go_wp2
    go_ret
    exact ⟨by rw [HV.out]; rfl, by go_grown⟩
  have d2 : decide (100 < p) = false := by simpa using h2
  by_cases h3 : q < 1
  · have HV : Hid (t = false) := by show _ = _; rw [← HT.out, decide_eq_false (p := 1 ≤ q ∧ q ≤ 20) (by omega)]; simp
    have d3 : decide (q < 1) = true := by simpa using h3
    clear HT
    go_enter Try.func118, Try.ntmps118
    go_wp2
    go_ret
    exact ⟨by rw [HV.out]; rfl, by go_grown⟩
  have d3 : decide (q < 1) = false := by simpa using h3
  by_cases h4 : 20 < q
  · have HV : Hid (t = false) := by show _ = _; rw [← HT.out, decide_eq_false (p := 1 ≤ q ∧ q ≤ 20) (by omega)]; simp
    have d4 : decide (20 < q) = true := by simpa using h4
    clear HT
    go_enter Try.func118, Try.ntmps118
    go_wp2
    go_ret
    exact ⟨by rw [HV.out]; rfl, by go_grown⟩
  have d4 : decide (20 < q) = false := by simpa using h4
  have HV : Hid (t = true) := by show _ = _; rw [← HT.out, decide_eq_true (p := 0 ≤ p ∧ p ≤ 100) (by omega), decide_eq_true (p := 1 ≤ q ∧ q ≤ 20) (by omega)]; rfl
  clear HT
  go_enter Try.func118, Try.ntmps118
  go_wp2
  go_ret
  exact ⟨by rw [HV.out]; rfl, by go_grown⟩
/-- slices.IndexFunc with wrongWay: below 0 just where all are good. -/
theorem windex_any (v : Value) (xs : List WyEl) (w : World) (hr : WyReads w v xs) :
    Calls Try.prog 127 #[v, wrongWV] w fun e w' => ∃ r : Int, e = .returned (.int .i64 r) ∧ decide (0 ≤ r) = !(xs.all wayB) ∧ Below w.heap.size w w' := by
  have HR := hid hr
  obtain ⟨a, cap, rfl, hl, _⟩ := hr
  go_enter Try.func127, Try.ntmps127
  go_wp2
  go_loopw [8] (fun i wr => ∃ k : Nat, k ≤ xs.length ∧ i = .int .i64 k ∧ (xs.take k).all wayB = true ∧ Below w.heap.size w wr) (fun i _ => xs.length - (intOf i).toNat)
  case atStart => exact ⟨0, Nat.zero_le _, rfl, rfl, Below.refl _ _⟩
  case round =>
    obtain ⟨k, hk, rfl, hall, hbel⟩ := hrel
    have HL := hid hall
    have HB := hid hbel
    clear hall hbel
    by_cases hlt : k < xs.length
    · obtain ⟨g, o, cap', e, hc⟩ := (HR.out.below HB.out).cells k hlt
      cases e
      obtain ⟨x, hx0⟩ : ∃ x, x = xs.getD k (0, 0) := ⟨_, rfl⟩
      have hck := hc k hlt
      rw [← hx0] at hck
      obtain ⟨c0, c1⟩ := hck
      obtain ⟨b, hb⟩ : ∃ b, wayB (xs.getD k (0, 0)) = b := ⟨_, rfl⟩
      have HK := hid hb
      have HKX : Hid (wayB x = b) := by rw [hx0]; exact hb
      have HS : Hid ((xs.take (k + 1)).all wayB = b) := by show _ = _; rw [wall_take xs k hlt, HL.out, hb, Bool.true_and]
      clear hc hb hx0
      go_wp2_with fail
      refine (wrongWay_eq x b HKX.out _).mono ?_
      rintro e w2 ⟨rfl, b2⟩
      have B2 : Hid (Below w.heap.size w w2) := HB.out.trans (b2.mono HB.out.size)
      clear b2
      cases b
      · have hv : Hid (xs.all wayB = false) := wall_false k hlt HK.out
        go_wp2
        go_ret
        exact ⟨_, rfl, by rw [hv.out]; simp, B2.out⟩
      · go_wp2
        go_roundw
        case rel => exact ⟨k + 1, by omega, by go_num, HS.out, B2.out⟩
        case measure => simp [intOf]; omega
    · have hv : Hid (xs.all wayB = true) := by show _ = _; have := HL.out; rw [List.take_of_length_le (by omega)] at this; exact this
      go_wp2
      go_ret
      exact ⟨_, rfl, by rw [hv.out]; rfl, HB.out⟩
theorem wcontains_any (v : Value) (xs : List WyEl) (t : Bool) (ht : xs.all wayB = t) (w : World) (hr : WyReads w v xs) :
    Calls Try.prog 117 #[v, wrongWV] w fun e w' => e = .returned (.bool (!t)) ∧ Below w.heap.size w w' := by
  have HR := hid hr
  have HT := hid ht
  clear hr ht
  go_enter Try.func117, Try.ntmps117
  go_wp2_with fail
  refine (windex_any v xs _ HR.out).mono ?_
  rintro e w2 ⟨r, rfl, hd, b2⟩
  rw [HT.out] at hd
  have B2 := hid b2
  clear b2
  go_wp2
  go_ret
  exact ⟨by rw [← hd]; rfl, B2.out⟩

set_option maxHeartbeats 2000000 in
theorem iways_eq (v : Value) (xs : List WyEl) (t : Bool) (h : wyB xs = t) (w : World) (hr : WyReads w v xs) :
    Calls Try.prog 87 #[v] w fun e w' => e = .returned (.bool t) ∧ Below w.heap.size w w' := by
  have HT : Hid ((xs.all wayB && decide (1 ≤ xs.length ∧ xs.length ≤ 4)) = t) := h
  clear h
  have HR := hid hr
  obtain ⟨a, cap, rfl, _, _⟩ := hr
  by_cases h1 : 1 ≤ xs.length
  rotate_left
  · have hv : Hid (t = false) := by show _ = _; rw [← HT.out, decide_eq_false (by omega)]; cases xs.all wayB <;> rfl
    have d1 : decide ((1 : Int) ≤ (xs.length : Int)) = false := by simp; omega
    go_enter Try.func87, Try.ntmps87
    go_wp2
    go_ret
    exact ⟨by rw [hv.out]; rfl, Below.refl _ _⟩
  have d1 : decide ((1 : Int) ≤ (xs.length : Int)) = true := by simp; omega
  by_cases h4 : xs.length ≤ 4
  rotate_left
  · have hv : Hid (t = false) := by show _ = _; rw [← HT.out, decide_eq_false (by omega)]; cases xs.all wayB <;> rfl
    have d4 : decide ((xs.length : Int) ≤ 4) = false := by simp; omega
    go_enter Try.func87, Try.ntmps87
    go_wp2
    go_ret
    exact ⟨by rw [hv.out]; rfl, Below.refl _ _⟩
  have d4 : decide ((xs.length : Int) ≤ 4) = true := by simp; omega
  obtain ⟨b, hb⟩ : ∃ b, xs.all wayB = b := ⟨_, rfl⟩
  have HA : Hid (t = b) := by show _ = _; rw [← HT.out, hb, decide_eq_true (by omega)]; cases b <;> rfl
  have HB := hid hb
  clear hb
  go_enter Try.func87, Try.ntmps87
  go_wp2_with fail
  refine (wcontains_any _ xs b HB.out _ HR.out).mono ?_
  rintro e w2 ⟨rfl, b2⟩
  have B2 := hid b2
  clear b2
  go_wp2
  go_ret
  exact ⟨by rw [HA.out]; simp, B2.out⟩
end Go.Proofs.Ytflhlinkolbbiae
