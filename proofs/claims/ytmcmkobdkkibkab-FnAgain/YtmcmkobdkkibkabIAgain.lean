/-
  impl.wrongAgain, impl.GoodAgain: whether tasks are as the document says. Nothing old is written.
-/
import Derived.Test.YtmcmkobdkkibkabAgnLoad
namespace Go.Proofs.Ytmcmkobdkkibkab
open Go.RowKit

abbrev wrongAV : Value := .func (.func 96) #[] #[]
theorem iall_take' (l : List AgEl) (k : Nat) (hk : k < l.length) : (l.take (k + 1)).all againB = ((l.take k).all againB && againB (l.getD k (0, 0))) := by
  rw [List.take_succ_eq_append_getElem hk, List.all_append]
  simp [List.getD_eq_getElem?_getD, hk]
theorem iall_false' {l : List AgEl} (k : Nat) (hk : k < l.length) (h : againB (l.getD k (0, 0)) = false) : l.all againB = false := by
  rw [← Bool.not_eq_true, List.all_eq_true]
  intro hh
  have := hh (l.getD k (0, 0)) (by simp [List.getD_eq_getElem?_getD, hk])
  rw [h] at this
  cases this
set_option maxHeartbeats 2000000 in
theorem wrongAgain_eq (x : AgEl) (t : Bool) (h : againB x = t) (w : World) : Calls Try.prog 96 #[.agg #[.int .i64 x.1, .int .i64 x.2]] w fun e w' => e = .returned (.bool (!t)) ∧ Below w.heap.size w w' := by
  obtain ⟨p, q⟩ := x
  have HT : Hid ((decide (1 ≤ p ∧ p ≤ 10) && decide (p ≤ q ∧ q ≤ 40)) = t) := h
  clear h
  by_cases h1 : p < 1
  · have HV : Hid (t = false) := by show _ = _; rw [← HT.out, decide_eq_false (p := 1 ≤ p ∧ p ≤ 10) (by omega)]; rfl
    have d1 : decide (p < 1) = true := by simpa using h1
    clear HT
    go_enter Try.func96, Try.ntmps96
    go_wp2
    go_ret
    exact ⟨by rw [HV.out]; rfl, by go_grown⟩
  have d1 : decide (p < 1) = false := by simpa using h1
  by_cases h2 : 10 < p
  · have HV : Hid (t = false) := by show _ = _; rw [← HT.out, decide_eq_false (p := 1 ≤ p ∧ p ≤ 10) (by omega)]; rfl
    have d2 : decide (10 < p) = true := by simpa using h2
    clear HT
    go_enter Try.func96, Try.ntmps96
    go_wp2
    go_ret
    exact ⟨by rw [HV.out]; rfl, by go_grown⟩
  have d2 : decide (10 < p) = false := by simpa using h2
  by_cases h3 : q < p
  · have HV : Hid (t = false) := by show _ = _; rw [← HT.out, decide_eq_false (p := p ≤ q ∧ q ≤ 40) (by omega)]; simp
    have d3 : decide (q < p) = true := by simpa using h3
    clear HT
    go_enter Try.func96, Try.ntmps96
    go_wp2
    go_ret
    exact ⟨by rw [HV.out]; rfl, by go_grown⟩
  have d3 : decide (q < p) = false := by simpa using h3
  by_cases h4 : 40 < q
  · have HV : Hid (t = false) := by show _ = _; rw [← HT.out, decide_eq_false (p := p ≤ q ∧ q ≤ 40) (by omega)]; simp
    have d4 : decide (40 < q) = true := by simpa using h4
    clear HT
    go_enter Try.func96, Try.ntmps96
    go_wp2
    go_ret
    exact ⟨by rw [HV.out]; rfl, by go_grown⟩
  have d4 : decide (40 < q) = false := by simpa using h4
  have HV : Hid (t = true) := by show _ = _; rw [← HT.out, decide_eq_true (p := 1 ≤ p ∧ p ≤ 10) (by omega), decide_eq_true (p := p ≤ q ∧ q ≤ 40) (by omega)]; rfl
  clear HT
  go_enter Try.func96, Try.ntmps96
  go_wp2
  go_ret
  exact ⟨by rw [HV.out]; rfl, by go_grown⟩
/-- slices.IndexFunc with wrongAgain: below 0 just where all are good. -/
theorem aindex_any (v : Value) (xs : List AgEl) (w : World) (hr : AgReads w v xs) :
    Calls Try.prog 128 #[v, wrongAV] w fun e w' => ∃ r : Int, e = .returned (.int .i64 r) ∧ decide (0 ≤ r) = !(xs.all againB) ∧ Below w.heap.size w w' := by
  have HR := hid hr
  obtain ⟨a, cap, rfl, hl, _⟩ := hr
  go_enter Try.func128, Try.ntmps128
  go_wp2
  go_loopw [8] (fun i wr => ∃ k : Nat, k ≤ xs.length ∧ i = .int .i64 k ∧ (xs.take k).all againB = true ∧ Below w.heap.size w wr) (fun i _ => xs.length - (intOf i).toNat)
  case atStart => exact ⟨0, Nat.zero_le _, rfl, rfl, Below.refl _ _⟩
  case round =>
    obtain ⟨k, hk, rfl, hall, hbel⟩ := hrel
    have HL := hid hall
    have HB := hid hbel
    clear hall hbel
    by_cases hlt : k < xs.length
    · obtain ⟨g, o, cap', e, hc⟩ := (HR.out.below HB.out).cells k hlt
      cases e
      obtain ⟨x, hx0⟩ : ∃ x, x = xs.getD k (0, 0) := ⟨_, rfl⟩
      have hck := hc k hlt
      rw [← hx0] at hck
      obtain ⟨c0, c1⟩ := hck
      obtain ⟨b, hb⟩ : ∃ b, againB (xs.getD k (0, 0)) = b := ⟨_, rfl⟩
      have HK := hid hb
      have HKX : Hid (againB x = b) := by rw [hx0]; exact hb
      have HS : Hid ((xs.take (k + 1)).all againB = b) := by show _ = _; rw [iall_take' xs k hlt, HL.out, hb, Bool.true_and]
      clear hc hb hx0
      go_wp2_with fail
      refine (wrongAgain_eq x b HKX.out _).mono ?_
      rintro e w2 ⟨rfl, b2⟩
      have B2 : Hid (Below w.heap.size w w2) := HB.out.trans (b2.mono HB.out.size)
      clear b2
      cases b
      · have hv : Hid (xs.all againB = false) := iall_false' k hlt HK.out
        go_wp2
        go_ret
        exact ⟨_, rfl, by rw [hv.out]; simp, B2.out⟩
      · go_wp2
        go_roundw
        case rel => exact ⟨k + 1, by omega, by go_num, HS.out, B2.out⟩
        case measure => simp [intOf]; omega
    · have hv : Hid (xs.all againB = true) := by show _ = _; have := HL.out; rw [List.take_of_length_le (by omega)] at this; exact this
      go_wp2
      go_ret
      exact ⟨_, rfl, by rw [hv.out]; rfl, HB.out⟩
theorem acontains_any (v : Value) (xs : List AgEl) (t : Bool) (ht : xs.all againB = t) (w : World) (hr : AgReads w v xs) :
    Calls Try.prog 95 #[v, wrongAV] w fun e w' => e = .returned (.bool (!t)) ∧ Below w.heap.size w w' := by
  have HR := hid hr
  have HT := hid ht
  clear hr ht
  go_enter Try.func95, Try.ntmps95
  go_wp2_with fail
  refine (aindex_any v xs _ HR.out).mono ?_
  rintro e w2 ⟨r, rfl, hd, b2⟩
  rw [HT.out] at hd
  have B2 := hid b2
  clear b2
  go_wp2
  go_ret
  exact ⟨by rw [← hd]; rfl, B2.out⟩

set_option maxHeartbeats 1000000 in
theorem igoodAgain_eq (v : Value) (xs : List AgEl) (t : Bool) (h : goodA xs = t) (w : World) (hr : AgReads w v xs) :
    Calls Try.prog 41 #[v] w fun e w' => e = .returned (.bool t) ∧ Below w.heap.size w w' := by
  have HT : Hid ((xs.all againB && decide (xs.length ≤ 5)) = t) := h
  clear h
  have HR := hid hr
  obtain ⟨a, cap, rfl, _, _⟩ := hr
  by_cases h8 : xs.length ≤ 5
  · obtain ⟨b, hb⟩ : ∃ b, xs.all againB = b := ⟨_, rfl⟩
    have HA : Hid (t = b) := by show _ = _; rw [← HT.out, hb]; simp [h8]
    have hd : decide ((xs.length : Int) ≤ 5) = true := by simp; omega
    have HB := hid hb
    clear hb
    go_enter Try.func41, Try.ntmps41
    go_wp2_with fail
    refine (acontains_any _ xs b HB.out _ HR.out).mono ?_
    rintro e w2 ⟨rfl, b2⟩
    have B2 := hid b2
    clear b2
    go_wp2
    go_ret
    exact ⟨by rw [HA.out]; simp, B2.out⟩
  · have hv : Hid (t = false) := by show _ = _; rw [← HT.out]; simp [h8]
    have hd : decide ((xs.length : Int) ≤ 5) = false := by simp; omega
    go_enter Try.func41, Try.ntmps41
    go_wp2
    go_ret
    exact ⟨by rw [hv.out]; rfl, Below.refl _ _⟩
end Go.Proofs.Ytmcmkobdkkibkab
