/-
  spec.Conforms: whether in each while no more comes than depth, and rate for each tick but one. Nothing is written.
-/
import Derived.Test.YtcieefggijjekacSLeast7
import Derived.Test.YtcieefggijjekacSFlow7
namespace Go.Proofs.Ytcieefggijjekac
open Go.RowKit

/-- Whether a list conforms. -/
def confB (rate depth : Int) (xs : List Int) : Bool := (List.range xs.length).all fun a => (List.range xs.length).all fun b => decide (a ≤ b → psum (fl xs) (b + 1) - psum (fl xs) a ≤ depth + rate * ((b : Int) - a))
theorem confB_iff (rate depth : Int) (xs : List Int) : confB rate depth xs = true ↔ Conf rate depth (fl xs) xs.length := by
  unfold confB
  rw [List.all_eq_true]
  constructor
  · intro h a b hab hb
    have h1 := h a (List.mem_range.2 (by omega))
    rw [List.all_eq_true] at h1
    have h2 := h1 b (List.mem_range.2 hb)
    rw [decide_eq_true_eq] at h2
    exact h2 hab
  · intro h a _
    rw [List.all_eq_true]
    intro b hb
    rw [decide_eq_true_eq]
    exact fun hab => h a b hab (List.mem_range.1 hb)
theorem confB_true {rate depth : Int} {xs : List Int} (h : Conf rate depth (fl xs) xs.length) : confB rate depth xs = true := (confB_iff _ _ _).2 h
theorem confB_false {rate depth : Int} {xs : List Int} (h : ¬ Conf rate depth (fl xs) xs.length) : confB rate depth xs = false := by
  cases hb : confB rate depth xs with
  | false => rfl
  | true => exact absurd ((confB_iff _ _ _).1 hb) h
/-- No while that begins ahead of 'from' has too much. -/
def ConfTo (rate depth : Int) (f : Nat → Int) (n from_ : Nat) : Prop := ∀ a b, a < from_ → a ≤ b → b < n → psum f (b + 1) - psum f a ≤ depth + rate * ((b : Int) - a)
def ConfIn (rate depth : Int) (f : Nat → Int) (from_ to : Nat) : Prop := ∀ b, from_ ≤ b → b < to → psum f (b + 1) - psum f from_ ≤ depth + rate * ((b : Int) - from_)
set_option maxHeartbeats 1000000 in
theorem sconf_no (r d : Int) (v : Value) (xs : List Int) (w : World) (hr : KReads w v xs) (hn : (rateB r d && flowB xs) = false) :
    Calls Try.prog 9 #[.int .i64 r, .int .i64 d, v] w fun e w' => e = .returned (.tuple #[.bool false, .bool false]) ∧ Below w.heap.size w w' := by
  have HR := hid hr
  obtain ⟨b, hb⟩ : ∃ b, rateB r d = b := ⟨_, rfl⟩
  have HF := hid hb
  cases b
  · clear hr hb hn
    go_enter Try.func9, Try.ntmps9
    go_wp2_with fail
    refine (srate_eq r d false HF.out _).mono ?_
    rintro e w' ⟨rfl, hw⟩; obtain rfl := hw.symm
    go_wp2
    go_ret2
    exact ⟨rfl, Below.refl _ _⟩
  · have HN : Hid (flowB xs = false) := by rw [hb, Bool.true_and] at hn; exact hn
    clear hr hb hn
    go_enter Try.func9, Try.ntmps9
    go_wp2_with fail
    refine (srate_eq r d true HF.out _).mono ?_
    rintro e w' ⟨rfl, hw⟩; obtain rfl := hw.symm
    go_wp2_with fail
    refine (sflow_eq _ xs false HN.out _ HR.out).mono ?_
    rintro e w' ⟨rfl, hw⟩; obtain rfl := hw.symm
    go_wp2
    go_ret2
    exact ⟨rfl, Below.refl _ _⟩
set_option maxRecDepth 100000 in
set_option maxHeartbeats 8000000 in
theorem sconf_yes (r d : Int) (v : Value) (xs : List Int) (w : World) (hr : KReads w v xs) (hb : rateB r d = true) (hf : flowB xs = true) :
    Calls Try.prog 9 #[.int .i64 r, .int .i64 d, v] w fun e w' => e = .returned (.tuple #[.bool (confB r d xs), .bool true]) ∧ Below w.heap.size w w' := by
  have HR := hid hr
  have HRb := hid hb
  have HF := hid hf
  have hlen := flowB_len hf
  have hrd := rateB_in hb
  obtain ⟨a, cap, rfl, _, _⟩ := hr
  clear hb hf
  go_enter Try.func9, Try.ntmps9
  go_wp2_with fail
  refine (srate_eq r d true HRb.out _).mono ?_
  rintro e w' ⟨rfl, hw⟩; obtain rfl := hw.symm
  go_wp2_with fail
  refine (sflow_eq _ xs true HF.out _ HR.out).mono ?_
  rintro e w' ⟨rfl, hw⟩; obtain rfl := hw.symm
  go_wp2
  go_loopw [22] (fun i wr => ∃ k : Nat, k ≤ xs.length ∧ i = .int .i64 k ∧ ConfTo r d (fl xs) xs.length k ∧ w = wr) (fun i _ => xs.length - (intOf i).toNat)
  case atStart => exact ⟨0, Nat.zero_le _, rfl, fun a b h => absurd h (by omega), rfl⟩
  case round =>
    obtain ⟨k, hk, rfl, hto, rfl⟩ := hrel
    have HTo := hid hto
    clear hto
    by_cases hlt : k < xs.length
    · go_wp2
      go_loopw [9, 10] (fun sv tv wr => ∃ t : Nat, (k ≤ t ∧ t ≤ xs.length) ∧ tv = .int .i64 t ∧ sv = .int .i64 (psum (fl xs) t - psum (fl xs) k) ∧ ConfIn r d (fl xs) k t ∧ w = wr) (fun _ tv _ => xs.length - (intOf tv).toNat)
      case atStart => exact ⟨k, ⟨Nat.le_refl _, hk⟩, rfl, by simp, fun b h1 h2 => absurd h1 (by omega), rfl⟩
      case round =>
        obtain ⟨t, ⟨hkt, ht⟩, rfl, rfl, hin, rfl⟩ := hrel
        have HIn := hid hin
        clear hin
        by_cases htl : t < xs.length
        · obtain ⟨g, o, cap', e, hc⟩ := HR.out.cells t htl
          cases e
          have HS : Hid (psum (fl xs) (t + 1) = psum (fl xs) t + fl xs t) := rfl
          have hfi := flowB_in HF.out t
          have hp1 := psum_in (f := fl xs) (b := 60) (flowB_in HF.out) t
          have hp2 := psum_in (f := fl xs) (b := 60) (flowB_in HF.out) k
          obtain ⟨x, hx⟩ : ∃ x, x = fl xs t := ⟨_, rfl⟩
          have cx : w.cell? ⟨g, o + t, none⟩ = some (.int .i64 x) := by rw [hx]; exact hc t htl
          obtain ⟨sm, hsm⟩ : ∃ sm, sm = psum (fl xs) t - psum (fl xs) k := ⟨_, rfl⟩
          have HSM : Hid (psum (fl xs) (t + 1) - psum (fl xs) k = sm + x) := by show _ = _; rw [HS.out, hsm, hx]; omega
          have hsb : -2400 ≤ sm ∧ sm ≤ 2400 := by rw [hsm]; omega
          rw [← hsm]
          rw [← hx] at hfi
          obtain ⟨dt, hdt⟩ : ∃ dt : Int, dt = (t : Int) - k := ⟨_, rfl⟩
          have hw1 : IntKind.i64.wrap (sm + x) = sm + x := by rw [IntKind.wrap_i64]; omega
          have hw2 : IntKind.i64.wrap ((t : Int) - (k : Int)) = dt := by rw [IntKind.wrap_i64]; omega
          have hw2' : (t : Int) - (k : Int) = dt := hdt.symm
          obtain ⟨m, hm⟩ : ∃ m, m = r * dt := ⟨_, rfl⟩
          have hmul : r * dt = m := hm.symm
          have hmb : 0 ≤ m ∧ m ≤ 800 := by
            rw [hm]
            refine ⟨Int.mul_nonneg (by omega) (by omega), ?_⟩
            have := Int.mul_le_mul (show r ≤ 20 by omega) (show dt ≤ 40 by omega) (by omega) (by omega)
            omega
          have hw3 : IntKind.i64.wrap m = m := by rw [IntKind.wrap_i64]; omega
          have hw4 : IntKind.i64.wrap (d + m) = d + m := by rw [IntKind.wrap_i64]; omega
          have hw5 : IntKind.i64.wrap dt = dt := by rw [IntKind.wrap_i64]; omega
          have HM : Hid (d + r * ((t : Int) - k) = d + m) := by show _ = _; rw [← hdt, ← hm]
          have n0 : (0 : Int) ≤ (t : Int) := by omega
          have n1 : (t : Int) < (xs.length : Int) := by omega
          clear hc hx hsm hdt hm hp1 hp2
          by_cases hgt : d + m < sm + x
          · have dg : decide (d + m < sm + x) = true := by simpa using hgt
            have HC : Hid (confB r d xs = false) := confB_false fun hc => by
              have := hc k t hkt htl
              rw [HSM.out, HM.out] at this
              omega
            go_wp2
            go_ret2
            exact ⟨by rw [HC.out]; rfl, Below.refl _ _⟩
          · have dg : decide (d + m < sm + x) = false := by simpa using hgt
            go_wp2
            go_roundw
            case rel =>
              refine ⟨t + 1, ⟨by omega, by omega⟩, by go_num, by rw [HSM.out], fun b hb1 hb2 => ?_, by first | rfl | trivial⟩
              by_cases e : b = t
              · rw [e, HSM.out, HM.out]; omega
              · exact HIn.out b hb1 (by omega)
            case measure => simp [intOf]; omega
        · obtain rfl : t = xs.length := by omega
          have HNx : Hid (ConfTo r d (fl xs) xs.length (k + 1)) := fun a b ha hab hb => by
            by_cases e : a = k
            · rw [e]; exact HIn.out b (by omega) hb
            · exact HTo.out a b (by omega) hab hb
          go_wp2
          go_roundw
          case rel => exact ⟨k + 1, by omega, by go_num, HNx.out, by first | rfl | trivial⟩
          case measure => simp [intOf]; omega
    · obtain rfl : k = xs.length := by omega
      have HC : Hid (confB r d xs = true) := confB_true fun a b hab hb => HTo.out a b (by omega) hab hb
      go_wp2
      go_ret2
      exact ⟨by rw [HC.out]; rfl, Below.refl _ _⟩
end Go.Proofs.Ytcieefggijjekac
