/-
  impl.wrongWindow, slices.ContainsFunc with it, impl.GoodShares: whether shares are as the document says. Nothing old is written.
-/
import Derived.Test.YtepnhbicmlfnhadShMath
namespace Go.Proofs.Ytepnhbicmlfnhad
open Go.RowKit

abbrev wrongWV : Value := .func (.func 43) #[] #[]
theorem wall_take (l : List Int) (k : Nat) (hk : k < l.length) : (l.take (k + 1)).all winB = ((l.take k).all winB && winB (l.getD k 0)) := by
  rw [List.take_succ_eq_append_getElem hk, List.all_append]
  simp [List.getD_eq_getElem?_getD, hk]
theorem wall_false {l : List Int} (k : Nat) (hk : k < l.length) (h : winB (l.getD k 0) = false) : l.all winB = false := by
  rw [← Bool.not_eq_true, List.all_eq_true]
  intro hh
  have := hh (l.getD k 0) (by simp [List.getD_eq_getElem?_getD, hk])
  rw [h] at this
  cases this
set_option maxHeartbeats 2000000 in
theorem wrongWindow_eq (x : Int) (t : Bool) (h : winB x = t) (w : World) : Calls Try.prog 43 #[.int .i64 x] w fun e w' => e = .returned (.bool (!t)) ∧ w' = w := by
  have HT : Hid (decide (1 ≤ x ∧ x ≤ 10000) = t) := h
  clear h
  by_cases h1 : x < 1
  · have HV : Hid (t = false) := by show _ = _; rw [← HT.out, decide_eq_false (by omega)]
    have d1 : decide (x < 1) = true := by simpa using h1
    clear HT
    go_enter Try.func43, Try.ntmps43
    go_wp2
    go_ret
    exact ⟨by rw [HV.out]; rfl, rfl⟩
  have d1 : decide (x < 1) = false := by simpa using h1
  by_cases h2 : 10000 < x
  · have HV : Hid (t = false) := by show _ = _; rw [← HT.out, decide_eq_false (by omega)]
    have d2 : decide (10000 < x) = true := by simpa using h2
    clear HT
    go_enter Try.func43, Try.ntmps43
    go_wp2
    go_ret
    exact ⟨by rw [HV.out]; rfl, rfl⟩
  have d2 : decide (10000 < x) = false := by simpa using h2
  have HV : Hid (t = true) := by show _ = _; rw [← HT.out, decide_eq_true (by omega)]
  clear HT
  go_enter Try.func43, Try.ntmps43
  go_wp2
  go_ret
  exact ⟨by rw [HV.out]; rfl, rfl⟩
/-- slices.IndexFunc with wrongWindow: below 0 just where all are good. -/
theorem windex_any (v : Value) (xs : List Int) (w : World) (hr : KReads w v xs) :
    Calls Try.prog 58 #[v, wrongWV] w fun e w' => ∃ r : Int, e = .returned (.int .i64 r) ∧ decide (0 ≤ r) = !(xs.all winB) ∧ w' = w := by
  have HR := hid hr
  obtain ⟨a, cap, rfl, hl, _⟩ := hr
  go_enter Try.func58, Try.ntmps58
  go_wp2
  go_loopw [8] (fun i wr => ∃ k : Nat, k ≤ xs.length ∧ i = .int .i64 k ∧ (xs.take k).all winB = true ∧ w = wr) (fun i _ => xs.length - (intOf i).toNat)
  case atStart => exact ⟨0, Nat.zero_le _, rfl, rfl, rfl⟩
  case round =>
    obtain ⟨k, hk, rfl, hall, rfl⟩ := hrel
    have HL := hid hall
    clear hall
    by_cases hlt : k < xs.length
    · obtain ⟨g, o, cap', e, hc⟩ := HR.out.cells k hlt
      cases e
      obtain ⟨x, hx0⟩ : ∃ x, x = xs.getD k 0 := ⟨_, rfl⟩
      have hck : w.cell? ⟨g, o + k, none⟩ = some (.int .i64 x) := by rw [hx0]; exact hc k hlt
      obtain ⟨b, hb⟩ : ∃ b, winB (xs.getD k 0) = b := ⟨_, rfl⟩
      have HK := hid hb
      have HKX : Hid (winB x = b) := by rw [hx0]; exact hb
      have HS : Hid ((xs.take (k + 1)).all winB = b) := by show _ = _; rw [wall_take xs k hlt, HL.out, hb, Bool.true_and]
      clear hc hb hx0
      go_wp2_with fail
      refine (wrongWindow_eq x b HKX.out _).mono ?_
      rintro e w' ⟨rfl, hw⟩; obtain rfl := hw.symm
      cases b
      · have hv : Hid (xs.all winB = false) := wall_false k hlt HK.out
        go_wp2
        go_ret
        exact ⟨_, rfl, by rw [hv.out]; simp, rfl⟩
      · go_wp2
        go_roundw
        case rel => exact ⟨k + 1, by omega, by go_num, HS.out, by first | rfl | trivial⟩
        case measure => simp [intOf]; omega
    · have hv : Hid (xs.all winB = true) := by show _ = _; have := HL.out; rw [List.take_of_length_le (by omega)] at this; exact this
      go_wp2
      go_ret
      exact ⟨_, rfl, by rw [hv.out]; rfl, rfl⟩
theorem wcontains_any (v : Value) (xs : List Int) (t : Bool) (ht : xs.all winB = t) (w : World) (hr : KReads w v xs) :
    Calls Try.prog 42 #[v, wrongWV] w fun e w' => e = .returned (.bool (!t)) ∧ w' = w := by
  have HR := hid hr
  have HT := hid ht
  clear hr ht
  go_enter Try.func42, Try.ntmps42
  go_wp2_with fail
  refine (windex_any v xs _ HR.out).mono ?_
  rintro e w' ⟨r, rfl, hd, hw⟩; obtain rfl := hw.symm
  rw [HT.out] at hd
  go_wp2
  go_ret
  exact ⟨by rw [← hd]; rfl, rfl⟩
set_option maxRecDepth 100000 in
set_option maxHeartbeats 4000000 in
theorem igoodS_eq (v : Value) (D : ShD) (t : Bool) (h : goodS D = t) (w : World) (hr : ShReads w v D) :
    Calls Try.prog 15 #[v] w fun e w' => e = .returned (.bool t) ∧ Below w.heap.size w w' := by
  obtain ⟨v0, rfl, r0⟩ := hr
  have R0 := hid r0
  obtain ⟨a0, p0, rfl, l0, _⟩ := r0
  unfold goodS at h
  obtain ⟨z, hz⟩ : ∃ z, z = D.f1 := ⟨_, rfl⟩
  rw [← hz] at h ⊢
  have PB := hid (boxL_new w [.slice a0 D.f0.length p0, .int .i64 z] 25)
  obtain ⟨q0, q1⟩ := PB.out.two
  have BW : Hid (Below w.heap.size w (w.alloc (.cells #[.slice a0 D.f0.length p0, .int .i64 z] 25))) := (Below.refl _ _).alloc (Nat.le_refl _) _
  obtain ⟨b2, e2⟩ : ∃ b, D.f0.all winB = b := ⟨_, rfl⟩
  have e2' : (D.f0.all fun x => decide (1 ≤ x ∧ x ≤ 10000)) = b2 := e2
  rw [e2'] at h
  have HT := hid h
  have E2 := hid e2
  clear h e2 e2' hz
  by_cases h1 : 1 ≤ (D.f0.length : Int)
  rotate_left
  · have d1 : decide (1 ≤ (D.f0.length : Int)) = false := by simpa using h1
    have HV : Hid (t = false) := by show _ = _; rw [← HT.out, decide_eq_false (by omega)]; rfl
    clear HT
    go_enter Try.func15, Try.ntmps15
    go_wp2
    go_ret
    exact ⟨by rw [HV.out]; rfl, BW.out⟩
  have d1 : decide (1 ≤ (D.f0.length : Int)) = true := by simpa using h1
  by_cases h5 : (D.f0.length : Int) ≤ 5
  rotate_left
  · have d5 : decide ((D.f0.length : Int) ≤ 5) = false := by simpa using h5
    have HV : Hid (t = false) := by show _ = _; rw [← HT.out, decide_eq_false (by omega)]; rfl
    clear HT
    go_enter Try.func15, Try.ntmps15
    go_wp2
    go_ret
    exact ⟨by rw [HV.out]; rfl, BW.out⟩
  have d5 : decide ((D.f0.length : Int) ≤ 5) = true := by simpa using h5
  have HT2 : Hid ((b2 && decide (1 ≤ z ∧ z ≤ 40000)) = t) := by show _ = _; rw [← HT.out, decide_eq_true (show 1 ≤ (D.f0.length : Int) ∧ (D.f0.length : Int) ≤ 5 from ⟨h1, h5⟩)]; rfl
  clear HT h1 h5
  go_enter Try.func15, Try.ntmps15
  go_wp2_with fail
  refine (wcontains_any _ D.f0 b2 E2.out _ (R0.out.below BW.out)).mono ?_
  rintro e w' ⟨rfl, hw⟩; obtain rfl := hw.symm
  cases b2
  · have HV : Hid (t = false) := HT2.out.symm
    go_wp2
    go_ret
    exact ⟨by rw [HV.out]; rfl, BW.out⟩
  by_cases hz1 : 1 ≤ z
  rotate_left
  · have dz : decide (1 ≤ z) = false := by simpa using hz1
    have HV : Hid (t = false) := by show _ = _; rw [← HT2.out, decide_eq_false (by omega)]; rfl
    clear HT2
    go_wp2
    go_ret
    exact ⟨by rw [HV.out]; rfl, BW.out⟩
  have dz : decide (1 ≤ z) = true := by simpa using hz1
  have HV : Hid (t = decide (z ≤ 40000)) := by
    show _ = _
    rw [← HT2.out]
    by_cases h4 : z ≤ 40000
    · rw [decide_eq_true h4, decide_eq_true ⟨hz1, h4⟩]; rfl
    · rw [decide_eq_false h4, decide_eq_false (by omega)]; rfl
  clear HT2
  go_wp2
  go_ret
  exact ⟨by rw [HV.out]; rfl, BW.out⟩
end Go.Proofs.Ytepnhbicmlfnhad
