/-
  impl.GoodGreet: whether a greeting is good. Nothing old is written.
-/
import Derived.Test.YtdlkilacnnjglaaISides15
import Derived.Test.YtdlkilacnnjglaaIGr1
import Derived.Test.YtdlkilacnnjglaaKHelloApp
namespace Go.Proofs.Ytdlkilacnnjglaa
open Go.RowKit

theorem he_anyT (f : HeEl → Bool) (xs : List HeEl) (k : Nat) (hk : k < xs.length) : (xs.take (k + 1)).any f = ((xs.take k).any f || f (xs.getD k (0, 0, 0))) := by
  rw [List.take_succ_eq_append_getElem hk, List.any_append]
  simp [List.getD_eq_getElem?_getD, hk]
theorem he_anyY {f : HeEl → Bool} {xs : List HeEl} (k : Nat) (hk : k < xs.length) (h : f (xs.getD k (0, 0, 0)) = true) : xs.any f = true := by
  rw [List.any_eq_true]
  exact ⟨xs.getD k (0, 0, 0), by simp [List.getD_eq_getElem?_getD, hk], h⟩
theorem he_not_all (f : HeEl → Bool) (xs : List HeEl) : xs.any (fun x => !f x) = !xs.all f := by
  induction xs with
  | nil => rfl
  | cons x xs ih => simp [ih]
set_option maxRecDepth 100000 in
set_option maxHeartbeats 4000000 in
theorem iindexW_any (X Y : Int) (v0 v1 v2 v3 v4 v5 v8 v9 v10 : Value) (v : Value) (xs : List HeEl) (w : World) (hr : HeReads w v xs) :
    Calls Try.prog 121 #[v, .func (.func 107) #[.agg #[v0, v1, v2, v3, v4, v5, .int .i64 X, .int .i64 Y, v8, v9, v10]] #[]] w fun e w' => ∃ r : Int, e = .returned (.int .i64 r) ∧ decide (0 ≤ r) = xs.any (fun x => !letB X Y x) ∧ Below w.heap.size w w' := by
  have HR := hid hr
  obtain ⟨a, cap, rfl, hl, _⟩ := hr
  obtain ⟨f, hf⟩ : ∃ f : HeEl → Bool, f = fun x => !letB X Y x := ⟨_, rfl⟩
  rw [← hf]
  go_enter Try.func121, Try.ntmps121
  go_wp2
  go_loopw [8] (fun i wr => ∃ k : Nat, k ≤ xs.length ∧ i = .int .i64 k ∧ (xs.take k).any f = false ∧ Below w.heap.size w wr) (fun i _ => xs.length - (intOf i).toNat)
  case atStart => exact ⟨0, Nat.zero_le _, rfl, rfl, Below.refl _ _⟩
  case round =>
    obtain ⟨k, hk, rfl, hall, hb⟩ := hrel
    have HL := hid hall
    have HB := hid hb
    clear hall hb
    by_cases hlt : k < xs.length
    · obtain ⟨g, o, cap', e, hc⟩ := (HR.out.below HB.out).cells k hlt
      cases e
      obtain ⟨x, hx0⟩ : ∃ x, x = xs.getD k (0, 0, 0) := ⟨_, rfl⟩
      obtain ⟨c0, c1, c2⟩ := hc k hlt
      rw [← hx0] at c0 c1 c2
      obtain ⟨b, hb1⟩ : ∃ b, letB X Y x = b := ⟨_, rfl⟩
      have HB1 := hid hb1
      have HFX : f x = !b := by rw [hf]; simp only [hb1]
      have HS : Hid ((xs.take (k + 1)).any f = !b) := by show _ = _; rw [he_anyT f xs k hlt, HL.out, ← hx0, HFX, Bool.false_or]
      have HY : Hid (b = false → xs.any f = true) := fun h => he_anyY k hlt (by rw [← hx0, HFX, h]; rfl)
      clear hc hb1 hx0 HFX hf
      go_wp2_with fail
      refine (iisWrong_eq X Y _ _ _ _ _ _ _ _ _ x b HB1.out _).mono ?_
      rintro e w2 ⟨rfl, b2⟩
      have HB2 := hid (HB.out.trans (b2.mono HB.out.size))
      clear b2
      cases b
      · have hv : Hid (xs.any f = true) := HY.out rfl
        go_wp2
        go_ret
        exact ⟨_, rfl, by rw [hv.out]; simp, HB2.out⟩
      · go_wp2
        go_roundw
        case rel => exact ⟨k + 1, by omega, by go_num, HS.out, HB2.out⟩
        case measure => simp [intOf]; omega
    · have hv : Hid (xs.any f = false) := by show _ = _; have := HL.out; rw [List.take_of_length_le (by omega)] at this; exact this
      go_wp2
      go_ret
      exact ⟨_, rfl, by rw [hv.out]; rfl, HB.out⟩
set_option maxRecDepth 100000 in
theorem icontW_any (X Y : Int) (v0 v1 v2 v3 v4 v5 v8 v9 v10 : Value) (v : Value) (xs : List HeEl) (t : Bool) (ht : xs.all (letB X Y) = t) (w : World) (hr : HeReads w v xs) :
    Calls Try.prog 106 #[v, .func (.func 107) #[.agg #[v0, v1, v2, v3, v4, v5, .int .i64 X, .int .i64 Y, v8, v9, v10]] #[]] w fun e w' => e = .returned (.bool (!t)) ∧ Below w.heap.size w w' := by
  have HR := hid hr
  have HT : Hid (xs.any (fun x => !letB X Y x) = !t) := by show _ = _; rw [he_not_all, ht]
  clear hr ht
  go_enter Try.func106, Try.ntmps106
  go_wp2_with fail
  refine (iindexW_any X Y _ _ _ _ _ _ _ _ _ v xs _ HR.out).mono ?_
  rintro e w' ⟨r, rfl, hd, b2⟩
  rw [HT.out] at hd
  have HB := hid b2
  clear b2
  go_wp2
  go_ret
  exact ⟨by rw [← hd]; rfl, HB.out⟩
set_option maxRecDepth 100000 in
set_option maxHeartbeats 4000000 in
theorem iindexN_any (X Y : Int) (v0 v1 v2 v3 v4 v5 v8 v9 v10 : Value) (v : Value) (xs : List HeEl) (w : World) (hr : HeReads w v xs) :
    Calls Try.prog 121 #[v, .func (.func 108) #[.agg #[v0, v1, v2, v3, v4, v5, .int .i64 X, .int .i64 Y, v8, v9, v10]] #[]] w fun e w' => ∃ r : Int, e = .returned (.int .i64 r) ∧ decide (0 ≤ r) = xs.any (fun x => !ackB X Y x) ∧ Below w.heap.size w w' := by
  have HR := hid hr
  obtain ⟨a, cap, rfl, hl, _⟩ := hr
  obtain ⟨f, hf⟩ : ∃ f : HeEl → Bool, f = fun x => !ackB X Y x := ⟨_, rfl⟩
  rw [← hf]
  go_enter Try.func121, Try.ntmps121
  go_wp2
  go_loopw [8] (fun i wr => ∃ k : Nat, k ≤ xs.length ∧ i = .int .i64 k ∧ (xs.take k).any f = false ∧ Below w.heap.size w wr) (fun i _ => xs.length - (intOf i).toNat)
  case atStart => exact ⟨0, Nat.zero_le _, rfl, rfl, Below.refl _ _⟩
  case round =>
    obtain ⟨k, hk, rfl, hall, hb⟩ := hrel
    have HL := hid hall
    have HB := hid hb
    clear hall hb
    by_cases hlt : k < xs.length
    · obtain ⟨g, o, cap', e, hc⟩ := (HR.out.below HB.out).cells k hlt
      cases e
      obtain ⟨x, hx0⟩ : ∃ x, x = xs.getD k (0, 0, 0) := ⟨_, rfl⟩
      obtain ⟨c0, c1, c2⟩ := hc k hlt
      rw [← hx0] at c0 c1 c2
      obtain ⟨b, hb1⟩ : ∃ b, ackB X Y x = b := ⟨_, rfl⟩
      have HB1 := hid hb1
      have HFX : f x = !b := by rw [hf]; simp only [hb1]
      have HS : Hid ((xs.take (k + 1)).any f = !b) := by show _ = _; rw [he_anyT f xs k hlt, HL.out, ← hx0, HFX, Bool.false_or]
      have HY : Hid (b = false → xs.any f = true) := fun h => he_anyY k hlt (by rw [← hx0, HFX, h]; rfl)
      clear hc hb1 hx0 HFX hf
      go_wp2_with fail
      refine (iisNoAck_eq X Y _ _ _ _ _ _ _ _ _ x b HB1.out _).mono ?_
      rintro e w2 ⟨rfl, b2⟩
      have HB2 := hid (HB.out.trans (b2.mono HB.out.size))
      clear b2
      cases b
      · have hv : Hid (xs.any f = true) := HY.out rfl
        go_wp2
        go_ret
        exact ⟨_, rfl, by rw [hv.out]; simp, HB2.out⟩
      · go_wp2
        go_roundw
        case rel => exact ⟨k + 1, by omega, by go_num, HS.out, HB2.out⟩
        case measure => simp [intOf]; omega
    · have hv : Hid (xs.any f = false) := by show _ = _; have := HL.out; rw [List.take_of_length_le (by omega)] at this; exact this
      go_wp2
      go_ret
      exact ⟨_, rfl, by rw [hv.out]; rfl, HB.out⟩
set_option maxRecDepth 100000 in
theorem icontN_any (X Y : Int) (v0 v1 v2 v3 v4 v5 v8 v9 v10 : Value) (v : Value) (xs : List HeEl) (t : Bool) (ht : xs.all (ackB X Y) = t) (w : World) (hr : HeReads w v xs) :
    Calls Try.prog 106 #[v, .func (.func 108) #[.agg #[v0, v1, v2, v3, v4, v5, .int .i64 X, .int .i64 Y, v8, v9, v10]] #[]] w fun e w' => e = .returned (.bool (!t)) ∧ Below w.heap.size w w' := by
  have HR := hid hr
  have HT : Hid (xs.any (fun x => !ackB X Y x) = !t) := by show _ = _; rw [he_not_all, ht]
  clear hr ht
  go_enter Try.func106, Try.ntmps106
  go_wp2_with fail
  refine (iindexN_any X Y _ _ _ _ _ _ _ _ _ v xs _ HR.out).mono ?_
  rintro e w' ⟨r, rfl, hd, b2⟩
  rw [HT.out] at hd
  have HB := hid b2
  clear b2
  go_wp2
  go_ret
  exact ⟨by rw [← hd]; rfl, HB.out⟩
set_option maxRecDepth 100000 in
set_option maxHeartbeats 16000000 in
theorem igoodGr_eq (v : Value) (D : GrD) (t : Bool) (h : goodG D = t) (w : World) (hr : GrReads w v D) :
    Calls Try.prog 89 #[v] w fun e w' => e = .returned (.bool t) ∧ Below w.heap.size w w' := by
  obtain ⟨v8, v9, v10, rfl, r8, r9, r10⟩ := hr
  have R8 := hid r8
  have R9 := hid r9
  have R10 := hid r10
  obtain ⟨a8, p8, rfl, l8, _⟩ := r8
  obtain ⟨a9, p9, rfl, l9, _⟩ := r9
  obtain ⟨a10, p10, rfl, l10, _⟩ := r10
  rw [goodG_order] at h
  obtain ⟨c5, e5⟩ : ∃ b, fitsB D = b := ⟨_, rfl⟩
  obtain ⟨c6, e6⟩ : ∃ b, sideA D = b := ⟨_, rfl⟩
  obtain ⟨c7, e7⟩ : ∃ b, sideB D = b := ⟨_, rfl⟩
  obtain ⟨c8, e8⟩ : ∃ b, D.f8.all (letB D.f6 D.f7) = b := ⟨_, rfl⟩
  obtain ⟨c9, e9⟩ : ∃ b, D.f9.all (ackB D.f6 D.f7) = b := ⟨_, rfl⟩
  obtain ⟨c10, e10⟩ : ∃ b, D.f10.all (ackB D.f6 D.f7) = b := ⟨_, rfl⟩
  rw [e5, e6, e7, e8, e9, e10] at h
  have E5 : Hid (∀ w, Calls Try.prog 92 #[.agg #[.int .i64 D.f0, .int .i64 D.f1, .int .i64 D.f2, .int .i64 D.f3, .int .i64 D.f4, .int .i64 D.f5, .int .i64 D.f6, .int .i64 D.f7, .slice a8 D.f8.length p8, .slice a9 D.f9.length p9, .slice a10 D.f10.length p10]] w fun e w' => e = .returned (.bool c5) ∧ Below w.heap.size w w') := fun w => ifits15_eq D _ _ _ _ _ _ c5 e5 w
  have E6 : Hid (∀ w, Calls Try.prog 104 #[.agg #[.int .i64 D.f0, .int .i64 D.f1, .int .i64 D.f2, .int .i64 D.f3, .int .i64 D.f4, .int .i64 D.f5, .int .i64 D.f6, .int .i64 D.f7, .slice a8 D.f8.length p8, .slice a9 D.f9.length p9, .slice a10 D.f10.length p10]] w fun e w' => e = .returned (.bool c6) ∧ Below w.heap.size w w') := fun w => igoodA_eq D _ _ _ c6 e6 w
  have E7 : Hid (∀ w, Calls Try.prog 105 #[.agg #[.int .i64 D.f0, .int .i64 D.f1, .int .i64 D.f2, .int .i64 D.f3, .int .i64 D.f4, .int .i64 D.f5, .int .i64 D.f6, .int .i64 D.f7, .slice a8 D.f8.length p8, .slice a9 D.f9.length p9, .slice a10 D.f10.length p10]] w fun e w' => e = .returned (.bool c7) ∧ Below w.heap.size w w') := fun w => igoodB_eq D _ _ _ c7 e7 w
  clear e5 e6 e7
  obtain ⟨z0, z1, z2, z3, z4, z5, z6, z7, L8, L9, L10⟩ := D
  simp only at R8 R9 R10 l8 l9 l10 h e8 e9 e10 E5 E6 E7 ⊢
  obtain ⟨b1, d1⟩ : ∃ b, decide (z6 < 0) = b := ⟨_, rfl⟩
  obtain ⟨b2, d2⟩ : ∃ b, decide (z6 > 1000) = b := ⟨_, rfl⟩
  obtain ⟨b3, d3⟩ : ∃ b, decide (z7 < 0) = b := ⟨_, rfl⟩
  obtain ⟨b4, d4⟩ : ∃ b, decide (z7 > 1000) = b := ⟨_, rfl⟩
  have f1 : decide (0 ≤ z6) = !b1 := by rw [← d1, ← decide_not]; simp
  have f2 : decide (z6 ≤ 1000) = !b2 := by rw [← d2, ← decide_not]; simp
  have f3 : decide (0 ≤ z7) = !b3 := by rw [← d3, ← decide_not]; simp
  have f4 : decide (z7 ≤ 1000) = !b4 := by rw [← d4, ← decide_not]; simp
  rw [f1, f2, f3, f4] at h
  have HT := hid h
  have E8 := hid e8
  have E9 := hid e9
  have E10 := hid e10
  clear h f1 f2 f3 f4 e8 e9 e10
  have PB := hid (boxL_new w [.int .i64 z0, .int .i64 z1, .int .i64 z2, .int .i64 z3, .int .i64 z4, .int .i64 z5, .int .i64 z6, .int .i64 z7, .slice a8 L8.length p8, .slice a9 L9.length p9, .slice a10 L10.length p10] 49)
  have BW : Hid (Below w.heap.size w (w.alloc (.cells #[.int .i64 z0, .int .i64 z1, .int .i64 z2, .int .i64 z3, .int .i64 z4, .int .i64 z5, .int .i64 z6, .int .i64 z7, .slice a8 L8.length p8, .slice a9 L9.length p9, .slice a10 L10.length p10] 49))) := (Below.refl _ _).alloc (Nat.le_refl _) _
  obtain ⟨W0, hW0⟩ : ∃ W, W = w.alloc (.cells #[.int .i64 z0, .int .i64 z1, .int .i64 z2, .int .i64 z3, .int .i64 z4, .int .i64 z5, .int .i64 z6, .int .i64 z7, .slice a8 L8.length p8, .slice a9 L9.length p9, .slice a10 L10.length p10] 49) := ⟨_, rfl⟩
  obtain ⟨q0, q1, q2, q3, q4, q5, q6, q7, q8, q9, q10⟩ := PB.out.eleven
  rw [← hW0] at PB BW
  have HW0 := hid hW0
  clear hW0
  have HN : Hid ((b1 || (b2 || (b3 || b4))) = true → t = false) := fun h => by
    rw [← HT.out]
    revert h
    cases b1 <;> cases b2 <;> cases b3 <;> cases b4 <;> simp
  cases b1
  rotate_left
  · have HV : Hid (t = false) := HN.out rfl
    go_enter Try.func89, Try.ntmps89
    go_wp2
    go_ret
    exact ⟨by rw [HV.out]; rfl, by go_grown⟩
  cases b2
  rotate_left
  · have HV : Hid (t = false) := HN.out rfl
    go_enter Try.func89, Try.ntmps89
    go_wp2
    go_ret
    exact ⟨by rw [HV.out]; rfl, by go_grown⟩
  cases b3
  rotate_left
  · have HV : Hid (t = false) := HN.out rfl
    go_enter Try.func89, Try.ntmps89
    go_wp2
    go_ret
    exact ⟨by rw [HV.out]; rfl, by go_grown⟩
  cases b4
  rotate_left
  · have HV : Hid (t = false) := HN.out rfl
    go_enter Try.func89, Try.ntmps89
    go_wp2
    go_ret
    exact ⟨by rw [HV.out]; rfl, by go_grown⟩
  replace HT : Hid ((c5 && (c6 && (c7 && (c8 && (c9 && c10))))) = t) := HT.out
  go_enter Try.func89, Try.ntmps89
  go_wp2_with fail
  rw [← HW0.out] at q0 q1 q2 q3 q4 q5 q6 q7 q8 q9 q10 ⊢
  clear HW0 q0 q1 q2 q3 q4 q5 q6 q7 q8 q9 q10
  refine (E5.out _).mono ?_
  rintro e w1 ⟨rfl, b⟩
  replace BW := hid (BW.out.trans (b.mono BW.out.size))
  replace PB := hid (PB.out.below b PB.out.lt)
  clear b
  obtain ⟨q0, q1, q2, q3, q4, q5, q6, q7, q8, q9, q10⟩ := PB.out.eleven
  cases c5
  · have HV : Hid (t = false) := HT.out.symm
    go_wp2
    go_ret
    exact ⟨by rw [HV.out]; rfl, BW.out⟩
  go_wp2_with fail
  refine (E6.out _).mono ?_
  rintro e w2 ⟨rfl, b⟩
  replace BW := hid (BW.out.trans (b.mono BW.out.size))
  replace PB := hid (PB.out.below b PB.out.lt)
  clear b q0 q1 q2 q3 q4 q5 q6 q7 q8 q9 q10
  obtain ⟨q0, q1, q2, q3, q4, q5, q6, q7, q8, q9, q10⟩ := PB.out.eleven
  cases c6
  · have HV : Hid (t = false) := HT.out.symm
    go_wp2
    go_ret
    exact ⟨by rw [HV.out]; rfl, BW.out⟩
  go_wp2_with fail
  refine (E7.out _).mono ?_
  rintro e w3 ⟨rfl, b⟩
  replace BW := hid (BW.out.trans (b.mono BW.out.size))
  replace PB := hid (PB.out.below b PB.out.lt)
  clear b q0 q1 q2 q3 q4 q5 q6 q7 q8 q9 q10
  obtain ⟨q0, q1, q2, q3, q4, q5, q6, q7, q8, q9, q10⟩ := PB.out.eleven
  cases c7
  · have HV : Hid (t = false) := HT.out.symm
    go_wp2
    go_ret
    exact ⟨by rw [HV.out]; rfl, BW.out⟩
  go_wp2_with fail
  refine (icontW_any z6 z7 _ _ _ _ _ _ _ _ _ _ L8 c8 E8.out _ (R8.out.below BW.out)).mono ?_
  rintro e w4 ⟨rfl, b⟩
  replace BW := hid (BW.out.trans (b.mono BW.out.size))
  replace PB := hid (PB.out.below b PB.out.lt)
  clear b q0 q1 q2 q3 q4 q5 q6 q7 q8 q9 q10
  obtain ⟨q0, q1, q2, q3, q4, q5, q6, q7, q8, q9, q10⟩ := PB.out.eleven
  cases c8
  · have HV : Hid (t = false) := HT.out.symm
    go_wp2
    go_ret
    exact ⟨by rw [HV.out]; rfl, BW.out⟩
  go_wp2_with fail
  refine (icontN_any z6 z7 _ _ _ _ _ _ _ _ _ _ L9 c9 E9.out _ (R9.out.below BW.out)).mono ?_
  rintro e w5 ⟨rfl, b⟩
  replace BW := hid (BW.out.trans (b.mono BW.out.size))
  replace PB := hid (PB.out.below b PB.out.lt)
  clear b q0 q1 q2 q3 q4 q5 q6 q7 q8 q9 q10
  obtain ⟨q0, q1, q2, q3, q4, q5, q6, q7, q8, q9, q10⟩ := PB.out.eleven
  cases c9
  · have HV : Hid (t = false) := HT.out.symm
    go_wp2
    go_ret
    exact ⟨by rw [HV.out]; rfl, BW.out⟩
  go_wp2_with fail
  refine (icontN_any z6 z7 _ _ _ _ _ _ _ _ _ _ L10 c10 E10.out _ (R10.out.below BW.out)).mono ?_
  rintro e w6 ⟨rfl, b⟩
  replace BW := hid (BW.out.trans (b.mono BW.out.size))
  clear b q0 q1 q2 q3 q4 q5 q6 q7 q8 q9 q10
  have HV : Hid (c10 = t) := HT.out
  go_wp2
  go_ret
  exact ⟨by rw [← HV.out]; simp, BW.out⟩
end Go.Proofs.Ytdlkilacnnjglaa
