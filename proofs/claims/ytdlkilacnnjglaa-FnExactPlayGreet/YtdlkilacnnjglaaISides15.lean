/-
  impl's (Greet).fits, goodA, goodB: whether rows are short, sides as said. Nothing old is written.
-/
import Derived.Test.YtdlkilacnnjglaaIGr1
import Derived.Deep.RegionWith
namespace Go.Proofs.Ytdlkilacnnjglaa
open Go.RowKit

set_option maxRecDepth 100000 in
set_option maxHeartbeats 8000000 in
theorem ifits15_eq (D : GrD) (a8 a9 a10 : Option Addr) (p8 p9 p10 : Nat) (t : Bool) (h : fitsB D = t) (w : World) :
    Calls Try.prog 92 #[.agg #[.int .i64 D.f0, .int .i64 D.f1, .int .i64 D.f2, .int .i64 D.f3, .int .i64 D.f4, .int .i64 D.f5, .int .i64 D.f6, .int .i64 D.f7, .slice a8 D.f8.length p8, .slice a9 D.f9.length p9, .slice a10 D.f10.length p10]] w fun e w' => e = .returned (.bool t) ∧ Below w.heap.size w w' := by
  obtain ⟨z0, z1, z2, z3, z4, z5, z6, z7, L8, L9, L10⟩ := D
  unfold fitsB at h
  simp only at h ⊢
  obtain ⟨n8, h8⟩ : ∃ n, n = L8.length := ⟨_, rfl⟩
  obtain ⟨n9, h9⟩ : ∃ n, n = L9.length := ⟨_, rfl⟩
  obtain ⟨n10, h10⟩ : ∃ n, n = L10.length := ⟨_, rfl⟩
  rw [← h8, ← h9, ← h10] at h ⊢
  clear h8 h9 h10
  obtain ⟨b1, e1⟩ : ∃ b, decide (n8 ≤ 30) = b := ⟨_, rfl⟩
  obtain ⟨b2, e2⟩ : ∃ b, decide (n9 ≤ 300) = b := ⟨_, rfl⟩
  obtain ⟨b3, e3⟩ : ∃ b, decide (n10 ≤ 300) = b := ⟨_, rfl⟩
  rw [e1, e2, e3] at h
  have HT := hid h
  have d1 : decide ((n8 : Int) ≤ 30) = b1 := by rw [← e1]; simp; omega
  have d2 : decide ((n9 : Int) ≤ 300) = b2 := by rw [← e2]; simp; omega
  have d3 : decide ((n10 : Int) ≤ 300) = b3 := by rw [← e3]; simp; omega
  clear h e1 e2 e3
  cases b1
  · have HV : Hid (t = false) := HT.out.symm
    go_enter Try.func92, Try.ntmps92
    go_wp2
    go_ret
    exact ⟨by rw [HV.out]; rfl, by go_grown⟩
  cases b2
  · have HV : Hid (t = false) := HT.out.symm
    go_enter Try.func92, Try.ntmps92
    go_wp2
    go_ret
    exact ⟨by rw [HV.out]; rfl, by go_grown⟩
  have HV : Hid (b3 = t) := HT.out
  go_enter Try.func92, Try.ntmps92
  go_wp2
  go_ret
  exact ⟨by rw [← HV.out]; rfl, by go_grown⟩
theorem gv0_true (n l : Int) : gv0 n l true = decide (n = 0) := rfl
theorem gv0_false (n l : Int) : gv0 n l false = gvn n l := rfl
set_option maxRecDepth 100000 in
set_option maxHeartbeats 8000000 in
theorem igoodA_eq (D : GrD) (v8 v9 v10 : Value) (t : Bool) (h : sideA D = t) (w : World) :
    Calls Try.prog 104 #[.agg #[.int .i64 D.f0, .int .i64 D.f1, .int .i64 D.f2, .int .i64 D.f3, .int .i64 D.f4, .int .i64 D.f5, .int .i64 D.f6, .int .i64 D.f7, v8, v9, v10]] w fun e w' => e = .returned (.bool t) ∧ Below w.heap.size w w' := by
  obtain ⟨z0, z1, z2, z3, z4, z5, z6, z7, L8, L9, L10⟩ := D
  unfold sideA at h
  simp only at h ⊢
  have PB := hid (boxL_new w [.int .i64 z0, .int .i64 z1, .int .i64 z2, .int .i64 z3, .int .i64 z4, .int .i64 z5, .int .i64 z6, .int .i64 z7, v8, v9, v10] 49)
  have BW : Hid (Below w.heap.size w (w.alloc (.cells #[.int .i64 z0, .int .i64 z1, .int .i64 z2, .int .i64 z3, .int .i64 z4, .int .i64 z5, .int .i64 z6, .int .i64 z7, v8, v9, v10] 49))) := (Below.refl _ _).alloc (Nat.le_refl _) _
  obtain ⟨q0, q1, q2, q3, q4, q5, q6, q7, q8, q9, q10⟩ := PB.out.eleven
  by_cases h0 : z0 = 0
  · subst h0
    obtain ⟨s2, hs2⟩ : ∃ s, (z2 == 0) = s := ⟨_, rfl⟩
    obtain ⟨s5, hs5⟩ : ∃ s, (z5 == 0) = s := ⟨_, rfl⟩
    have HV : Hid ((s2 && s5) = t) := by show _ = _; rw [← h, ← hs2, ← hs5]; rfl
    clear h
    cases s2 <;> cases s5
    all_goals
      go_enter Try.func104, Try.ntmps104
      go_wp2_with fail
      refine (ipairA_eq _ _ _ _ _ _ _ _ _ _ _ z2 z5 rfl rfl _).mono ?_
      rintro e w1 ⟨rfl, b⟩
      have HB := hid (BW.out.trans (b.mono BW.out.size))
      clear b q0 q1 q2 q3 q4 q5 q6 q7 q8 q9 q10
      go_wp2
      go_ret
      exact ⟨by rw [← HV.out]; rfl, HB.out⟩
  by_cases h1 : z0 = 1
  · subst h1
    obtain ⟨b1, e1⟩ : ∃ b, gvn z2 z6 = b := ⟨_, rfl⟩
    obtain ⟨s5, hs5⟩ : ∃ s, (z5 == 0) = s := ⟨_, rfl⟩
    have HV : Hid ((b1 && s5) = t) := by show _ = _; rw [← h, ← e1, ← hs5]; rfl
    have E1 := hid e1
    clear h e1
    go_enter Try.func104, Try.ntmps104
    go_wp2_with fail
    refine (igaveX_eq z6 z2 _ _ _ _ _ _ _ _ _ _ b1 E1.out _).mono ?_
    rintro e w1 ⟨rfl, b⟩
    have HB := hid (BW.out.trans (b.mono BW.out.size))
    replace PB := hid (PB.out.below b PB.out.lt)
    clear b q0 q1 q2 q3 q4 q5 q6 q7 q8 q9 q10
    obtain ⟨q0, q1, q2, q3, q4, q5, q6, q7, q8, q9, q10⟩ := PB.out.eleven
    cases b1
    · go_wp2
      go_ret
      exact ⟨by rw [← HV.out]; rfl, HB.out⟩
    · go_wp2
      go_ret
      exact ⟨by rw [← HV.out]; simp, HB.out⟩
  by_cases h2 : z0 = 2
  · subst h2
    have HE : Hid ((gvn z2 z6 && gvn z5 z7) = t) := by show _ = _; rw [← h]; rfl
    clear h
    go_enter Try.func104, Try.ntmps104
    go_wp2_with fail
    have hs1 : (w.alloc (.cells #[.int .i64 2, .int .i64 z1, .int .i64 z2, .int .i64 z3, .int .i64 z4, .int .i64 z5, .int .i64 z6, .int .i64 z7, v8, v9, v10] 49)).heap.size = w.heap.size + 1 := by simp
    go_region_with (first
      | (go_at_call 117; refine (ipairA_eq _ _ _ _ _ _ _ _ _ _ _ z2 z5 rfl rfl _).mono ?_; rintro e w2 ⟨rfl, b6⟩; have HB2 := hid (show Below (w.heap.size + 1) (w.alloc (.cells #[.int .i64 2, .int .i64 z1, .int .i64 z2, .int .i64 z3, .int .i64 z4, .int .i64 z5, .int .i64 z6, .int .i64 z7, v8, v9, v10] 49)) w2 from ((Below.refl _ _).drew.trans (b6.mono (by simp)))); obtain ⟨r0, r1, r2, r3, r4, r5, r6, r7, r8, r9, r10⟩ := (PB.out.below HB2.out (by omega)).eleven; clear b6)
      | (go_at_call 119; refine (ipairIsOf_eq z6 z7 z2 z5 _ _ _ _ _ _ _ _ _ t HE.out _).mono ?_; rintro e w3 ⟨rfl, b7⟩; have HB3 := hid (HB2.out.trans (b7.mono (by have := HB2.out.size; omega))); clear b7))
    all_goals
      go_wp2
      go_ret
      exact ⟨rfl, BW.out.trans (HB3.out.mono (by omega))⟩
  have HV : Hid (t = false) := by show _ = _; rw [← h, decide_eq_false (by omega)]; rfl
  have d0 : (z0 == 0) = false := by simpa using h0
  have d1 : (z0 == 1) = false := by simpa using h1
  have d2 : (z0 == 2) = false := by simpa using h2
  clear h h0 h1 h2
  go_enter Try.func104, Try.ntmps104
  go_wp2
  go_ret
  exact ⟨by rw [HV.out]; rfl, BW.out⟩
set_option maxRecDepth 100000 in
set_option maxHeartbeats 8000000 in
theorem igoodB_eq (D : GrD) (v8 v9 v10 : Value) (t : Bool) (h : sideB D = t) (w : World) :
    Calls Try.prog 105 #[.agg #[.int .i64 D.f0, .int .i64 D.f1, .int .i64 D.f2, .int .i64 D.f3, .int .i64 D.f4, .int .i64 D.f5, .int .i64 D.f6, .int .i64 D.f7, v8, v9, v10]] w fun e w' => e = .returned (.bool t) ∧ Below w.heap.size w w' := by
  obtain ⟨z0, z1, z2, z3, z4, z5, z6, z7, L8, L9, L10⟩ := D
  unfold sideB at h
  simp only at h ⊢
  have PB := hid (boxL_new w [.int .i64 z0, .int .i64 z1, .int .i64 z2, .int .i64 z3, .int .i64 z4, .int .i64 z5, .int .i64 z6, .int .i64 z7, v8, v9, v10] 49)
  have BW : Hid (Below w.heap.size w (w.alloc (.cells #[.int .i64 z0, .int .i64 z1, .int .i64 z2, .int .i64 z3, .int .i64 z4, .int .i64 z5, .int .i64 z6, .int .i64 z7, v8, v9, v10] 49))) := (Below.refl _ _).alloc (Nat.le_refl _) _
  obtain ⟨q0, q1, q2, q3, q4, q5, q6, q7, q8, q9, q10⟩ := PB.out.eleven
  by_cases h0 : z1 = 0
  · subst h0
    obtain ⟨s2, hs2⟩ : ∃ s, (z4 == 0) = s := ⟨_, rfl⟩
    obtain ⟨s5, hs5⟩ : ∃ s, (z3 == 0) = s := ⟨_, rfl⟩
    have HV : Hid ((s2 && s5) = t) := by show _ = _; rw [← h, ← hs2, ← hs5]; rfl
    clear h
    cases s2 <;> cases s5
    all_goals
      go_enter Try.func105, Try.ntmps105
      go_wp2_with fail
      refine (ipairB_eq _ _ _ _ _ _ _ _ _ _ _ z4 z3 rfl rfl _).mono ?_
      rintro e w1 ⟨rfl, b⟩
      have HB := hid (BW.out.trans (b.mono BW.out.size))
      clear b q0 q1 q2 q3 q4 q5 q6 q7 q8 q9 q10
      go_wp2
      go_ret
      exact ⟨by rw [← HV.out]; rfl, HB.out⟩
  have d0 : (z1 == 0) = false := by simpa using h0
  by_cases h12 : z1 = 1 ∨ z1 = 2
  · have HE : Hid ((gvn z4 z6 && gvn z3 z7) = t) := by show _ = _; rw [← h, decide_eq_true (by omega), decide_eq_false h0]; rfl
    obtain ⟨c1, hc1⟩ : ∃ c, (z1 == 1) = c := ⟨_, rfl⟩
    obtain ⟨c2, hc2⟩ : ∃ c, (z1 == 2) = c := ⟨_, rfl⟩
    have HC : Hid ((c1 || c2) = true) := by show _ = _; rw [← hc1, ← hc2]; rcases h12 with h | h <;> subst h <;> rfl
    clear h h0 h12
    cases c1 <;> cases c2
    case false.false => exact absurd HC.out (by decide)
    all_goals
      go_enter Try.func105, Try.ntmps105
      go_wp2_with fail
      have hs1 : (w.alloc (.cells #[.int .i64 z0, .int .i64 z1, .int .i64 z2, .int .i64 z3, .int .i64 z4, .int .i64 z5, .int .i64 z6, .int .i64 z7, v8, v9, v10] 49)).heap.size = w.heap.size + 1 := by simp
      go_region_with (first
        | (go_at_call 120; refine (ipairB_eq _ _ _ _ _ _ _ _ _ _ _ z4 z3 rfl rfl _).mono ?_; rintro e w2 ⟨rfl, b6⟩; have HB2 := hid (show Below (w.heap.size + 1) (w.alloc (.cells #[.int .i64 z0, .int .i64 z1, .int .i64 z2, .int .i64 z3, .int .i64 z4, .int .i64 z5, .int .i64 z6, .int .i64 z7, v8, v9, v10] 49)) w2 from ((Below.refl _ _).drew.trans (b6.mono (by simp)))); obtain ⟨r0, r1, r2, r3, r4, r5, r6, r7, r8, r9, r10⟩ := (PB.out.below HB2.out (by omega)).eleven; clear b6)
        | (go_at_call 119; refine (ipairIsOf_eq z6 z7 z4 z3 _ _ _ _ _ _ _ _ _ t HE.out _).mono ?_; rintro e w3 ⟨rfl, b7⟩; have HB3 := hid (HB2.out.trans (b7.mono (by have := HB2.out.size; omega))); clear b7))
      all_goals
        go_wp2
        go_ret
        exact ⟨rfl, BW.out.trans (HB3.out.mono (by omega))⟩
  have HV : Hid (t = false) := by show _ = _; rw [← h, decide_eq_false (by omega)]; rfl
  have d1 : (z1 == 1) = false := by simp; omega
  have d2 : (z1 == 2) = false := by simp; omega
  clear h h0 h12
  go_enter Try.func105, Try.ntmps105
  go_wp2
  go_ret
  exact ⟨by rw [HV.out]; rfl, BW.out⟩
end Go.Proofs.Ytdlkilacnnjglaa
