/-
  The law FnRounds answers true at every two lists of bytes.
-/
import Derived.Test.YtepnhbicmlfnhadDrawShFns
import Derived.Test.YtepnhbicmlfnhadIRounds
import Derived.Test.YtepnhbicmlfnhadSRounds
import Derived.Test.YtepnhbicmlfnhadIRound
import Derived.Test.YtepnhbicmlfnhadSRoundFn
import Derived.Test.YtepnhbicmlfnhadISpread
import Derived.Test.YtepnhbicmlfnhadIGoodSh
import Derived.Test.YtepnhbicmlfnhadSameSh
import Derived.Test.YtepnhbicmlfnhadSumOf
import Derived.Test.YtepnhbicmlfnhadIsRow
import Derived.Deep.QuietTactic
import Derived.BigQuiet
import Derived.Deep.RegionHeld3
namespace Go.Proofs.Ytepnhbicmlfnhad
open Go.RowKit

theorem code_after10r {w w' : World} {v : Value} (h : CodeOk w.heap.size w v) (hb : Below w.heap.size w w') : CodeOk w'.heap.size w' v := by
  obtain ⟨a, len, cap, rfl, hl, hx⟩ := h.below hb
  refine ⟨a, len, cap, rfl, hl, ?_⟩
  rcases hx with hx | ⟨cb, off, rfl, hlt, hc⟩
  · exact .inl hx
  · exact .inr ⟨cb, off, rfl, Nat.lt_of_lt_of_le hlt hb.size, hc⟩
theorem rnds_told {D : ShD} {many : Int} (h : rndsOk D many = true) : ∃ n : Nat, rndsN D many = (n : Int) ∧ GoodS D ∧ GoodS (rndsD D many) ∧ sprS (rndsD D many) ≤ mostS (sprS D) n ∧ n ≤ 40 := by
  have h2 := h
  unfold rndsOk at h2
  rw [Bool.and_eq_true, Bool.and_eq_true, decide_eq_true_eq] at h2
  obtain ⟨⟨E, n⟩, hE⟩ := Option.isSome_iff_exists.1 h2.2.2
  have G := (goodS_iff D).1 h2.1
  have e1 : rndsD D many = E := by unfold rndsD; rw [h, hE]; rfl
  have e2 : rndsN D many = (n : Int) := by unfold rndsN; rw [h, hE]; rfl
  have h3 := rndsS_le hE
  refine ⟨n, e2, G, ?_, ?_, by omega⟩
  · rw [e1]; exact rndsS_good G hE
  · rw [e1]; exact rnds_spread G hE
set_option maxRecDepth 100000 in
set_option maxHeartbeats 40000000 in
theorem FnRounds_walk (a0 : Option Addr) (len0 cap0 : Nat) (z0 : List Int) (a1 : Option Addr) (len1 cap1 : Nat) (z1 : List Int) (w : World) (h0 : IsRow .u8 w a0 len0 cap0 z0) (h1 : IsRow .u8 w a1 len1 cap1 z1) (b0 : cap0 * 1 ≤ 140737488351232) (b1 : cap1 * 1 ≤ 140737488351232) :
    Calls Try.prog 4 #[.slice a0 len0 cap0, .slice a1 len1 cap1] w fun e w' => e = .returned (.bool true) ∧ Below w.heap.size w w' := by
  have l0 : len0 ≤ cap0 := by rcases h0 with ⟨_, rfl, rfl, _⟩ | ⟨x, _, h, _⟩ <;> omega
  have l1 : len1 ≤ cap1 := by rcases h1 with ⟨_, rfl, rfl, _⟩ | ⟨x, _, h, _⟩ <;> omega
  by_cases hbig : (1048576 : Int) < (len0 : Int) + (len1 : Int)
  · clear h0 h1
    go_enter Try.func4, Try.ntmps4
    go_wp2
    go_ret
    exact ⟨rfl, Below.refl _ _⟩
  have HC0 := hid (code_of_row h0 (by omega))
  have HC1 := hid (code_of_row h1 (by omega))
  clear h0 h1
  have B : Hid (Below w.heap.size w w) := Below.refl _ _
  go_enter Try.func4, Try.ntmps4
  go_wp2_with fail
  refine (drawRounds_any _ _ HC0.out).mono ?_
  rintro e w1 ⟨t, many, rfl, D, hO, b⟩
  have hr := hO.reads
  obtain ⟨ta, tk, rfl⟩ := sh_form hr
  have RT := hid hr
  clear hr hO
  replace B : Hid (Below w.heap.size w w1) := B.out.trans (b.mono B.out.size)
  clear b
  have b : Below w1.heap.size w1 (w1.alloc (.cells #[.slice ta D.f0.length tk, .int .i64 D.f1] 25)) := (Below.refl _ _).alloc (Nat.le_refl _) _
  replace RT := hid (RT.out.below b)
  replace B : Hid (Below w.heap.size w (w1.alloc (.cells #[.slice ta D.f0.length tk, .int .i64 D.f1] 25))) := B.out.trans (b.mono B.out.size)
  have KT := hid (boxL_new w1 [.slice ta D.f0.length tk, .int .i64 D.f1] 25)
  clear b
  obtain ⟨ok, hok⟩ : ∃ ok, rndsOk D many = ok := ⟨_, rfl⟩
  obtain ⟨X, hX⟩ : ∃ X, rndsD D many = X := ⟨_, rfl⟩
  obtain ⟨n, hn⟩ : ∃ n, rndsN D many = n := ⟨_, rfl⟩
  have HOK := hid hok
  have HX := hid hX
  have HN := hid hn
  clear hok hX hn
  obtain ⟨q00, q01⟩ := KT.out.two
  go_wp2_with fail
  refine (irounds_any _ D many _ RT.out X n ok HX.out HN.out HOK.out).mono ?_
  rintro e w2 ⟨xu, rfl, hO, b⟩
  have hr := hO.reads
  obtain ⟨xa, xk, rfl⟩ := sh_form hr
  have RX := hid hr
  clear hr hO
  clear q00 q01
  replace KT := hid (KT.out.below b KT.out.lt)
  replace RT := hid (RT.out.below b)
  replace B : Hid (Below w.heap.size w w2) := B.out.trans (b.mono B.out.size)
  clear b
  have b : Below w2.heap.size w2 (w2.alloc (.cells #[.slice xa X.f0.length xk, .int .i64 X.f1] 25)) := (Below.refl _ _).alloc (Nat.le_refl _) _
  replace KT := hid (KT.out.below b KT.out.lt)
  replace RT := hid (RT.out.below b)
  replace RX := hid (RX.out.below b)
  replace B : Hid (Below w.heap.size w (w2.alloc (.cells #[.slice xa X.f0.length xk, .int .i64 X.f1] 25))) := B.out.trans (b.mono B.out.size)
  have KX := hid (boxL_new w2 [.slice xa X.f0.length xk, .int .i64 X.f1] 25)
  clear b
  obtain ⟨q00, q01⟩ := KT.out.two
  obtain ⟨q10, q11⟩ := KX.out.two
  go_wp2_with fail
  refine (srounds_any _ D many _ RT.out X n ok HX.out HN.out HOK.out).mono ?_
  rintro e w3 ⟨yu, rfl, hO, b⟩
  have hr := hO.reads
  obtain ⟨ya, yk, rfl⟩ := sh_form hr
  have RY := hid hr
  clear hr hO
  clear q00 q01 q10 q11
  replace KT := hid (KT.out.below b KT.out.lt)
  replace KX := hid (KX.out.below b KX.out.lt)
  replace RT := hid (RT.out.below b)
  replace RX := hid (RX.out.below b)
  replace B : Hid (Below w.heap.size w w3) := B.out.trans (b.mono B.out.size)
  clear b
  have b : Below w3.heap.size w3 (w3.alloc (.cells #[.slice ya X.f0.length yk, .int .i64 X.f1] 25)) := (Below.refl _ _).alloc (Nat.le_refl _) _
  replace KT := hid (KT.out.below b KT.out.lt)
  replace KX := hid (KX.out.below b KX.out.lt)
  replace RT := hid (RT.out.below b)
  replace RX := hid (RX.out.below b)
  replace RY := hid (RY.out.below b)
  replace B : Hid (Below w.heap.size w (w3.alloc (.cells #[.slice ya X.f0.length yk, .int .i64 X.f1] 25))) := B.out.trans (b.mono B.out.size)
  have KY := hid (boxL_new w3 [.slice ya X.f0.length yk, .int .i64 X.f1] 25)
  clear b
  have n1 : (ok != ok) = false := by cases ok <;> rfl
  have n2 : (n != n) = false := by simp
  obtain ⟨q00, q01⟩ := KT.out.two
  obtain ⟨q10, q11⟩ := KX.out.two
  obtain ⟨q20, q21⟩ := KY.out.two
  go_wp2_with fail
  refine (sameShares_same _ _ X _ RX.out RY.out).mono ?_
  rintro e w4 ⟨rfl, b⟩
  clear q00 q01 q10 q11 q20 q21
  replace KT := hid (KT.out.below b KT.out.lt)
  replace KX := hid (KX.out.below b KX.out.lt)
  replace KY := hid (KY.out.below b KY.out.lt)
  replace RT := hid (RT.out.below b)
  replace RX := hid (RX.out.below b)
  replace RY := hid (RY.out.below b)
  replace B : Hid (Below w.heap.size w w4) := B.out.trans (b.mono B.out.size)
  clear b
  clear n1 n2 KY RY
  cases ok
  · skip
    go_wp2_with fail
    refine (drawRound_any _ _ (code_after10r HC1.out B.out)).mono ?_
    rintro e w5 ⟨eu, rfl, E, hO, b⟩
    have hr := hO.reads
    obtain ⟨ea, ek, rfl⟩ := sh_form hr
    have RE := hid hr
    clear hr hO
    replace B : Hid (Below w.heap.size w w5) := B.out.trans (b.mono B.out.size)
    clear b
    have b : Below w5.heap.size w5 (w5.alloc (.cells #[.slice ea E.f0.length ek, .int .i64 E.f1] 25)) := (Below.refl _ _).alloc (Nat.le_refl _) _
    replace RE := hid (RE.out.below b)
    replace B : Hid (Below w.heap.size w (w5.alloc (.cells #[.slice ea E.f0.length ek, .int .i64 E.f1] 25))) := B.out.trans (b.mono B.out.size)
    have KE := hid (boxL_new w5 [.slice ea E.f0.length ek, .int .i64 E.f1] 25)
    clear b
    obtain ⟨t3, ht3⟩ : ∃ t, rndB E = t := ⟨_, rfl⟩
    obtain ⟨h3, hh3⟩ : ∃ t, rndH E = t := ⟨_, rfl⟩
    obtain ⟨Y, hY⟩ : ∃ Y, rndR E = Y := ⟨_, rfl⟩
    have HT3 := hid ht3
    have HH3 := hid hh3
    have HY := hid hY
    clear ht3 hh3 hY
    obtain ⟨q00, q01⟩ := KE.out.two
    go_wp2_with fail
    refine (iroundOf_any _ E _ RE.out Y h3 t3 HY.out HH3.out HT3.out).mono ?_
    rintro e w6 ⟨ru, rfl, hO, b⟩
    have hr := hO.reads
    obtain ⟨ra, rk, rfl⟩ := sh_form hr
    have RR := hid hr
    clear hr hO
    clear q00 q01
    replace KE := hid (KE.out.below b KE.out.lt)
    replace RE := hid (RE.out.below b)
    replace B : Hid (Below w.heap.size w w6) := B.out.trans (b.mono B.out.size)
    clear b
    have b : Below w6.heap.size w6 (w6.alloc (.cells #[.slice ra Y.f0.length rk, .int .i64 Y.f1] 25)) := (Below.refl _ _).alloc (Nat.le_refl _) _
    replace KE := hid (KE.out.below b KE.out.lt)
    replace RE := hid (RE.out.below b)
    replace RR := hid (RR.out.below b)
    replace B : Hid (Below w.heap.size w (w6.alloc (.cells #[.slice ra Y.f0.length rk, .int .i64 Y.f1] 25))) := B.out.trans (b.mono B.out.size)
    have KR := hid (boxL_new w6 [.slice ra Y.f0.length rk, .int .i64 Y.f1] 25)
    clear b
    obtain ⟨q00, q01⟩ := KE.out.two
    obtain ⟨q10, q11⟩ := KR.out.two
    go_wp2_with fail
    refine (sroundOf_any _ E _ RE.out Y h3 t3 HY.out HH3.out HT3.out).mono ?_
    rintro e w7 ⟨ou, rfl, hO, b⟩
    have hr := hO.reads
    obtain ⟨oa, ok, rfl⟩ := sh_form hr
    have RO := hid hr
    clear hr hO
    clear q00 q01 q10 q11
    replace KE := hid (KE.out.below b KE.out.lt)
    replace KR := hid (KR.out.below b KR.out.lt)
    replace RE := hid (RE.out.below b)
    replace RR := hid (RR.out.below b)
    replace B : Hid (Below w.heap.size w w7) := B.out.trans (b.mono B.out.size)
    clear b
    have b : Below w7.heap.size w7 (w7.alloc (.cells #[.slice oa Y.f0.length ok, .int .i64 Y.f1] 25)) := (Below.refl _ _).alloc (Nat.le_refl _) _
    replace KE := hid (KE.out.below b KE.out.lt)
    replace KR := hid (KR.out.below b KR.out.lt)
    replace RE := hid (RE.out.below b)
    replace RR := hid (RR.out.below b)
    replace RO := hid (RO.out.below b)
    replace B : Hid (Below w.heap.size w (w7.alloc (.cells #[.slice oa Y.f0.length ok, .int .i64 Y.f1] 25))) := B.out.trans (b.mono B.out.size)
    have KO := hid (boxL_new w7 [.slice oa Y.f0.length ok, .int .i64 Y.f1] 25)
    clear b
    obtain ⟨V, hV⟩ : ∃ V, V = (w7.alloc (.cells #[.slice oa Y.f0.length ok, .int .i64 Y.f1] 25)) := ⟨_, rfl⟩
    rw [← hV] at B KE KR KO RE RR RO
    have HV := hid hV
    clear hV
    have HSS : Hid (∀ wq, Below V.heap.size V wq → Calls Try.prog 14 #[.agg #[.slice ra Y.f0.length rk, .int .i64 Y.f1], .agg #[.slice oa Y.f0.length ok, .int .i64 Y.f1]] wq fun e w' => e = .returned (.bool true) ∧ Below wq.heap.size wq w') := fun wq hq => sameShares_same _ _ Y wq (RR.out.below hq) (RO.out.below hq)
    cases t3
    · have hh0 : h3 = false := by
        have h := HH3.out
        unfold rndH at h
        rw [HT3.out] at h
        exact h.symm
      subst hh0
      have e1 : (false == false) = true := rfl
      have qX : Below V.heap.size V V.drew := (Below.refl _ _).drew
      obtain ⟨s0, s1⟩ := KE.out.two
      obtain ⟨s2, s3⟩ := KR.out.two
      obtain ⟨s4, s5⟩ := KO.out.two
      go_wp2_with fail
      rw [← HV.out]
      clear HV
      refine wp_region_any (by kernel_rfl) ?_
      change wpAny _ _ _ _ _ _ _ (World.drew _)
      refine wpAny_take (i := 0) (v := (.bool false)) rfl (by kernel_rfl) (by kernel_rfl) (by kernel_rfl) (fun _ _ _ h => h) (Or.inl ⟨by kernel_rfl, fun _ => by go_simp⟩) ?_
      try simp only [Act.put]
      try simp only [List.setIfInBounds_toArray]
      try simp only [List.set_cons_succ]
      try simp only [List.set_cons_zero]
      refine wpAny_take (i := 1) (v := (.bool false)) rfl (by kernel_rfl) (by kernel_rfl) (by kernel_rfl) (fun _ _ _ h => h) (Or.inl ⟨by kernel_rfl, fun _ => by go_simp⟩) ?_
      try simp only [Act.put]
      try simp only [List.setIfInBounds_toArray]
      try simp only [List.set_cons_succ]
      try simp only [List.set_cons_zero]
      refine wpAny_take (i := 2) (v := (.bool true)) rfl (by kernel_rfl) (by kernel_rfl) (by kernel_rfl) (fun _ _ _ h => h) (Or.inl ⟨by kernel_rfl, fun _ => by go_simp⟩) ?_
      try simp only [Act.put]
      try simp only [List.setIfInBounds_toArray]
      try simp only [List.set_cons_succ]
      try simp only [List.set_cons_zero]
      refine wpAny_take (i := 3) (v := (.bool true)) rfl (by kernel_rfl) (by kernel_rfl) (by kernel_rfl) (fun _ _ _ h => h) (Or.inl ⟨by kernel_rfl, fun _ => by go_simp⟩) ?_
      try simp only [Act.put]
      try simp only [List.setIfInBounds_toArray]
      try simp only [List.set_cons_succ]
      try simp only [List.set_cons_zero]
      refine wpAny_take (i := 4) (v := (.bool false)) rfl (by kernel_rfl) (by kernel_rfl) (by kernel_rfl) (fun _ _ _ h => h) (Or.inl ⟨by kernel_rfl, fun _ => by go_simp⟩) ?_
      try simp only [Act.put]
      try simp only [List.setIfInBounds_toArray]
      try simp only [List.set_cons_succ]
      try simp only [List.set_cons_zero]
      refine wpAny_take (i := 5) (v := (.bool false)) rfl (by kernel_rfl) (by kernel_rfl) (by kernel_rfl) (fun _ _ _ h => h) (Or.inl ⟨by kernel_rfl, fun _ => by go_simp⟩) ?_
      try simp only [Act.put]
      try simp only [List.setIfInBounds_toArray]
      try simp only [List.set_cons_succ]
      try simp only [List.set_cons_zero]
      refine wpAny_take (i := 6) (v := (.bool true)) rfl (by kernel_rfl) (by kernel_rfl) (by kernel_rfl) (fun _ _ _ h => h) (Or.inl ⟨by kernel_rfl, fun _ => by go_simp⟩) ?_
      try simp only [Act.put]
      try simp only [List.setIfInBounds_toArray]
      try simp only [List.set_cons_succ]
      try simp only [List.set_cons_zero]
      refine wpAny_take (i := 7) (v := (.bool true)) rfl (by kernel_rfl) (by kernel_rfl) (by kernel_rfl) (fun _ _ _ h => h) (Or.inl ⟨by kernel_rfl, fun _ => by go_simp⟩) ?_
      try simp only [Act.put]
      try simp only [List.setIfInBounds_toArray]
      try simp only [List.set_cons_succ]
      try simp only [List.set_cons_zero]
      refine wpAny_take (i := 8) (v := (.bool true)) rfl (by kernel_rfl) (by kernel_rfl) (by kernel_rfl) (fun _ _ _ h => h) (Or.inl ⟨by kernel_rfl, fun _ => by go_simp⟩) ?_
      try simp only [Act.put]
      try simp only [List.setIfInBounds_toArray]
      try simp only [List.set_cons_succ]
      try simp only [List.set_cons_zero]
      obtain ⟨V1, hV1⟩ : ∃ X, X = World.drew V := ⟨_, rfl⟩
      rw [← hV1] at qX ⊢
      obtain ⟨x0, x1⟩ := (KR.out.below qX KR.out.lt).two
      obtain ⟨x2, x3⟩ := (KO.out.below qX KO.out.lt).two
      clear hV1 s0 s1 s2 s3 s4 s5
      refine wpAny_ready (rs := [9, 10]) (by kernel_rfl) (by simp) ?_
      refine AllReady.cons rfl (fun K hK => ?_) (AllReady.cons rfl (fun K hK => ?_) AllReady.nil)
      · go_simp
        refine hK _ _ ?_
        clear hK K
        refine wpAny_ready (rs := [10]) (by kernel_rfl) (by simp) ?_
        refine AllReady.cons rfl (fun K hK => ?_) AllReady.nil
        go_simp
        refine hK _ _ ?_
        clear hK K
        clear x0 x1 x2 x3
        refine wpAny_ready (rs := [11]) (by kernel_rfl) (by simp) ?_
        refine AllReady.cons rfl (fun K hK => ?_) AllReady.nil
        go_simp
        refine (HSS.out _ qX).mono ?_
        rintro e wt ⟨rfl, b⟩
        refine hK _ _ ?_
        clear hK K
        refine wpAny_ready (rs := [12]) (by kernel_rfl) (by simp) ?_
        refine AllReady.cons rfl (fun K hK => ?_) AllReady.nil
        go_simp
        refine hK _ _ ?_
        clear hK K
        refine wpAny_ready (rs := [13]) (by kernel_rfl) (by simp) ?_
        refine AllReady.cons rfl (fun K hK => ?_) AllReady.nil
        go_simp
        refine hK _ _ ?_
        clear hK K
        refine wpAny_ready (rs := [14]) (by kernel_rfl) (by simp) ?_
        refine AllReady.cons rfl (fun K hK => ?_) AllReady.nil
        go_simp
        refine hK _ _ ?_
        clear hK K
        refine wpAny_ready (rs := [15]) (by kernel_rfl) (by simp) ?_
        refine AllReady.cons rfl (fun K hK => ?_) AllReady.nil
        go_simp
        refine hK _ _ ?_
        clear hK K
        refine wpAny_ready (rs := [16]) (by kernel_rfl) (by simp) ?_
        refine AllReady.cons rfl (fun K hK => ?_) AllReady.nil
        go_simp
        refine hK _ _ ?_
        clear hK K
        refine wpAny_take (i := 17) (v := undef) rfl (by kernel_rfl) (by kernel_rfl) (by kernel_rfl) (fun _ _ _ h => h) (Or.inr ⟨by kernel_rfl, rfl⟩) ?_
        try simp only [Act.put]
        try simp only [List.setIfInBounds_toArray]
        try simp only [List.set_cons_succ]
        try simp only [List.set_cons_zero]
        refine wpAny_take (i := 18) (v := undef) rfl (by kernel_rfl) (by kernel_rfl) (by kernel_rfl) (fun _ _ _ h => h) (Or.inr ⟨by kernel_rfl, rfl⟩) ?_
        try simp only [Act.put]
        try simp only [List.setIfInBounds_toArray]
        try simp only [List.set_cons_succ]
        try simp only [List.set_cons_zero]
        refine wpAny_take (i := 19) (v := undef) rfl (by kernel_rfl) (by kernel_rfl) (by kernel_rfl) (fun _ _ _ h => h) (Or.inr ⟨by kernel_rfl, rfl⟩) ?_
        try simp only [Act.put]
        try simp only [List.setIfInBounds_toArray]
        try simp only [List.set_cons_succ]
        try simp only [List.set_cons_zero]
        refine wpAny_take (i := 20) (v := undef) rfl (by kernel_rfl) (by kernel_rfl) (by kernel_rfl) (fun _ _ _ h => h) (Or.inr ⟨by kernel_rfl, rfl⟩) ?_
        try simp only [Act.put]
        try simp only [List.setIfInBounds_toArray]
        try simp only [List.set_cons_succ]
        try simp only [List.set_cons_zero]
        refine wpAny_take (i := 21) (v := undef) rfl (by kernel_rfl) (by kernel_rfl) (by kernel_rfl) (fun _ _ _ h => h) (Or.inr ⟨by kernel_rfl, rfl⟩) ?_
        try simp only [Act.put]
        try simp only [List.setIfInBounds_toArray]
        try simp only [List.set_cons_succ]
        try simp only [List.set_cons_zero]
        refine wpAny_take (i := 22) (v := undef) rfl (by kernel_rfl) (by kernel_rfl) (by kernel_rfl) (fun _ _ _ h => h) (Or.inr ⟨by kernel_rfl, rfl⟩) ?_
        try simp only [Act.put]
        try simp only [List.setIfInBounds_toArray]
        try simp only [List.set_cons_succ]
        try simp only [List.set_cons_zero]
        refine wpAny_take (i := 23) (v := undef) rfl (by kernel_rfl) (by kernel_rfl) (by kernel_rfl) (fun _ _ _ h => h) (Or.inr ⟨by kernel_rfl, rfl⟩) ?_
        try simp only [Act.put]
        try simp only [List.setIfInBounds_toArray]
        try simp only [List.set_cons_succ]
        try simp only [List.set_cons_zero]
        refine wpAny_take (i := 24) (v := undef) rfl (by kernel_rfl) (by kernel_rfl) (by kernel_rfl) (fun _ _ _ h => h) (Or.inr ⟨by kernel_rfl, rfl⟩) ?_
        try simp only [Act.put]
        try simp only [List.setIfInBounds_toArray]
        try simp only [List.set_cons_succ]
        try simp only [List.set_cons_zero]
        refine wpAny_ready (rs := [25]) (by kernel_rfl) (by simp) ?_
        refine AllReady.cons rfl (fun K hK => ?_) AllReady.nil
        go_simp
        refine hK _ _ ?_
        clear hK K
        refine wpAny_ready (rs := [26]) (by kernel_rfl) (by simp) ?_
        refine AllReady.cons rfl (fun K hK => ?_) AllReady.nil
        go_simp
        refine hK _ _ ?_
        clear hK K
        refine wpAny_ready (rs := [27]) (by kernel_rfl) (by simp) ?_
        refine AllReady.cons rfl (fun K hK => ?_) AllReady.nil
        go_simp
        refine hK _ _ ?_
        clear hK K
        refine wpAny_done (by kernel_rfl) ?_ _
        go_wp2
        go_ret
        exact ⟨rfl, B.out.trans ((qX.trans (b.mono qX.size)).mono B.out.size)⟩
      · go_simp
        refine hK _ _ ?_
        clear hK K
        refine wpAny_ready (rs := [9]) (by kernel_rfl) (by simp) ?_
        refine AllReady.cons rfl (fun K hK => ?_) AllReady.nil
        go_simp
        refine hK _ _ ?_
        clear hK K
        clear x0 x1 x2 x3
        refine wpAny_ready (rs := [11]) (by kernel_rfl) (by simp) ?_
        refine AllReady.cons rfl (fun K hK => ?_) AllReady.nil
        go_simp
        refine (HSS.out _ qX).mono ?_
        rintro e wt ⟨rfl, b⟩
        refine hK _ _ ?_
        clear hK K
        refine wpAny_ready (rs := [12]) (by kernel_rfl) (by simp) ?_
        refine AllReady.cons rfl (fun K hK => ?_) AllReady.nil
        go_simp
        refine hK _ _ ?_
        clear hK K
        refine wpAny_ready (rs := [13]) (by kernel_rfl) (by simp) ?_
        refine AllReady.cons rfl (fun K hK => ?_) AllReady.nil
        go_simp
        refine hK _ _ ?_
        clear hK K
        refine wpAny_ready (rs := [14]) (by kernel_rfl) (by simp) ?_
        refine AllReady.cons rfl (fun K hK => ?_) AllReady.nil
        go_simp
        refine hK _ _ ?_
        clear hK K
        refine wpAny_ready (rs := [15]) (by kernel_rfl) (by simp) ?_
        refine AllReady.cons rfl (fun K hK => ?_) AllReady.nil
        go_simp
        refine hK _ _ ?_
        clear hK K
        refine wpAny_ready (rs := [16]) (by kernel_rfl) (by simp) ?_
        refine AllReady.cons rfl (fun K hK => ?_) AllReady.nil
        go_simp
        refine hK _ _ ?_
        clear hK K
        refine wpAny_take (i := 17) (v := undef) rfl (by kernel_rfl) (by kernel_rfl) (by kernel_rfl) (fun _ _ _ h => h) (Or.inr ⟨by kernel_rfl, rfl⟩) ?_
        try simp only [Act.put]
        try simp only [List.setIfInBounds_toArray]
        try simp only [List.set_cons_succ]
        try simp only [List.set_cons_zero]
        refine wpAny_take (i := 18) (v := undef) rfl (by kernel_rfl) (by kernel_rfl) (by kernel_rfl) (fun _ _ _ h => h) (Or.inr ⟨by kernel_rfl, rfl⟩) ?_
        try simp only [Act.put]
        try simp only [List.setIfInBounds_toArray]
        try simp only [List.set_cons_succ]
        try simp only [List.set_cons_zero]
        refine wpAny_take (i := 19) (v := undef) rfl (by kernel_rfl) (by kernel_rfl) (by kernel_rfl) (fun _ _ _ h => h) (Or.inr ⟨by kernel_rfl, rfl⟩) ?_
        try simp only [Act.put]
        try simp only [List.setIfInBounds_toArray]
        try simp only [List.set_cons_succ]
        try simp only [List.set_cons_zero]
        refine wpAny_take (i := 20) (v := undef) rfl (by kernel_rfl) (by kernel_rfl) (by kernel_rfl) (fun _ _ _ h => h) (Or.inr ⟨by kernel_rfl, rfl⟩) ?_
        try simp only [Act.put]
        try simp only [List.setIfInBounds_toArray]
        try simp only [List.set_cons_succ]
        try simp only [List.set_cons_zero]
        refine wpAny_take (i := 21) (v := undef) rfl (by kernel_rfl) (by kernel_rfl) (by kernel_rfl) (fun _ _ _ h => h) (Or.inr ⟨by kernel_rfl, rfl⟩) ?_
        try simp only [Act.put]
        try simp only [List.setIfInBounds_toArray]
        try simp only [List.set_cons_succ]
        try simp only [List.set_cons_zero]
        refine wpAny_take (i := 22) (v := undef) rfl (by kernel_rfl) (by kernel_rfl) (by kernel_rfl) (fun _ _ _ h => h) (Or.inr ⟨by kernel_rfl, rfl⟩) ?_
        try simp only [Act.put]
        try simp only [List.setIfInBounds_toArray]
        try simp only [List.set_cons_succ]
        try simp only [List.set_cons_zero]
        refine wpAny_take (i := 23) (v := undef) rfl (by kernel_rfl) (by kernel_rfl) (by kernel_rfl) (fun _ _ _ h => h) (Or.inr ⟨by kernel_rfl, rfl⟩) ?_
        try simp only [Act.put]
        try simp only [List.setIfInBounds_toArray]
        try simp only [List.set_cons_succ]
        try simp only [List.set_cons_zero]
        refine wpAny_take (i := 24) (v := undef) rfl (by kernel_rfl) (by kernel_rfl) (by kernel_rfl) (fun _ _ _ h => h) (Or.inr ⟨by kernel_rfl, rfl⟩) ?_
        try simp only [Act.put]
        try simp only [List.setIfInBounds_toArray]
        try simp only [List.set_cons_succ]
        try simp only [List.set_cons_zero]
        refine wpAny_ready (rs := [25]) (by kernel_rfl) (by simp) ?_
        refine AllReady.cons rfl (fun K hK => ?_) AllReady.nil
        go_simp
        refine hK _ _ ?_
        clear hK K
        refine wpAny_ready (rs := [26]) (by kernel_rfl) (by simp) ?_
        refine AllReady.cons rfl (fun K hK => ?_) AllReady.nil
        go_simp
        refine hK _ _ ?_
        clear hK K
        refine wpAny_ready (rs := [27]) (by kernel_rfl) (by simp) ?_
        refine AllReady.cons rfl (fun K hK => ?_) AllReady.nil
        go_simp
        refine hK _ _ ?_
        clear hK K
        refine wpAny_done (by kernel_rfl) ?_ _
        go_wp2
        go_ret
        exact ⟨rfl, B.out.trans ((qX.trans (b.mono qX.size)).mono B.out.size)⟩
    · cases h3
      · skip
        have e1 : (true == true) = true := rfl
        have GE : GoodS E := by
          have h := HT3.out
          unfold rndB at h
          rw [Bool.and_eq_true] at h
          exact (goodS_iff E).1 h.1
        obtain ⟨sm, hsm⟩ : ∃ s, psum (fl E.f0) E.f0.length = s := ⟨_, rfl⟩
        have dov : decide (E.f1 < sm) = false := by
          have h := HH3.out
          unfold rndH at h
          rw [HT3.out, Bool.true_and] at h
          unfold overS sumW at h
          rw [hsm] at h
          exact h
        have HSO : Hid (∀ wq, Below V.heap.size V wq → Calls Try.prog 25 #[.slice ea E.f0.length ek] wq fun e w' => e = .returned (.int .i64 sm) ∧ w' = wq) := fun wq hq => by
          have h := sumOf_any _ E.f0 wq (RE.out.below hq).row (by have := GE.l5; omega) (fun t => GE.all t)
          rw [hsm] at h
          exact h
        clear GE hsm
        have qX : Below V.heap.size V V.drew := (Below.refl _ _).drew
        obtain ⟨s0, s1⟩ := KE.out.two
        obtain ⟨s2, s3⟩ := KR.out.two
        obtain ⟨s4, s5⟩ := KO.out.two
        go_wp2_with fail
        rw [← HV.out]
        clear HV
        go_region_held3 (fun w' => w'.cell? ⟨w5.heap.size, 0, none⟩ = some (.slice ea E.f0.length ek) ∧ w'.cell? ⟨w5.heap.size, 1, none⟩ = some (.int .i64 E.f1) ∧ w'.cell? ⟨w6.heap.size, 0, none⟩ = some (.slice ra Y.f0.length rk) ∧ w'.cell? ⟨w6.heap.size, 1, none⟩ = some (.int .i64 Y.f1) ∧ w'.cell? ⟨w7.heap.size, 0, none⟩ = some (.slice oa Y.f0.length ok) ∧ w'.cell? ⟨w7.heap.size, 1, none⟩ = some (.int .i64 Y.f1) ∧ Below V.heap.size V w') (first | (refine ⟨?_, ?_, ?_, ?_, ?_, ?_, ?_⟩ <;> assumption) | exact ⟨s0, s1, s2, s3, s4, s5, qX⟩)
          (first | (go_at_call 14; refine (HSS.out _ (show Below V.heap.size V _ by first | assumption | exact (by assumption : _ ∧ _ ∧ _ ∧ _ ∧ _ ∧ _ ∧ Below V.heap.size V _).2.2.2.2.2.2)).mono ?_; rintro e wt ⟨rfl, b⟩; have qX := Below.trans (show Below V.heap.size V _ by first | assumption | exact (by assumption : _ ∧ _ ∧ _ ∧ _ ∧ _ ∧ _ ∧ Below V.heap.size V _).2.2.2.2.2.2) (b.mono (Below.size (show Below V.heap.size V _ by first | assumption | exact (by assumption : _ ∧ _ ∧ _ ∧ _ ∧ _ ∧ _ ∧ Below V.heap.size V _).2.2.2.2.2.2))); obtain ⟨s0, s1⟩ := (KE.out.below qX KE.out.lt).two; obtain ⟨s2, s3⟩ := (KR.out.below qX KR.out.lt).two; obtain ⟨s4, s5⟩ := (KO.out.below qX KO.out.lt).two) | (go_at_call 25; refine (HSO.out _ (show Below V.heap.size V _ by first | assumption | exact (by assumption : _ ∧ _ ∧ _ ∧ _ ∧ _ ∧ _ ∧ Below V.heap.size V _).2.2.2.2.2.2)).mono ?_; rintro e w' ⟨rfl, hw⟩; obtain rfl := hw.symm))
        all_goals
          go_wp2
          go_ret
          exact ⟨rfl, B.out.trans (qX.mono B.out.size)⟩
      · skip
        have e1 : (true == true) = true := rfl
        have GE : GoodS E := by
          have h := HT3.out
          unfold rndB at h
          rw [Bool.and_eq_true] at h
          exact (goodS_iff E).1 h.1
        obtain ⟨sm, hsm⟩ : ∃ s, psum (fl E.f0) E.f0.length = s := ⟨_, rfl⟩
        have dov : decide (E.f1 < sm) = true := by
          have h := HH3.out
          unfold rndH at h
          rw [HT3.out, Bool.true_and] at h
          unfold overS sumW at h
          rw [hsm] at h
          exact h
        have HSO : Hid (∀ wq, Below V.heap.size V wq → Calls Try.prog 25 #[.slice ea E.f0.length ek] wq fun e w' => e = .returned (.int .i64 sm) ∧ w' = wq) := fun wq hq => by
          have h := sumOf_any _ E.f0 wq (RE.out.below hq).row (by have := GE.l5; omega) (fun t => GE.all t)
          rw [hsm] at h
          exact h
        clear GE hsm
        have qX : Below V.heap.size V V.drew := (Below.refl _ _).drew
        obtain ⟨s0, s1⟩ := KE.out.two
        obtain ⟨s2, s3⟩ := KR.out.two
        obtain ⟨s4, s5⟩ := KO.out.two
        go_wp2_with fail
        rw [← HV.out]
        clear HV
        go_region_held3 (fun w' => w'.cell? ⟨w5.heap.size, 0, none⟩ = some (.slice ea E.f0.length ek) ∧ w'.cell? ⟨w5.heap.size, 1, none⟩ = some (.int .i64 E.f1) ∧ w'.cell? ⟨w6.heap.size, 0, none⟩ = some (.slice ra Y.f0.length rk) ∧ w'.cell? ⟨w6.heap.size, 1, none⟩ = some (.int .i64 Y.f1) ∧ w'.cell? ⟨w7.heap.size, 0, none⟩ = some (.slice oa Y.f0.length ok) ∧ w'.cell? ⟨w7.heap.size, 1, none⟩ = some (.int .i64 Y.f1) ∧ Below V.heap.size V w') (first | (refine ⟨?_, ?_, ?_, ?_, ?_, ?_, ?_⟩ <;> assumption) | exact ⟨s0, s1, s2, s3, s4, s5, qX⟩)
          (first | (go_at_call 14; refine (HSS.out _ (show Below V.heap.size V _ by first | assumption | exact (by assumption : _ ∧ _ ∧ _ ∧ _ ∧ _ ∧ _ ∧ Below V.heap.size V _).2.2.2.2.2.2)).mono ?_; rintro e wt ⟨rfl, b⟩; have qX := Below.trans (show Below V.heap.size V _ by first | assumption | exact (by assumption : _ ∧ _ ∧ _ ∧ _ ∧ _ ∧ _ ∧ Below V.heap.size V _).2.2.2.2.2.2) (b.mono (Below.size (show Below V.heap.size V _ by first | assumption | exact (by assumption : _ ∧ _ ∧ _ ∧ _ ∧ _ ∧ _ ∧ Below V.heap.size V _).2.2.2.2.2.2))); obtain ⟨s0, s1⟩ := (KE.out.below qX KE.out.lt).two; obtain ⟨s2, s3⟩ := (KR.out.below qX KR.out.lt).two; obtain ⟨s4, s5⟩ := (KO.out.below qX KO.out.lt).two) | (go_at_call 25; refine (HSO.out _ (show Below V.heap.size V _ by first | assumption | exact (by assumption : _ ∧ _ ∧ _ ∧ _ ∧ _ ∧ _ ∧ Below V.heap.size V _).2.2.2.2.2.2)).mono ?_; rintro e w' ⟨rfl, hw⟩; obtain rfl := hw.symm))
        all_goals
          go_wp2
          go_ret
          exact ⟨rfl, B.out.trans (qX.mono B.out.size)⟩
  · skip
    obtain ⟨m, hm, GD, GX, hsp, hm40⟩ := rnds_told HOK.out
    rw [HX.out] at GX hsp
    rw [HN.out] at hm
    subst hm
    obtain ⟨dd, hdd⟩ : ∃ x, sprS D = x := ⟨_, rfl⟩
    obtain ⟨dx, hdx⟩ : ∃ x, sprS X = x := ⟨_, rfl⟩
    rw [hdd, hdx] at hsp
    have eD := GD.ends
    have hd0 : 0 ≤ dd ∧ dd ≤ 10000 := by rw [← hdd]; unfold sprS; omega
    have HSP := hid hsp
    have HM0 : Hid (∀ k, 0 ≤ mostS dd k ∧ mostS dd k ≤ 10000) := mostS_in hd0.1 hd0.2
    have HD1 : Hid (sprRI D = dd) := by show _ = _; unfold sprRI; rw [(goodS_iff D).2 GD]; exact hdd
    have HX1 : Hid (sprRI X = dx) := by show _ = _; unfold sprRI; rw [(goodS_iff X).2 GX]; exact hdx
    have HGD := hid ((goodS_iff D).2 GD)
    have HGX := hid ((goodS_iff X).2 GX)
    clear GD GX hsp hdd hdx eD hd0
    obtain ⟨q00, q01⟩ := KT.out.two
    obtain ⟨q10, q11⟩ := KX.out.two
    go_wp2_with fail
    refine (ispread_any _ D _ RT.out dd true HD1.out HGD.out).mono ?_
    rintro e w5 ⟨rfl, b⟩
    clear q00 q01 q10 q11
    replace KT := hid (KT.out.below b KT.out.lt)
    replace KX := hid (KX.out.below b KX.out.lt)
    replace RT := hid (RT.out.below b)
    replace RX := hid (RX.out.below b)
    replace B : Hid (Below w.heap.size w w5) := B.out.trans (b.mono B.out.size)
    clear b
    obtain ⟨q00, q01⟩ := KT.out.two
    obtain ⟨q10, q11⟩ := KX.out.two
    go_wp2_with fail
    refine (ispread_any _ X _ RX.out dx true HX1.out HGX.out).mono ?_
    rintro e w6 ⟨rfl, b⟩
    clear q00 q01 q10 q11
    replace KT := hid (KT.out.below b KT.out.lt)
    replace KX := hid (KX.out.below b KX.out.lt)
    replace RT := hid (RT.out.below b)
    replace RX := hid (RX.out.below b)
    replace B : Hid (Below w.heap.size w w6) := B.out.trans (b.mono B.out.size)
    clear b
    obtain ⟨q00, q01⟩ := KT.out.two
    obtain ⟨q10, q11⟩ := KX.out.two
    go_wp2
    clear q00 q01 q10 q11
    go_loopw [13, 17] (fun mv kv wr => ∃ k : Nat, k ≤ m ∧ kv = .int .i64 (k : Nat) ∧ mv = .int .i64 (mostS dd k) ∧ w6 = wr) (fun _ kv _ => m - (intOf kv).toNat)
    case atStart => exact ⟨0, Nat.zero_le _, rfl, rfl, rfl⟩
    case round =>
      obtain ⟨k, hk, rfl, rfl, rfl⟩ := hrel
      by_cases hlt : k < m
      · have hlt' : (k : Int) < (m : Int) := by omega
        obtain ⟨mo, hmo⟩ : ∃ x, x = mostS dd k := ⟨_, rfl⟩
        have hb := HM0.out k
        rw [← hmo] at hb ⊢
        have HNX : Hid (mostS dd (k + 1) = (mo + 1) / 2) := by rw [hmo]; exact rfl
        have hw1 : IntKind.i64.wrap (mo + 1) = mo + 1 := by rw [IntKind.wrap_i64]; omega
        obtain ⟨m2, hm2⟩ : ∃ x, x = (mo + 1) / 2 := ⟨_, rfl⟩
        have hw2 : (mo + 1).tdiv 2 = m2 := by rw [hm2]; exact Int.tdiv_eq_ediv_of_nonneg (by omega)
        have hw3 : IntKind.i64.wrap m2 = m2 := by rw [IntKind.wrap_i64]; omega
        rw [← hm2] at HNX
        clear hmo hm2 hb
        go_wp2
        go_roundw
        case rel => exact ⟨k + 1, by omega, by go_num, by rw [HNX.out], by first | rfl | trivial⟩
        case measure => simp [intOf]; omega
      · obtain rfl : k = m := by omega
        obtain ⟨mo, hmo⟩ : ∃ x, x = mostS dd k := ⟨_, rfl⟩
        have hgt : decide (mo < dx) = false := by have := HSP.out; rw [← hmo] at this; rw [decide_eq_false_iff_not]; omega
        rw [← hmo]
        clear hmo HSP HM0
        obtain ⟨q00, q01⟩ := KT.out.two
        obtain ⟨q10, q11⟩ := KX.out.two
        go_wp2_with fail
        refine (igoodS_eq _ X true HGX.out _ RX.out).mono ?_
        rintro e w7 ⟨rfl, b⟩
        clear q00 q01 q10 q11
        replace KT := hid (KT.out.below b KT.out.lt)
        replace KX := hid (KX.out.below b KX.out.lt)
        replace RT := hid (RT.out.below b)
        replace RX := hid (RX.out.below b)
        replace B : Hid (Below w.heap.size w w7) := B.out.trans (b.mono B.out.size)
        clear b
        go_wp2_with fail
        refine (drawRound_any _ _ (code_after10r HC1.out B.out)).mono ?_
        rintro e w8 ⟨eu, rfl, E, hO, b⟩
        have hr := hO.reads
        obtain ⟨ea, ek, rfl⟩ := sh_form hr
        have RE := hid hr
        clear hr hO
        replace B : Hid (Below w.heap.size w w8) := B.out.trans (b.mono B.out.size)
        clear b
        have b : Below w8.heap.size w8 (w8.alloc (.cells #[.slice ea E.f0.length ek, .int .i64 E.f1] 25)) := (Below.refl _ _).alloc (Nat.le_refl _) _
        replace RE := hid (RE.out.below b)
        replace B : Hid (Below w.heap.size w (w8.alloc (.cells #[.slice ea E.f0.length ek, .int .i64 E.f1] 25))) := B.out.trans (b.mono B.out.size)
        have KE := hid (boxL_new w8 [.slice ea E.f0.length ek, .int .i64 E.f1] 25)
        clear b
        obtain ⟨t3, ht3⟩ : ∃ t, rndB E = t := ⟨_, rfl⟩
        obtain ⟨h3, hh3⟩ : ∃ t, rndH E = t := ⟨_, rfl⟩
        obtain ⟨Y, hY⟩ : ∃ Y, rndR E = Y := ⟨_, rfl⟩
        have HT3 := hid ht3
        have HH3 := hid hh3
        have HY := hid hY
        clear ht3 hh3 hY
        obtain ⟨q00, q01⟩ := KE.out.two
        go_wp2_with fail
        refine (iroundOf_any _ E _ RE.out Y h3 t3 HY.out HH3.out HT3.out).mono ?_
        rintro e w9 ⟨ru, rfl, hO, b⟩
        have hr := hO.reads
        obtain ⟨ra, rk, rfl⟩ := sh_form hr
        have RR := hid hr
        clear hr hO
        clear q00 q01
        replace KE := hid (KE.out.below b KE.out.lt)
        replace RE := hid (RE.out.below b)
        replace B : Hid (Below w.heap.size w w9) := B.out.trans (b.mono B.out.size)
        clear b
        have b : Below w9.heap.size w9 (w9.alloc (.cells #[.slice ra Y.f0.length rk, .int .i64 Y.f1] 25)) := (Below.refl _ _).alloc (Nat.le_refl _) _
        replace KE := hid (KE.out.below b KE.out.lt)
        replace RE := hid (RE.out.below b)
        replace RR := hid (RR.out.below b)
        replace B : Hid (Below w.heap.size w (w9.alloc (.cells #[.slice ra Y.f0.length rk, .int .i64 Y.f1] 25))) := B.out.trans (b.mono B.out.size)
        have KR := hid (boxL_new w9 [.slice ra Y.f0.length rk, .int .i64 Y.f1] 25)
        clear b
        obtain ⟨q00, q01⟩ := KE.out.two
        obtain ⟨q10, q11⟩ := KR.out.two
        go_wp2_with fail
        refine (sroundOf_any _ E _ RE.out Y h3 t3 HY.out HH3.out HT3.out).mono ?_
        rintro e w10 ⟨ou, rfl, hO, b⟩
        have hr := hO.reads
        obtain ⟨oa, ok, rfl⟩ := sh_form hr
        have RO := hid hr
        clear hr hO
        clear q00 q01 q10 q11
        replace KE := hid (KE.out.below b KE.out.lt)
        replace KR := hid (KR.out.below b KR.out.lt)
        replace RE := hid (RE.out.below b)
        replace RR := hid (RR.out.below b)
        replace B : Hid (Below w.heap.size w w10) := B.out.trans (b.mono B.out.size)
        clear b
        have b : Below w10.heap.size w10 (w10.alloc (.cells #[.slice oa Y.f0.length ok, .int .i64 Y.f1] 25)) := (Below.refl _ _).alloc (Nat.le_refl _) _
        replace KE := hid (KE.out.below b KE.out.lt)
        replace KR := hid (KR.out.below b KR.out.lt)
        replace RE := hid (RE.out.below b)
        replace RR := hid (RR.out.below b)
        replace RO := hid (RO.out.below b)
        replace B : Hid (Below w.heap.size w (w10.alloc (.cells #[.slice oa Y.f0.length ok, .int .i64 Y.f1] 25))) := B.out.trans (b.mono B.out.size)
        have KO := hid (boxL_new w10 [.slice oa Y.f0.length ok, .int .i64 Y.f1] 25)
        clear b
        obtain ⟨V, hV⟩ : ∃ V, V = (w10.alloc (.cells #[.slice oa Y.f0.length ok, .int .i64 Y.f1] 25)) := ⟨_, rfl⟩
        rw [← hV] at B KE KR KO RE RR RO
        have HV := hid hV
        clear hV
        have HSS : Hid (∀ wq, Below V.heap.size V wq → Calls Try.prog 14 #[.agg #[.slice ra Y.f0.length rk, .int .i64 Y.f1], .agg #[.slice oa Y.f0.length ok, .int .i64 Y.f1]] wq fun e w' => e = .returned (.bool true) ∧ Below wq.heap.size wq w') := fun wq hq => sameShares_same _ _ Y wq (RR.out.below hq) (RO.out.below hq)
        cases t3
        · have hh0 : h3 = false := by
            have h := HH3.out
            unfold rndH at h
            rw [HT3.out] at h
            exact h.symm
          subst hh0
          have e1 : (false == false) = true := rfl
          have qX : Below V.heap.size V V.drew := (Below.refl _ _).drew
          obtain ⟨s0, s1⟩ := KE.out.two
          obtain ⟨s2, s3⟩ := KR.out.two
          obtain ⟨s4, s5⟩ := KO.out.two
          go_wp2_with fail
          rw [← HV.out]
          clear HV
          refine wp_region_any (by kernel_rfl) ?_
          change wpAny _ _ _ _ _ _ _ (World.drew _)
          refine wpAny_take (i := 0) (v := (.bool false)) rfl (by kernel_rfl) (by kernel_rfl) (by kernel_rfl) (fun _ _ _ h => h) (Or.inl ⟨by kernel_rfl, fun _ => by go_simp⟩) ?_
          try simp only [Act.put]
          try simp only [List.setIfInBounds_toArray]
          try simp only [List.set_cons_succ]
          try simp only [List.set_cons_zero]
          refine wpAny_take (i := 1) (v := (.bool false)) rfl (by kernel_rfl) (by kernel_rfl) (by kernel_rfl) (fun _ _ _ h => h) (Or.inl ⟨by kernel_rfl, fun _ => by go_simp⟩) ?_
          try simp only [Act.put]
          try simp only [List.setIfInBounds_toArray]
          try simp only [List.set_cons_succ]
          try simp only [List.set_cons_zero]
          refine wpAny_take (i := 2) (v := (.bool true)) rfl (by kernel_rfl) (by kernel_rfl) (by kernel_rfl) (fun _ _ _ h => h) (Or.inl ⟨by kernel_rfl, fun _ => by go_simp⟩) ?_
          try simp only [Act.put]
          try simp only [List.setIfInBounds_toArray]
          try simp only [List.set_cons_succ]
          try simp only [List.set_cons_zero]
          refine wpAny_take (i := 3) (v := (.bool true)) rfl (by kernel_rfl) (by kernel_rfl) (by kernel_rfl) (fun _ _ _ h => h) (Or.inl ⟨by kernel_rfl, fun _ => by go_simp⟩) ?_
          try simp only [Act.put]
          try simp only [List.setIfInBounds_toArray]
          try simp only [List.set_cons_succ]
          try simp only [List.set_cons_zero]
          refine wpAny_take (i := 4) (v := (.bool false)) rfl (by kernel_rfl) (by kernel_rfl) (by kernel_rfl) (fun _ _ _ h => h) (Or.inl ⟨by kernel_rfl, fun _ => by go_simp⟩) ?_
          try simp only [Act.put]
          try simp only [List.setIfInBounds_toArray]
          try simp only [List.set_cons_succ]
          try simp only [List.set_cons_zero]
          refine wpAny_take (i := 5) (v := (.bool false)) rfl (by kernel_rfl) (by kernel_rfl) (by kernel_rfl) (fun _ _ _ h => h) (Or.inl ⟨by kernel_rfl, fun _ => by go_simp⟩) ?_
          try simp only [Act.put]
          try simp only [List.setIfInBounds_toArray]
          try simp only [List.set_cons_succ]
          try simp only [List.set_cons_zero]
          refine wpAny_take (i := 6) (v := (.bool true)) rfl (by kernel_rfl) (by kernel_rfl) (by kernel_rfl) (fun _ _ _ h => h) (Or.inl ⟨by kernel_rfl, fun _ => by go_simp⟩) ?_
          try simp only [Act.put]
          try simp only [List.setIfInBounds_toArray]
          try simp only [List.set_cons_succ]
          try simp only [List.set_cons_zero]
          refine wpAny_take (i := 7) (v := (.bool true)) rfl (by kernel_rfl) (by kernel_rfl) (by kernel_rfl) (fun _ _ _ h => h) (Or.inl ⟨by kernel_rfl, fun _ => by go_simp⟩) ?_
          try simp only [Act.put]
          try simp only [List.setIfInBounds_toArray]
          try simp only [List.set_cons_succ]
          try simp only [List.set_cons_zero]
          refine wpAny_take (i := 8) (v := (.bool true)) rfl (by kernel_rfl) (by kernel_rfl) (by kernel_rfl) (fun _ _ _ h => h) (Or.inl ⟨by kernel_rfl, fun _ => by go_simp⟩) ?_
          try simp only [Act.put]
          try simp only [List.setIfInBounds_toArray]
          try simp only [List.set_cons_succ]
          try simp only [List.set_cons_zero]
          obtain ⟨V1, hV1⟩ : ∃ X, X = World.drew V := ⟨_, rfl⟩
          rw [← hV1] at qX ⊢
          obtain ⟨x0, x1⟩ := (KR.out.below qX KR.out.lt).two
          obtain ⟨x2, x3⟩ := (KO.out.below qX KO.out.lt).two
          clear hV1 s0 s1 s2 s3 s4 s5
          refine wpAny_ready (rs := [9, 10]) (by kernel_rfl) (by simp) ?_
          refine AllReady.cons rfl (fun K hK => ?_) (AllReady.cons rfl (fun K hK => ?_) AllReady.nil)
          · go_simp
            refine hK _ _ ?_
            clear hK K
            refine wpAny_ready (rs := [10]) (by kernel_rfl) (by simp) ?_
            refine AllReady.cons rfl (fun K hK => ?_) AllReady.nil
            go_simp
            refine hK _ _ ?_
            clear hK K
            clear x0 x1 x2 x3
            refine wpAny_ready (rs := [11]) (by kernel_rfl) (by simp) ?_
            refine AllReady.cons rfl (fun K hK => ?_) AllReady.nil
            go_simp
            refine (HSS.out _ qX).mono ?_
            rintro e wt ⟨rfl, b⟩
            refine hK _ _ ?_
            clear hK K
            refine wpAny_ready (rs := [12]) (by kernel_rfl) (by simp) ?_
            refine AllReady.cons rfl (fun K hK => ?_) AllReady.nil
            go_simp
            refine hK _ _ ?_
            clear hK K
            refine wpAny_ready (rs := [13]) (by kernel_rfl) (by simp) ?_
            refine AllReady.cons rfl (fun K hK => ?_) AllReady.nil
            go_simp
            refine hK _ _ ?_
            clear hK K
            refine wpAny_ready (rs := [14]) (by kernel_rfl) (by simp) ?_
            refine AllReady.cons rfl (fun K hK => ?_) AllReady.nil
            go_simp
            refine hK _ _ ?_
            clear hK K
            refine wpAny_ready (rs := [15]) (by kernel_rfl) (by simp) ?_
            refine AllReady.cons rfl (fun K hK => ?_) AllReady.nil
            go_simp
            refine hK _ _ ?_
            clear hK K
            refine wpAny_ready (rs := [16]) (by kernel_rfl) (by simp) ?_
            refine AllReady.cons rfl (fun K hK => ?_) AllReady.nil
            go_simp
            refine hK _ _ ?_
            clear hK K
            refine wpAny_take (i := 17) (v := undef) rfl (by kernel_rfl) (by kernel_rfl) (by kernel_rfl) (fun _ _ _ h => h) (Or.inr ⟨by kernel_rfl, rfl⟩) ?_
            try simp only [Act.put]
            try simp only [List.setIfInBounds_toArray]
            try simp only [List.set_cons_succ]
            try simp only [List.set_cons_zero]
            refine wpAny_take (i := 18) (v := undef) rfl (by kernel_rfl) (by kernel_rfl) (by kernel_rfl) (fun _ _ _ h => h) (Or.inr ⟨by kernel_rfl, rfl⟩) ?_
            try simp only [Act.put]
            try simp only [List.setIfInBounds_toArray]
            try simp only [List.set_cons_succ]
            try simp only [List.set_cons_zero]
            refine wpAny_take (i := 19) (v := undef) rfl (by kernel_rfl) (by kernel_rfl) (by kernel_rfl) (fun _ _ _ h => h) (Or.inr ⟨by kernel_rfl, rfl⟩) ?_
            try simp only [Act.put]
            try simp only [List.setIfInBounds_toArray]
            try simp only [List.set_cons_succ]
            try simp only [List.set_cons_zero]
            refine wpAny_take (i := 20) (v := undef) rfl (by kernel_rfl) (by kernel_rfl) (by kernel_rfl) (fun _ _ _ h => h) (Or.inr ⟨by kernel_rfl, rfl⟩) ?_
            try simp only [Act.put]
            try simp only [List.setIfInBounds_toArray]
            try simp only [List.set_cons_succ]
            try simp only [List.set_cons_zero]
            refine wpAny_take (i := 21) (v := undef) rfl (by kernel_rfl) (by kernel_rfl) (by kernel_rfl) (fun _ _ _ h => h) (Or.inr ⟨by kernel_rfl, rfl⟩) ?_
            try simp only [Act.put]
            try simp only [List.setIfInBounds_toArray]
            try simp only [List.set_cons_succ]
            try simp only [List.set_cons_zero]
            refine wpAny_take (i := 22) (v := undef) rfl (by kernel_rfl) (by kernel_rfl) (by kernel_rfl) (fun _ _ _ h => h) (Or.inr ⟨by kernel_rfl, rfl⟩) ?_
            try simp only [Act.put]
            try simp only [List.setIfInBounds_toArray]
            try simp only [List.set_cons_succ]
            try simp only [List.set_cons_zero]
            refine wpAny_take (i := 23) (v := undef) rfl (by kernel_rfl) (by kernel_rfl) (by kernel_rfl) (fun _ _ _ h => h) (Or.inr ⟨by kernel_rfl, rfl⟩) ?_
            try simp only [Act.put]
            try simp only [List.setIfInBounds_toArray]
            try simp only [List.set_cons_succ]
            try simp only [List.set_cons_zero]
            refine wpAny_take (i := 24) (v := undef) rfl (by kernel_rfl) (by kernel_rfl) (by kernel_rfl) (fun _ _ _ h => h) (Or.inr ⟨by kernel_rfl, rfl⟩) ?_
            try simp only [Act.put]
            try simp only [List.setIfInBounds_toArray]
            try simp only [List.set_cons_succ]
            try simp only [List.set_cons_zero]
            refine wpAny_ready (rs := [25]) (by kernel_rfl) (by simp) ?_
            refine AllReady.cons rfl (fun K hK => ?_) AllReady.nil
            go_simp
            refine hK _ _ ?_
            clear hK K
            refine wpAny_ready (rs := [26]) (by kernel_rfl) (by simp) ?_
            refine AllReady.cons rfl (fun K hK => ?_) AllReady.nil
            go_simp
            refine hK _ _ ?_
            clear hK K
            refine wpAny_ready (rs := [27]) (by kernel_rfl) (by simp) ?_
            refine AllReady.cons rfl (fun K hK => ?_) AllReady.nil
            go_simp
            refine hK _ _ ?_
            clear hK K
            refine wpAny_done (by kernel_rfl) ?_ _
            go_wp2
            go_ret
            exact ⟨rfl, B.out.trans ((qX.trans (b.mono qX.size)).mono B.out.size)⟩
          · go_simp
            refine hK _ _ ?_
            clear hK K
            refine wpAny_ready (rs := [9]) (by kernel_rfl) (by simp) ?_
            refine AllReady.cons rfl (fun K hK => ?_) AllReady.nil
            go_simp
            refine hK _ _ ?_
            clear hK K
            clear x0 x1 x2 x3
            refine wpAny_ready (rs := [11]) (by kernel_rfl) (by simp) ?_
            refine AllReady.cons rfl (fun K hK => ?_) AllReady.nil
            go_simp
            refine (HSS.out _ qX).mono ?_
            rintro e wt ⟨rfl, b⟩
            refine hK _ _ ?_
            clear hK K
            refine wpAny_ready (rs := [12]) (by kernel_rfl) (by simp) ?_
            refine AllReady.cons rfl (fun K hK => ?_) AllReady.nil
            go_simp
            refine hK _ _ ?_
            clear hK K
            refine wpAny_ready (rs := [13]) (by kernel_rfl) (by simp) ?_
            refine AllReady.cons rfl (fun K hK => ?_) AllReady.nil
            go_simp
            refine hK _ _ ?_
            clear hK K
            refine wpAny_ready (rs := [14]) (by kernel_rfl) (by simp) ?_
            refine AllReady.cons rfl (fun K hK => ?_) AllReady.nil
            go_simp
            refine hK _ _ ?_
            clear hK K
            refine wpAny_ready (rs := [15]) (by kernel_rfl) (by simp) ?_
            refine AllReady.cons rfl (fun K hK => ?_) AllReady.nil
            go_simp
            refine hK _ _ ?_
            clear hK K
            refine wpAny_ready (rs := [16]) (by kernel_rfl) (by simp) ?_
            refine AllReady.cons rfl (fun K hK => ?_) AllReady.nil
            go_simp
            refine hK _ _ ?_
            clear hK K
            refine wpAny_take (i := 17) (v := undef) rfl (by kernel_rfl) (by kernel_rfl) (by kernel_rfl) (fun _ _ _ h => h) (Or.inr ⟨by kernel_rfl, rfl⟩) ?_
            try simp only [Act.put]
            try simp only [List.setIfInBounds_toArray]
            try simp only [List.set_cons_succ]
            try simp only [List.set_cons_zero]
            refine wpAny_take (i := 18) (v := undef) rfl (by kernel_rfl) (by kernel_rfl) (by kernel_rfl) (fun _ _ _ h => h) (Or.inr ⟨by kernel_rfl, rfl⟩) ?_
            try simp only [Act.put]
            try simp only [List.setIfInBounds_toArray]
            try simp only [List.set_cons_succ]
            try simp only [List.set_cons_zero]
            refine wpAny_take (i := 19) (v := undef) rfl (by kernel_rfl) (by kernel_rfl) (by kernel_rfl) (fun _ _ _ h => h) (Or.inr ⟨by kernel_rfl, rfl⟩) ?_
            try simp only [Act.put]
            try simp only [List.setIfInBounds_toArray]
            try simp only [List.set_cons_succ]
            try simp only [List.set_cons_zero]
            refine wpAny_take (i := 20) (v := undef) rfl (by kernel_rfl) (by kernel_rfl) (by kernel_rfl) (fun _ _ _ h => h) (Or.inr ⟨by kernel_rfl, rfl⟩) ?_
            try simp only [Act.put]
            try simp only [List.setIfInBounds_toArray]
            try simp only [List.set_cons_succ]
            try simp only [List.set_cons_zero]
            refine wpAny_take (i := 21) (v := undef) rfl (by kernel_rfl) (by kernel_rfl) (by kernel_rfl) (fun _ _ _ h => h) (Or.inr ⟨by kernel_rfl, rfl⟩) ?_
            try simp only [Act.put]
            try simp only [List.setIfInBounds_toArray]
            try simp only [List.set_cons_succ]
            try simp only [List.set_cons_zero]
            refine wpAny_take (i := 22) (v := undef) rfl (by kernel_rfl) (by kernel_rfl) (by kernel_rfl) (fun _ _ _ h => h) (Or.inr ⟨by kernel_rfl, rfl⟩) ?_
            try simp only [Act.put]
            try simp only [List.setIfInBounds_toArray]
            try simp only [List.set_cons_succ]
            try simp only [List.set_cons_zero]
            refine wpAny_take (i := 23) (v := undef) rfl (by kernel_rfl) (by kernel_rfl) (by kernel_rfl) (fun _ _ _ h => h) (Or.inr ⟨by kernel_rfl, rfl⟩) ?_
            try simp only [Act.put]
            try simp only [List.setIfInBounds_toArray]
            try simp only [List.set_cons_succ]
            try simp only [List.set_cons_zero]
            refine wpAny_take (i := 24) (v := undef) rfl (by kernel_rfl) (by kernel_rfl) (by kernel_rfl) (fun _ _ _ h => h) (Or.inr ⟨by kernel_rfl, rfl⟩) ?_
            try simp only [Act.put]
            try simp only [List.setIfInBounds_toArray]
            try simp only [List.set_cons_succ]
            try simp only [List.set_cons_zero]
            refine wpAny_ready (rs := [25]) (by kernel_rfl) (by simp) ?_
            refine AllReady.cons rfl (fun K hK => ?_) AllReady.nil
            go_simp
            refine hK _ _ ?_
            clear hK K
            refine wpAny_ready (rs := [26]) (by kernel_rfl) (by simp) ?_
            refine AllReady.cons rfl (fun K hK => ?_) AllReady.nil
            go_simp
            refine hK _ _ ?_
            clear hK K
            refine wpAny_ready (rs := [27]) (by kernel_rfl) (by simp) ?_
            refine AllReady.cons rfl (fun K hK => ?_) AllReady.nil
            go_simp
            refine hK _ _ ?_
            clear hK K
            refine wpAny_done (by kernel_rfl) ?_ _
            go_wp2
            go_ret
            exact ⟨rfl, B.out.trans ((qX.trans (b.mono qX.size)).mono B.out.size)⟩
        · cases h3
          · skip
            have e1 : (true == true) = true := rfl
            have GE : GoodS E := by
              have h := HT3.out
              unfold rndB at h
              rw [Bool.and_eq_true] at h
              exact (goodS_iff E).1 h.1
            obtain ⟨sm, hsm⟩ : ∃ s, psum (fl E.f0) E.f0.length = s := ⟨_, rfl⟩
            have dov : decide (E.f1 < sm) = false := by
              have h := HH3.out
              unfold rndH at h
              rw [HT3.out, Bool.true_and] at h
              unfold overS sumW at h
              rw [hsm] at h
              exact h
            have HSO : Hid (∀ wq, Below V.heap.size V wq → Calls Try.prog 25 #[.slice ea E.f0.length ek] wq fun e w' => e = .returned (.int .i64 sm) ∧ w' = wq) := fun wq hq => by
              have h := sumOf_any _ E.f0 wq (RE.out.below hq).row (by have := GE.l5; omega) (fun t => GE.all t)
              rw [hsm] at h
              exact h
            clear GE hsm
            have qX : Below V.heap.size V V.drew := (Below.refl _ _).drew
            obtain ⟨s0, s1⟩ := KE.out.two
            obtain ⟨s2, s3⟩ := KR.out.two
            obtain ⟨s4, s5⟩ := KO.out.two
            go_wp2_with fail
            rw [← HV.out]
            clear HV
            go_region_held3 (fun w' => w'.cell? ⟨w8.heap.size, 0, none⟩ = some (.slice ea E.f0.length ek) ∧ w'.cell? ⟨w8.heap.size, 1, none⟩ = some (.int .i64 E.f1) ∧ w'.cell? ⟨w9.heap.size, 0, none⟩ = some (.slice ra Y.f0.length rk) ∧ w'.cell? ⟨w9.heap.size, 1, none⟩ = some (.int .i64 Y.f1) ∧ w'.cell? ⟨w10.heap.size, 0, none⟩ = some (.slice oa Y.f0.length ok) ∧ w'.cell? ⟨w10.heap.size, 1, none⟩ = some (.int .i64 Y.f1) ∧ Below V.heap.size V w') (first | (refine ⟨?_, ?_, ?_, ?_, ?_, ?_, ?_⟩ <;> assumption) | exact ⟨s0, s1, s2, s3, s4, s5, qX⟩)
              (first | (go_at_call 14; refine (HSS.out _ (show Below V.heap.size V _ by first | assumption | exact (by assumption : _ ∧ _ ∧ _ ∧ _ ∧ _ ∧ _ ∧ Below V.heap.size V _).2.2.2.2.2.2)).mono ?_; rintro e wt ⟨rfl, b⟩; have qX := Below.trans (show Below V.heap.size V _ by first | assumption | exact (by assumption : _ ∧ _ ∧ _ ∧ _ ∧ _ ∧ _ ∧ Below V.heap.size V _).2.2.2.2.2.2) (b.mono (Below.size (show Below V.heap.size V _ by first | assumption | exact (by assumption : _ ∧ _ ∧ _ ∧ _ ∧ _ ∧ _ ∧ Below V.heap.size V _).2.2.2.2.2.2))); obtain ⟨s0, s1⟩ := (KE.out.below qX KE.out.lt).two; obtain ⟨s2, s3⟩ := (KR.out.below qX KR.out.lt).two; obtain ⟨s4, s5⟩ := (KO.out.below qX KO.out.lt).two) | (go_at_call 25; refine (HSO.out _ (show Below V.heap.size V _ by first | assumption | exact (by assumption : _ ∧ _ ∧ _ ∧ _ ∧ _ ∧ _ ∧ Below V.heap.size V _).2.2.2.2.2.2)).mono ?_; rintro e w' ⟨rfl, hw⟩; obtain rfl := hw.symm))
            all_goals
              go_wp2
              go_ret
              exact ⟨rfl, B.out.trans (qX.mono B.out.size)⟩
          · skip
            have e1 : (true == true) = true := rfl
            have GE : GoodS E := by
              have h := HT3.out
              unfold rndB at h
              rw [Bool.and_eq_true] at h
              exact (goodS_iff E).1 h.1
            obtain ⟨sm, hsm⟩ : ∃ s, psum (fl E.f0) E.f0.length = s := ⟨_, rfl⟩
            have dov : decide (E.f1 < sm) = true := by
              have h := HH3.out
              unfold rndH at h
              rw [HT3.out, Bool.true_and] at h
              unfold overS sumW at h
              rw [hsm] at h
              exact h
            have HSO : Hid (∀ wq, Below V.heap.size V wq → Calls Try.prog 25 #[.slice ea E.f0.length ek] wq fun e w' => e = .returned (.int .i64 sm) ∧ w' = wq) := fun wq hq => by
              have h := sumOf_any _ E.f0 wq (RE.out.below hq).row (by have := GE.l5; omega) (fun t => GE.all t)
              rw [hsm] at h
              exact h
            clear GE hsm
            have qX : Below V.heap.size V V.drew := (Below.refl _ _).drew
            obtain ⟨s0, s1⟩ := KE.out.two
            obtain ⟨s2, s3⟩ := KR.out.two
            obtain ⟨s4, s5⟩ := KO.out.two
            go_wp2_with fail
            rw [← HV.out]
            clear HV
            go_region_held3 (fun w' => w'.cell? ⟨w8.heap.size, 0, none⟩ = some (.slice ea E.f0.length ek) ∧ w'.cell? ⟨w8.heap.size, 1, none⟩ = some (.int .i64 E.f1) ∧ w'.cell? ⟨w9.heap.size, 0, none⟩ = some (.slice ra Y.f0.length rk) ∧ w'.cell? ⟨w9.heap.size, 1, none⟩ = some (.int .i64 Y.f1) ∧ w'.cell? ⟨w10.heap.size, 0, none⟩ = some (.slice oa Y.f0.length ok) ∧ w'.cell? ⟨w10.heap.size, 1, none⟩ = some (.int .i64 Y.f1) ∧ Below V.heap.size V w') (first | (refine ⟨?_, ?_, ?_, ?_, ?_, ?_, ?_⟩ <;> assumption) | exact ⟨s0, s1, s2, s3, s4, s5, qX⟩)
              (first | (go_at_call 14; refine (HSS.out _ (show Below V.heap.size V _ by first | assumption | exact (by assumption : _ ∧ _ ∧ _ ∧ _ ∧ _ ∧ _ ∧ Below V.heap.size V _).2.2.2.2.2.2)).mono ?_; rintro e wt ⟨rfl, b⟩; have qX := Below.trans (show Below V.heap.size V _ by first | assumption | exact (by assumption : _ ∧ _ ∧ _ ∧ _ ∧ _ ∧ _ ∧ Below V.heap.size V _).2.2.2.2.2.2) (b.mono (Below.size (show Below V.heap.size V _ by first | assumption | exact (by assumption : _ ∧ _ ∧ _ ∧ _ ∧ _ ∧ _ ∧ Below V.heap.size V _).2.2.2.2.2.2))); obtain ⟨s0, s1⟩ := (KE.out.below qX KE.out.lt).two; obtain ⟨s2, s3⟩ := (KR.out.below qX KR.out.lt).two; obtain ⟨s4, s5⟩ := (KO.out.below qX KO.out.lt).two) | (go_at_call 25; refine (HSO.out _ (show Below V.heap.size V _ by first | assumption | exact (by assumption : _ ∧ _ ∧ _ ∧ _ ∧ _ ∧ _ ∧ Below V.heap.size V _).2.2.2.2.2.2)).mono ?_; rintro e w' ⟨rfl, hw⟩; obtain rfl := hw.symm))
            all_goals
              go_wp2
              go_ret
              exact ⟨rfl, B.out.trans (qX.mono B.out.size)⟩
end Go.Proofs.Ytepnhbicmlfnhad
