/-
  Plain facts on good spans. No program.
  Good spans below many: where they lie. Plain arithmetic.
  impl.GoodSender: whether a sender is as said. Nothing old is written.
-/
import Derived.Test.YtijojdempijhbaiSpanMath
import Derived.Test.YtijojdempijhbaiFlowFns
import Derived.Test.YtijojdempijhbaiIRis11
import Derived.Test.YtijojdempijhbaiISet
import Derived.Test.YtijojdempijhbaiHasMath
import Derived.Deep.RegionWith
namespace Go.Proofs.Ytijojdempijhbai

theorem good_chain {xs : List Sp} (h : goodL xs = true) : chainB (-1) xs = true := by
  unfold goodL at h
  rw [Bool.and_eq_true] at h
  exact h.1
theorem good_len {xs : List Sp} (h : goodL xs = true) : xs.length ≤ 20 := by
  unfold goodL at h
  rw [Bool.and_eq_true] at h
  simpa using h.2
end Go.Proofs.Ytijojdempijhbai
namespace Go.Proofs.Ytijojdempijhbai

theorem chain_spot : ∀ {p : Int} {l : List Sp}, chainB p l = true → ∀ k, k < l.length → (p < (l.getD k (0, 0)).1 ∧ spB (l.getD k (0, 0)) = true) ∧ (l.getD k (0, 0)).2 ≤ (l.getD (l.length - 1) (0, 0)).2
  | p, [], _, k, hk => by simp at hk
  | p, x :: l, h, k, hk => by
    rw [chain_cons] at h
    have hx := (spB_iff x).1 h.2.1
    rcases k with _ | k
    · refine ⟨⟨h.1, h.2.1⟩, ?_⟩
      rcases l with _ | ⟨y, l⟩
      · simp
      · have h2 := chain_spot h.2.2 ((y :: l).length - 1) (by simp)
        have h3 := (spB_iff _).1 h2.1.2
        have e : (x :: y :: l).getD ((x :: y :: l).length - 1) (0, 0) = (y :: l).getD ((y :: l).length - 1) (0, 0) := by simp
        rw [e]
        show x.2 ≤ _
        omega
    · have hk' : k < l.length := by simpa using hk
      have h2 := chain_spot h.2.2 k hk'
      have e : (x :: l).getD ((x :: l).length - 1) (0, 0) = l.getD (l.length - 1) (0, 0) := by
        rcases l with _ | ⟨y, l⟩
        · simp at hk'
        · simp
      rw [e]
      refine ⟨⟨?_, h2.1.2⟩, h2.2⟩
      show p < (l.getD k (0, 0)).1
      omega
theorem bel_in {l : List Sp} {z : Int} (h : belB l z = true) (hz : 0 ≤ z ∧ z ≤ 60) : ∀ k, k < l.length → 0 ≤ (l.getD k (0, 0)).1 ∧ (l.getD k (0, 0)).2 ≤ 60 := by
  intro k hk
  unfold belB at h
  rw [Bool.and_eq_true, Bool.or_eq_true, decide_eq_true_eq, decide_eq_true_eq] at h
  have h1 := chain_spot (good_chain h.1) k hk
  have h2 := (spB_iff _).1 h1.1.2
  have h3 : lastTo l ≤ z := h.2.resolve_left (by omega)
  unfold lastTo at h3
  omega
end Go.Proofs.Ytijojdempijhbai
namespace Go.Proofs.Ytijojdempijhbai
open Go.RowKit

theorem noneU_any (h : List Sp) (l : List Int) : ∀ k, k ≤ l.length → noneU h l k = !((l.take k).any (fun x => hasL h x))
  | 0, _ => by simp [noneU]
  | k + 1, hk => by
    rw [any_take _ _ _ (by omega)]
    show (noneU h l k && !hasL h (fl l k)) = _
    rw [noneU_any h l k (by omega), Bool.not_or]
    rfl
theorem noneU_all (h : List Sp) (l : List Int) : noneU h l l.length = !(l.any (fun x => hasL h x)) := by rw [noneU_any h l _ (Nat.le_refl _), List.take_length]
theorem risU_in {l : List Int} {many : Int} : ∀ k, risU l many k = true → ∀ i, i < k → 0 ≤ fl l i ∧ fl l i ≤ many - 1
  | 0, _, i, hi => by omega
  | k + 1, h, i, hi => by
    have h' : (risU l many k && (decide (0 ≤ fl l k ∧ fl l k ≤ many - 1) && (decide (k = 0) || decide (fl l (k - 1) < fl l k)))) = true := h
    rw [Bool.and_eq_true, Bool.and_eq_true, decide_eq_true_eq] at h'
    by_cases e : i = k
    · subst e; exact h'.2.1
    · exact risU_in k h'.1 i (by omega)
theorem risB_mem {l : List Int} {many : Int} (h : risB l many = true) (x : Int) (hx : x ∈ l) : 0 ≤ x ∧ x ≤ many - 1 := by
  obtain ⟨i, hi, rfl⟩ := List.getElem_of_mem hx
  have := risU_in l.length h i hi
  rw [show fl l i = l[i] by show l.getD i 0 = _; simp [List.getD_eq_getElem?_getD, hi]] at this
  exact this
set_option maxRecDepth 100000 in
set_option maxHeartbeats 8000000 in
theorem igoodSd_eq (v : Value) (D : SdD) (t : Bool) (h : goodSd D = t) (w : World) (hr : SdReads w v D) :
    Calls Try.prog 65 #[v] w fun e w' => e = .returned (.bool t) ∧ Below w.heap.size w w' := by
  obtain ⟨v1, v2, rfl, r1, r2⟩ := hr
  have R1 := hid r1
  have R2 := hid r2
  obtain ⟨a1, p1, rfl, l1, _⟩ := r1
  obtain ⟨a2, p2, rfl, l2, _⟩ := r2
  unfold goodSd at h
  obtain ⟨z, hz⟩ : ∃ z, z = D.f0 := ⟨_, rfl⟩
  rw [← hz] at h ⊢
  have PB := hid (boxL_new w [.int .i64 z, .slice a1 D.f1.length p1, .slice a2 D.f2.length p2] 57)
  have BW : Hid (Below w.heap.size w (w.alloc (.cells #[.int .i64 z, .slice a1 D.f1.length p1, .slice a2 D.f2.length p2] 57))) := (Below.refl _ _).alloc (Nat.le_refl _) _
  obtain ⟨b1, e1⟩ : ∃ b, decide (0 ≤ z ∧ z ≤ 60) = b := ⟨_, rfl⟩
  obtain ⟨b2, e2⟩ : ∃ b, belB D.f1 z = b := ⟨_, rfl⟩
  obtain ⟨b3, e3⟩ : ∃ b, risB D.f2 z = b := ⟨_, rfl⟩
  rw [e1, e2, e3] at h
  have HT := hid h
  have E1 := hid e1
  have E2 := hid e2
  have E3 := hid e3
  clear h e1 e2 e3 hz
  obtain ⟨q0, q1, q2⟩ := PB.out.three
  by_cases hz0 : z < 0
  · have d0 : decide (z < 0) = true := by rw [decide_eq_true_eq]; exact hz0
    have HV : Hid (t = false) := by show _ = _; rw [← HT.out, ← E1.out, decide_eq_false (by omega)]; rfl
    clear hz0
    go_enter Try.func65, Try.ntmps65
    go_wp2
    go_ret
    exact ⟨by rw [HV.out]; rfl, BW.out⟩
  have d0 : decide (z < 0) = false := by rw [decide_eq_false_iff_not]; exact hz0
  by_cases hz1 : 60 < z
  · have d1 : decide (60 < z) = true := by rw [decide_eq_true_eq]; exact hz1
    have HV : Hid (t = false) := by show _ = _; rw [← HT.out, ← E1.out, decide_eq_false (by omega)]; rfl
    clear hz0 hz1
    go_enter Try.func65, Try.ntmps65
    go_wp2
    go_ret
    exact ⟨by rw [HV.out]; rfl, BW.out⟩
  have d1 : decide (60 < z) = false := by rw [decide_eq_false_iff_not]; exact hz1
  have hz60 : 0 ≤ z ∧ z ≤ 60 := by omega
  obtain rfl : true = b1 := by rw [← E1.out, decide_eq_true hz60]
  have HZ := hid hz60
  clear hz0 hz1 hz60
  go_enter Try.func65, Try.ntmps65
  go_wp2_with fail
  refine (ibel_eq _ D.f1 z b2 E2.out HZ.out.1 _ (R1.out.below BW.out)).mono ?_
  rintro e w1 ⟨rfl, bb⟩
  replace BW := hid (BW.out.trans (bb.mono BW.out.size))
  replace PB := hid (PB.out.below bb PB.out.lt)
  clear q0 q1 q2 bb
  obtain ⟨q0, q1, q2⟩ := PB.out.three
  cases b2
  · have HV : Hid (t = false) := HT.out.symm
    go_wp2
    go_ret
    exact ⟨by rw [HV.out]; rfl, BW.out⟩
  go_wp2_with fail
  refine (iris_eq _ D.f2 z b3 E3.out _ (R2.out.below BW.out)).mono ?_
  rintro e w' ⟨rfl, hw⟩; obtain rfl := hw.symm
  cases b3
  · have HV : Hid (t = false) := HT.out.symm
    go_wp2
    go_ret
    exact ⟨by rw [HV.out]; rfl, BW.out⟩
  obtain ⟨t1, ht1⟩ : ∃ t1, D.f2.any (fun x => hasL D.f1 x) = t1 := ⟨_, rfl⟩
  have HT1 := hid ht1
  have HT2 : Hid (t = !t1) := by show _ = _; rw [← HT.out, ← ht1, ← noneU_all]; rfl
  clear HT ht1
  have HG : Hid (goodL D.f1 = true) := by have h := E2.out; unfold belB at h; rw [Bool.and_eq_true] at h; exact h.1
  have HI := hid (bel_in E2.out HZ.out)
  have HN := hid (good_len HG.out)
  have HW : Hid (∀ x ∈ D.f2, inW x) := fun x hx => by
    have := risB_mem E3.out x hx
    have := HZ.out
    exact inW_small (by omega) (by omega)
  go_wp2_with fail
  go_region_with (first
    | (go_at_call 68; refine (iletters_any _ D.f1 _ ((R1.out.below BW.out).below ((Below.refl _ _).drew)).s (by have := HN.out; omega) HI.out).mono ?_; rintro e w2 ⟨rfl, ⟨m, hm, hs⟩, b2⟩; have HS2 := hid hs; have BB2 : Hid (Below w1.heap.size w1 w2) := (Below.refl _ _).drew.trans b2; clear hm hs b2; obtain ⟨s0, s1, s2⟩ := (PB.out.below BB2.out PB.out.lt).three)
    | (go_at_call 76; refine (scontains_any _ m _ _ D.f2 t1 HT1.out _ ((R2.out.below BW.out).below BB2.out) HS2.out HW.out).mono ?_; rintro e w3 ⟨rfl, b3⟩; have BB3 : Hid (Below w1.heap.size w1 w3) := BB2.out.trans (b3.mono BB2.out.size); clear b3))
  all_goals
    go_wp2
    go_ret
    exact ⟨by rw [HT2.out]; rfl, BW.out.trans (BB3.out.mono BW.out.size)⟩
end Go.Proofs.Ytijojdempijhbai
