/-
  spec.l1Most, spec.WorstDelay: the greatest delay of a flow whose out is told. Nothing is written.
-/
import Derived.Test.YtcieefggijjekacSFlow7
import Derived.Test.YtcieefggijjekacSAll7
namespace Go.Proofs.Ytcieefggijjekac
open Go.RowKit

theorem l1Most7_eq (a b r : Int) (h : (if a > b then a else b) = r) (w : World) : Calls Try.prog 52 #[.int .i64 a, .int .i64 b] w fun e w' => e = .returned (.int .i64 r) ∧ w' = w := by
  by_cases hc : a > b
  · have hr : Hid (r = a) := by show _ = _; rw [if_pos hc] at h; exact h.symm
    clear h
    go_enter Try.func52, Try.ntmps52
    go_wp2
    go_ret
    exact ⟨by rw [hr.out]; rfl, rfl⟩
  · have hr : Hid (r = b) := by show _ = _; rw [if_neg hc] at h; exact h.symm
    clear h
    go_enter Try.func52, Try.ntmps52
    go_wp2
    go_ret
    exact ⟨by rw [hr.out]; rfl, rfl⟩
def outB (ys : List Int) : Bool := ys.all fun k => decide (0 ≤ k ∧ k ≤ 2400)
theorem outB_in {ys : List Int} (h : outB ys = true) (t : Nat) : 0 ≤ fl ys t ∧ fl ys t ≤ 2400 := by
  unfold outB at h
  rw [List.all_eq_true] at h
  unfold fl
  by_cases ht : t < ys.length
  · have := h (ys.getD t 0) (by rw [List.getD_eq_getElem?_getD, List.getElem?_eq_getElem ht]; exact List.getElem_mem _)
    rw [decide_eq_true_eq] at this
    exact this
  · rw [List.getD_eq_getElem?_getD, List.getElem?_eq_none (by omega)]
    decide
/-- Never more has gone than has come. -/
def goneB (xs ys : List Int) : Bool := (List.range xs.length).all fun t => decide (psum (fl ys) (t + 1) ≤ psum (fl xs) (t + 1))
theorem goneB_iff (xs ys : List Int) : goneB xs ys = true ↔ ∀ t, t < xs.length → psum (fl ys) (t + 1) ≤ psum (fl xs) (t + 1) := by
  unfold goneB
  rw [List.all_eq_true]
  constructor
  · intro h t ht
    have := h t (List.mem_range.2 ht)
    rw [decide_eq_true_eq] at this
    exact this
  · intro h t ht
    rw [decide_eq_true_eq]
    exact h t (List.mem_range.1 ht)
theorem goneB_false {xs ys : List Int} {t : Nat} (ht : t < xs.length) (h : psum (fl xs) (t + 1) < psum (fl ys) (t + 1)) : goneB xs ys = false := by
  cases hb : goneB xs ys with
  | false => rfl
  | true =>
    have := (goneB_iff _ _).1 hb t ht
    omega
def delB (xs ys : List Int) : Bool := flowB xs && outB ys && decide (ys.length = xs.length) && goneB xs ys
def delN (xs ys : List Int) : Int := if delB xs ys then wstU (fl xs) (fl ys) xs.length xs.length else 0
theorem delN_no {xs ys : List Int} (h : delB xs ys = false) : delN xs ys = 0 := by rw [delN, h]; rfl
theorem delN_yes {xs ys : List Int} (h : delB xs ys = true) : delN xs ys = wstU (fl xs) (fl ys) xs.length xs.length := by rw [delN, h]; rfl
theorem dly_in (f o : Nat → Int) {n t : Nat} (ht : t < n) : -(n : Int) - 1 ≤ dly f o n t ∧ dly f o n t ≤ n := by
  have h := (kOf_is o (psum f (t + 1)) n).1
  unfold dly
  split <;> omega
theorem wstU_in (f o : Nat → Int) {n : Nat} : ∀ t, t ≤ n → 0 ≤ wstU f o n t ∧ wstU f o n t ≤ n
  | 0, _ => by simp [wstU]
  | t + 1, h => by
    have h1 := wstU_in f o (n := n) t (by omega)
    have h2 := dly_in f o (n := n) (t := t) (by omega)
    unfold wstU
    split <;> omega
theorem wstU_succ (f o : Nat → Int) (n t : Nat) : wstU f o n (t + 1) = if wstU f o n t > dly f o n t then wstU f o n t else dly f o n t := rfl
theorem psum_succ (f : Nat → Int) (t : Nat) : psum f (t + 1) = psum f t + f t := rfl
set_option maxHeartbeats 1000000 in
theorem sworst_no (v u : Value) (xs ys : List Int) (w : World) (hr : KReads w v xs) (hs : KReads w u ys) (hn : (flowB xs && outB ys && decide (ys.length = xs.length)) = false) :
    Calls Try.prog 29 #[v, u] w fun e w' => e = .returned (.tuple #[.int .i64 0, .bool false]) ∧ Below w.heap.size w w' := by
  have HR := hid hr
  have HS := hid hs
  obtain ⟨b1, h1⟩ : ∃ b, flowB xs = b := ⟨_, rfl⟩
  obtain ⟨b2, h2⟩ : ∃ b, outB ys = b := ⟨_, rfl⟩
  obtain ⟨a1, c1, rfl, _, _⟩ := hr
  obtain ⟨a2, c2, rfl, _, _⟩ := hs
  rw [h1, h2] at hn
  have H1 := hid h1
  have H2 : Hid ((ys.all fun k => decide (0 ≤ k ∧ k ≤ 2400)) = b2) := h2
  cases b1
  · clear hn h1 h2
    go_enter Try.func29, Try.ntmps29
    go_wp2_with fail
    refine (sflow_eq _ xs false H1.out _ HR.out).mono ?_
    rintro e w' ⟨rfl, hw⟩; obtain rfl := hw.symm
    go_wp2
    go_ret2
    exact ⟨rfl, Below.refl _ _⟩
  cases b2
  · clear hn h1 h2
    go_enter Try.func29, Try.ntmps29
    go_wp2_with fail
    refine (sflow_eq _ xs true H1.out _ HR.out).mono ?_
    rintro e w' ⟨rfl, hw⟩; obtain rfl := hw.symm
    go_wp2_with fail
    refine (l1All7_eq _ ys 0 2400 false H2.out _ HS.out).mono ?_
    rintro e w' ⟨rfl, hw⟩; obtain rfl := hw.symm
    go_wp2
    go_ret2
    exact ⟨rfl, Below.refl _ _⟩
  · have hne : ¬ (ys.length = xs.length) := by
      rw [Bool.true_and, Bool.true_and, decide_eq_false_iff_not] at hn
      exact hn
    have hne1 : ¬ ((ys.length : Int) = (xs.length : Int)) := by omega
    clear hn h1 h2
    go_enter Try.func29, Try.ntmps29
    go_wp2_with fail
    refine (sflow_eq _ xs true H1.out _ HR.out).mono ?_
    rintro e w' ⟨rfl, hw⟩; obtain rfl := hw.symm
    go_wp2_with fail
    refine (l1All7_eq _ ys 0 2400 true H2.out _ HS.out).mono ?_
    rintro e w' ⟨rfl, hw⟩; obtain rfl := hw.symm
    go_wp2
    go_ret2
    exact ⟨rfl, Below.refl _ _⟩
set_option maxRecDepth 100000 in
set_option maxHeartbeats 8000000 in
theorem sworst_yes (v u : Value) (xs ys : List Int) (w : World) (hr : KReads w v xs) (hs : KReads w u ys) (h1 : flowB xs = true) (h2 : outB ys = true) (h3 : ys.length = xs.length) :
    Calls Try.prog 29 #[v, u] w fun e w' => e = .returned (.tuple #[.int .i64 (delN xs ys), .bool (delB xs ys)]) ∧ Below w.heap.size w w' := by
  have HR := hid hr
  have hlen := flowB_len h1
  have HD : Hid (delB xs ys = goneB xs ys) := by show _ = _; unfold delB; rw [h1, h2, decide_eq_true h3]; rfl
  have H1 := hid h1
  have H2 : Hid ((ys.all fun k => decide (0 ≤ k ∧ k ≤ 2400)) = true) := h2
  have H3 := hid h3
  have HX : Hid (∀ t, 0 ≤ fl xs t ∧ fl xs t ≤ 60) := flowB_in h1
  have HY : Hid (∀ t, 0 ≤ fl ys t ∧ fl ys t ≤ 2400) := outB_in h2
  obtain ⟨a1, c1, rfl, _, _⟩ := hr
  have HS := hid hs
  obtain ⟨a2, c2, rfl, _, _⟩ := hs
  rw [h3] at HS ⊢
  clear h1 h2 h3
  go_enter Try.func29, Try.ntmps29
  go_wp2_with fail
  refine (sflow_eq _ xs true H1.out _ HR.out).mono ?_
  rintro e w' ⟨rfl, hw⟩; obtain rfl := hw.symm
  go_wp2_with fail
  refine (l1All7_eq _ ys 0 2400 true H2.out _ HS.out).mono ?_
  rintro e w' ⟨rfl, hw⟩; obtain rfl := hw.symm
  go_wp2
  go_loopw [6, 7, 31] (fun c g i wr => ∃ k : Nat, k ≤ xs.length ∧ i = .int .i64 k ∧ c = .int .i64 (psum (fl xs) k) ∧ g = .int .i64 (psum (fl ys) k) ∧ (∀ t, t < k → psum (fl ys) (t + 1) ≤ psum (fl xs) (t + 1)) ∧ w = wr) (fun _ _ i _ => xs.length - (intOf i).toNat)
  case atStart => exact ⟨0, Nat.zero_le _, rfl, rfl, rfl, fun t h => absurd h (by omega), rfl⟩
  case round =>
    obtain ⟨k, hk, rfl, rfl, rfl, hto, rfl⟩ := hrel
    have HTo := hid hto
    clear hto
    by_cases hlt : k < xs.length
    · obtain ⟨g1, o1, cap1, e1, hc1⟩ := HR.out.cells k hlt
      obtain ⟨g2, o2, cap2, e2, hc2⟩ := HS.out.cells k (by rw [H3.out]; exact hlt)
      injection e1 with e11 e12 e13
      injection e2 with e21 e22 e23
      subst e11 e13 e21 e23
      have hx := HX.out k
      have hy := HY.out k
      have hp := psum_in (f := fl xs) (b := 60) HX.out k
      have hq := psum_in (f := fl ys) (b := 2400) HY.out k
      have HP : Hid (psum (fl xs) (k + 1) = psum (fl xs) k + fl xs k) := rfl
      have HQ : Hid (psum (fl ys) (k + 1) = psum (fl ys) k + fl ys k) := rfl
      obtain ⟨x, ex⟩ : ∃ x, x = fl xs k := ⟨_, rfl⟩
      obtain ⟨y, ey⟩ : ∃ y, y = fl ys k := ⟨_, rfl⟩
      obtain ⟨p, ep⟩ : ∃ p, p = psum (fl xs) k := ⟨_, rfl⟩
      obtain ⟨q, eq⟩ : ∃ q, q = psum (fl ys) k := ⟨_, rfl⟩
      have cx : w.cell? ⟨g1, o1 + k, none⟩ = some (.int .i64 x) := by rw [ex]; exact hc1 k hlt
      have cy : w.cell? ⟨g2, o2 + k, none⟩ = some (.int .i64 y) := by rw [ey]; exact hc2 k (by rw [H3.out]; exact hlt)
      rw [← ex, ← ep] at HP
      rw [← ey, ← eq] at HQ
      rw [← ep, ← eq]
      rw [← ep] at hp
      rw [← eq] at hq
      rw [← ex] at hx
      rw [← ey] at hy
      have hw1 : IntKind.i64.wrap (p + x) = p + x := by rw [IntKind.wrap_i64]; omega
      have hw2 : IntKind.i64.wrap (q + y) = q + y := by rw [IntKind.wrap_i64]; omega
      have n0 : (0 : Int) ≤ (k : Int) := by omega
      have n1 : (k : Int) < (xs.length : Int) := by omega
      clear hc1 hc2 ex ey ep eq e12 e22
      by_cases hgt : p + x < q + y
      · have dg : decide (p + x < q + y) = true := by simpa using hgt
        have HC : Hid (delB xs ys = false) := by show _ = _; rw [HD.out]; exact goneB_false hlt (by rw [HP.out, HQ.out]; exact hgt)
        have HN : Hid (delN xs ys = 0) := delN_no HC.out
        go_wp2
        go_ret2
        exact ⟨by rw [HC.out, HN.out]; rfl, Below.refl _ _⟩
      · have dg : decide (p + x < q + y) = false := by simpa using hgt
        go_wp2
        go_roundw
        case rel =>
          refine ⟨k + 1, by omega, by go_num, by rw [HP.out], by rw [HQ.out], fun t ht => ?_, by first | rfl | trivial⟩
          by_cases e : t = k
          · rw [e, HP.out, HQ.out]; omega
          · exact HTo.out t (by omega)
        case measure => simp [intOf]; omega
    · obtain rfl : k = xs.length := by omega
      have HC : Hid (delB xs ys = true) := by show _ = _; rw [HD.out]; exact (goneB_iff _ _).2 HTo.out
      have HN : Hid (delN xs ys = wstU (fl xs) (fl ys) xs.length xs.length) := delN_yes HC.out
      clear HTo
      go_wp2
      go_loopw [6, 9, 52] (fun c m i wr => ∃ t : Nat, t ≤ xs.length ∧ i = .int .i64 t ∧ c = .int .i64 (psum (fl xs) t) ∧ m = .int .i64 (wstU (fl xs) (fl ys) xs.length t) ∧ w = wr) (fun _ _ i _ => xs.length - (intOf i).toNat)
      case atStart => exact ⟨0, Nat.zero_le _, rfl, rfl, rfl, rfl⟩
      case round =>
        obtain ⟨t, ht, rfl, rfl, rfl, rfl⟩ := hrel
        by_cases hlt : t < xs.length
        · obtain ⟨g1, o1, cap1, e1, hc1⟩ := HR.out.cells t hlt
          injection e1 with e11 e12 e13
          subst e11 e13
          have hx := HX.out t
          have hp := psum_in (f := fl xs) (b := 60) HX.out t
          have HP : Hid (psum (fl xs) (t + 1) = psum (fl xs) t + fl xs t) := rfl
          have HM := hid (wstU_succ (fl xs) (fl ys) xs.length t)
          have hmi := wstU_in (fl xs) (fl ys) t ht
          have hdi := dly_in (fl xs) (fl ys) hlt
          obtain ⟨x, ex⟩ : ∃ x, x = fl xs t := ⟨_, rfl⟩
          obtain ⟨p, ep⟩ : ∃ p, p = psum (fl xs) t := ⟨_, rfl⟩
          obtain ⟨m, em⟩ : ∃ m, m = wstU (fl xs) (fl ys) xs.length t := ⟨_, rfl⟩
          obtain ⟨dd, ed⟩ : ∃ dd, dd = dly (fl xs) (fl ys) xs.length t := ⟨_, rfl⟩
          have cx : w.cell? ⟨g1, o1 + t, none⟩ = some (.int .i64 x) := by rw [ex]; exact hc1 t hlt
          have HDD := hid ed
          rw [← ex, ← ep] at HP
          rw [← ep, ← em]
          rw [← ep] at hp
          rw [← ex] at hx
          rw [← em] at hmi
          rw [← em, ← ed] at HM
          rw [← ed] at hdi
          have hw1 : IntKind.i64.wrap (p + x) = p + x := by rw [IntKind.wrap_i64]; omega
          have n0 : (0 : Int) ≤ (t : Int) := by omega
          have n1 : (t : Int) < (xs.length : Int) := by omega
          clear hc1 ex ep em ed e12
          go_wp2
          go_loopw [11, 12] (fun s kv wr => ∃ k : Nat, k ≤ xs.length ∧ kv = .int .i64 k ∧ s = .int .i64 (psum (fl ys) k) ∧ (∀ i, i < k → psum (fl ys) i < p + x) ∧ w = wr) (fun _ kv _ => xs.length - (intOf kv).toNat)
          case atStart => exact ⟨0, Nat.zero_le _, rfl, rfl, fun i h => absurd h (by omega), rfl⟩
          case round =>
            obtain ⟨k, hk, rfl, rfl, hbe, rfl⟩ := hrel
            have HBe := hid hbe
            have hq := psum_in (f := fl ys) (b := 2400) HY.out k
            have HQ : Hid (psum (fl ys) (k + 1) = psum (fl ys) k + fl ys k) := rfl
            have hy := HY.out k
            obtain ⟨q, eq⟩ : ∃ q, q = psum (fl ys) k := ⟨_, rfl⟩
            obtain ⟨y, ey⟩ : ∃ y, y = fl ys k := ⟨_, rfl⟩
            have HEq := hid eq
            have HEy := hid ey
            rw [← eq, ← ey] at HQ
            rw [← eq] at hq ⊢
            rw [← ey] at hy
            clear eq ey hbe
            by_cases hgo : k < xs.length ∧ q < p + x
            · obtain ⟨hkl, hql⟩ := hgo
              obtain ⟨g2, o2, cap2, e2, hc2⟩ := HS.out.cells k (by rw [H3.out]; exact hkl)
              injection e2 with e21 e22 e23
              subst e21 e23
              have cy : w.cell? ⟨g2, o2 + k, none⟩ = some (.int .i64 y) := by rw [HEy.out]; exact hc2 k (by rw [H3.out]; exact hkl)
              have hw2 : IntKind.i64.wrap (q + y) = q + y := by rw [IntKind.wrap_i64]; omega
              have m0 : (0 : Int) ≤ (k : Int) := by omega
              have m1 : (k : Int) < (xs.length : Int) := by omega
              have dq : decide (q < p + x) = true := by simpa using hql
              clear hc2 e22
              go_wp2
              go_roundw
              case rel =>
                refine ⟨k + 1, by omega, by go_num, by rw [HQ.out], fun i hi => ?_, by first | rfl | trivial⟩
                by_cases e : i = k
                · rw [e, ← HEq.out]; exact hql
                · exact HBe.out i (by omega)
              case measure => simp [intOf]; omega
            · have HK : Hid (kOf (fl ys) (p + x) xs.length = k) := kOf_only hk HBe.out (by rw [← HEq.out]; omega)
              obtain ⟨r, er⟩ : ∃ r, (if m > dd then m else dd) = r := ⟨_, rfl⟩
              rw [er] at HM
              have HRr := hid er
              clear er
              by_cases hql : q < p + x
              · obtain rfl : k = xs.length := by omega
                have dq : decide (q < p + x) = true := by simpa using hql
                have HE : Hid ((xs.length : Int) - t = dd) := by
                  show _ = _
                  rw [HDD.out]; unfold dly
                  rw [HP.out, HK.out, ← HEq.out, if_pos hql]
                have hdd := HE.out
                have hw3 : IntKind.i64.wrap ((xs.length : Int) - t) = dd := by rw [IntKind.wrap_i64]; omega
                have hw4 : IntKind.i64.wrap dd = dd := by rw [IntKind.wrap_i64]; omega
                have hw5 : IntKind.i64.wrap ((xs.length : Int) - 1) = (xs.length : Int) - 1 := by rw [IntKind.wrap_i64]; omega
                have hw6 : IntKind.i64.wrap ((xs.length : Int) - 1 - t) = (xs.length : Int) - 1 - t := by rw [IntKind.wrap_i64]; omega
                clear hgo
                go_wp2_with fail
                refine (l1Most7_eq m dd r HRr.out _).mono ?_
                rintro e w' ⟨rfl, hw⟩; obtain rfl := hw.symm
                go_wp2
                go_roundw
                case rel => exact ⟨t + 1, by omega, by go_num, by rw [HP.out], by rw [HM.out], by first | rfl | trivial⟩
                case measure => simp [intOf]; omega
              · have dq : decide (q < p + x) = false := by simpa using hql
                have HE : Hid ((k : Int) - 1 - t = dd) := by
                  show _ = _
                  rw [HDD.out]; unfold dly
                  rw [HP.out, HK.out, ← HEq.out, if_neg hql]
                have hdd := HE.out
                have hw5 : IntKind.i64.wrap ((k : Int) - 1) = (k : Int) - 1 := by rw [IntKind.wrap_i64]; omega
                have hw6 : IntKind.i64.wrap ((k : Int) - 1 - t) = dd := by rw [IntKind.wrap_i64]; omega
                have hw4 : IntKind.i64.wrap dd = dd := by rw [IntKind.wrap_i64]; omega
                clear hgo
                go_wp2_with fail
                all_goals
                  refine (l1Most7_eq m dd r HRr.out _).mono ?_
                  rintro e w' ⟨rfl, hw⟩; obtain rfl := hw.symm
                  go_wp2
                  go_roundw
                  case rel => exact ⟨t + 1, by omega, by go_num, by rw [HP.out], by rw [HM.out], by first | rfl | trivial⟩
                  case measure => simp [intOf]; omega
        · obtain rfl : t = xs.length := by omega
          go_wp2
          go_ret2
          exact ⟨by rw [HC.out, HN.out]; rfl, Below.refl _ _⟩
end Go.Proofs.Ytcieefggijjekac
