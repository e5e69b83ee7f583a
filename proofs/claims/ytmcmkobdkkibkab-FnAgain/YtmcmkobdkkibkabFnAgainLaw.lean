/-
  The law FnAgain answers true at all bytes, where impl's functions tell what they should.
-/
import Derived.Test.YtmcmkobdkkibkabCon6
import Derived.Test.YtmcmkobdkkibkabDrawLong
import Derived.Test.YtmcmkobdkkibkabDrawRun
import Derived.Test.YtmcmkobdkkibkabSameInts
import Derived.Test.YtmcmkobdkkibkabCodeRow
import Derived.Test.YtmcmkobdkkibkabSLongFn
import Derived.Test.YtmcmkobdkkibkabSFirst
import Derived.Test.YtmcmkobdkkibkabSRunFn
namespace Go.Proofs.Ytmcmkobdkkibkab
open Go.RowKit

theorem code_after6 {w w' : World} {v : Value} (h : CodeOk w.heap.size w v) (hb : Below w.heap.size w w') : CodeOk w'.heap.size w' v := by
  obtain ⟨a, len, cap, rfl, hlen, hx⟩ := h
  refine ⟨a, len, cap, rfl, hlen, ?_⟩
  rcases hx with hx | ⟨cb, off, rfl, hlt, hc⟩
  · exact .inl hx
  · exact .inr ⟨cb, off, rfl, Nat.lt_of_lt_of_le hlt hb.size, fun i hi => by
      obtain ⟨x, hx, hc⟩ := hc i hi
      exact ⟨x, hx, (hb.cell (p := ⟨cb, off + i, none⟩) hlt).trans hc⟩⟩
/-- No task has more than has come. -/
theorem come_le {xs : List AgEl} (h : goodA xs = true) {i : Nat} (hi : i < xs.length) (t : Nat) : cntL i (runL xs (t + 1)) ≤ needA xs i * ((t : Int) / everyA xs i + 1) := by
  have h1 := cnt_le (goodA_tasks h) hi (t + 1)
  rw [show ((t + 1 : Nat) : Int) = (t : Int) + 1 by omega, cl_succ ((goodA_tasks h).one hi)] at h1
  exact h1
theorem cnt_at {xs : List AgEl} {m t : Nat} (i : Nat) (h : t < m) : cntL i (runL xs (t + 1)) = cntL i (runL xs t) + if ((runL xs m).getD t 0 == (i : Int)) = true then 1 else 0 := by
  have h1 := run_cnt (needA xs) (everyA xs) xs.length t i
  have e := runL_at xs m t h
  change cntL i (runL xs (t + 1)) = cntL i (runL xs t) + _ at h1
  rw [h1, e]
  congr 1
  by_cases c : pickU (needA xs) (everyA xs) (runL xs t) xs.length = (i : Int)
  · have c' : pickU (needA xs) (everyA xs) (runU (needA xs) (everyA xs) xs.length t) xs.length = (i : Int) := c
    simp [c, c']
  · have c' : ¬ pickU (needA xs) (everyA xs) (runU (needA xs) (everyA xs) xs.length t) xs.length = (i : Int) := c
    simp [c, c']
set_option maxRecDepth 100000 in
set_option maxHeartbeats 40000000 in
theorem FnAgain_law (a0 : Option Addr) (len0 cap0 : Nat) (z0 : List Int) (a1 : Option Addr) (len1 cap1 : Nat) (z1 : List Int) (w : World) (h0 : IsRow .u8 w a0 len0 cap0 z0) (h1 : IsRow .u8 w a1 len1 cap1 z1) (b0 : cap0 * 1 ≤ 140737488351232) (b1 : cap1 * 1 ≤ 140737488351232)
    (TG : GoodATells 41) (TL : LongTells 37) (TF : LongTells 39) (TR : RunTells 44) :
    Calls Try.prog 6 #[.slice a0 len0 cap0, .slice a1 len1 cap1] w fun e w' => e = .returned (.bool true) ∧ Below w.heap.size w w' := by
  have l0 : len0 ≤ cap0 := by rcases h0 with ⟨_, rfl, rfl, _⟩ | ⟨x, _, h, _⟩ <;> omega
  have l1 : len1 ≤ cap1 := by rcases h1 with ⟨_, rfl, rfl, _⟩ | ⟨x, _, h, _⟩ <;> omega
  by_cases hbig : (1048576 : Int) < (len0 : Int) + (len1 : Int)
  · clear h0 h1
    go_enter Try.func6, Try.ntmps6
    go_wp2
    go_ret
    exact ⟨rfl, Below.refl _ _⟩
  have HC0 := hid (code_of_row h0 (by omega))
  have HC1 := hid (code_of_row h1 (by omega))
  have HTG := hid TG
  have HTL := hid TL
  have HTF := hid TF
  have HTR := hid TR
  clear h0 h1 TG TL TF TR
  go_enter Try.func6, Try.ntmps6
  go_wp2_with fail
  refine (drawLong_any _ _ HC0.out).mono ?_
  rintro e w1 ⟨u0, z, rfl, xs, hxs, o, b⟩
  have RT := hid o.reads
  have B := hid b
  clear o b
  by_cases ht : thereA xs z = true
  · obtain ⟨hg, k, rfl, hk⟩ := thereA_of ht
    have HG := hid hg
    obtain ⟨ln, hln⟩ : ∃ ln, ln = lgN xs k := ⟨_, rfl⟩
    obtain ⟨lb, hlb⟩ : ∃ lb, lb = lgB xs k := ⟨_, rfl⟩
    have K1 : Hid (∀ v w, AgReads w v xs → Calls Try.prog 37 #[v, .int .i64 (k : Nat)] w fun e w' => e = .returned (.tuple #[.int .i64 ln, .bool lb, .bool true]) ∧ Below w.heap.size w w') := fun v w hr => by rw [hln, hlb]; exact HTL.out.yes v xs k w hr HG.out hk
    have K2 : Hid (∀ v w, AgReads w v xs → Calls Try.prog 38 #[v, .int .i64 (k : Nat)] w fun e w' => e = .returned (.tuple #[.int .i64 ln, .bool lb, .bool true]) ∧ Below w.heap.size w w') := fun v w hr => by rw [hln, hlb]; exact slongfn_yes v xs k w hr HG.out hk
    have K3 : Hid (∀ v w, AgReads w v xs → Calls Try.prog 39 #[v, .int .i64 (k : Nat)] w fun e w' => e = .returned (.tuple #[.int .i64 ln, .bool lb, .bool true]) ∧ Below w.heap.size w w') := fun v w hr => by rw [hln, hlb]; exact HTF.out.yes v xs k w hr HG.out hk
    have K4 : Hid (∀ v w, AgReads w v xs → Calls Try.prog 40 #[v, .int .i64 (k : Nat)] w fun e w' => e = .returned (.tuple #[.int .i64 ln, .bool lb, .bool true]) ∧ Below w.heap.size w w') := fun v w hr => by rw [hln, hlb]; exact sfirst_yes v xs k w hr HG.out hk
    clear ht hg hln hlb
    have hnn : (ln != ln) = false := by simp
    cases lb
    all_goals
      go_wp2_with fail
      refine (K1.out _ _ RT.out).mono ?_
      rintro e w2 ⟨rfl, b⟩
      replace RT := hid (RT.out.below b)
      replace B : Hid (Below w.heap.size w w2) := B.out.trans (b.mono B.out.size)
      clear b
      go_wp2_with fail
      refine (K2.out _ _ RT.out).mono ?_
      rintro e w3 ⟨rfl, b⟩
      replace RT := hid (RT.out.below b)
      replace B : Hid (Below w.heap.size w w3) := B.out.trans (b.mono B.out.size)
      clear b
      go_wp2_with fail
      refine (K3.out _ _ RT.out).mono ?_
      rintro e w4 ⟨rfl, b⟩
      replace RT := hid (RT.out.below b)
      replace B : Hid (Below w.heap.size w w4) := B.out.trans (b.mono B.out.size)
      clear b
      go_wp2_with fail
      refine (K4.out _ _ RT.out).mono ?_
      rintro e w5 ⟨rfl, b⟩
      replace RT := hid (RT.out.below b)
      replace B : Hid (Below w.heap.size w w5) := B.out.trans (b.mono B.out.size)
      clear b
      go_wp2_with fail
      refine (HTG.out _ xs true HG.out _ RT.out).mono ?_
      rintro e w6 ⟨rfl, b⟩
      replace RT := hid (RT.out.below b)
      replace B : Hid (Below w.heap.size w w6) := B.out.trans (b.mono B.out.size)
      clear b
      go_wp2_with fail
      refine (sgoodAgain_eq _ xs true HG.out _ RT.out).mono ?_
      rintro e w7 ⟨rfl, b⟩
      replace RT := hid (RT.out.below b)
      replace B : Hid (Below w.heap.size w w7) := B.out.trans (b.mono B.out.size)
      clear b
      go_wp2_with fail
      refine (drawRun_any _ _ (code_after6 HC1.out B.out)).mono ?_
      rintro e wA ⟨v8, z8, rfl, xt, hxt, o8, b⟩
      have RT := hid o8.reads
      replace B : Hid (Below w.heap.size w wA) := B.out.trans (b.mono B.out.size)
      clear b o8
      obtain ⟨ax, cx, rfl, _, _⟩ := RT.out
      by_cases hn : runB6 xt z8 = false
      · have HN := hid hn
        clear hn
        go_wp2_with fail
        refine (HTR.out.no _ xt z8 _ RT.out HN.out).mono ?_
        rintro e w41 ⟨uRM, rfl, o, b⟩
        have RM := hid o.reads
        clear o
        replace RT := hid (RT.out.below b)
        replace B : Hid (Below w.heap.size w w41) := B.out.trans (b.mono B.out.size)
        clear b
        go_wp2_with fail
        refine (srunfn_no _ xt z8 _ RT.out HN.out).mono ?_
        rintro e w42 ⟨uRS, rfl, o, b⟩
        have RS := hid o.reads
        clear o
        replace RT := hid (RT.out.below b)
        replace RM := hid (RM.out.below b)
        replace B : Hid (Below w.heap.size w w42) := B.out.trans (b.mono B.out.size)
        clear b
        go_wp2_with fail
        refine (sameInts_same _ _ _ _ RM.out.r RS.out.r).mono ?_
        rintro e w43 ⟨rfl, b⟩
        replace RT := hid (RT.out.below b)
        replace B : Hid (Below w.heap.size w w43) := B.out.trans (b.mono B.out.size)
        clear b
        go_wp2
        go_ret
        exact ⟨by first | rfl | simp, B.out⟩
      · have hn' : runB6 xt z8 = true := by simpa using hn
        obtain ⟨hg, m, rfl, hm1, hm2⟩ := runB6_of hn'
        have HG2 := hid hg
        clear hn hn' hg
        go_wp2_with fail
        refine (HTR.out.yes _ xt m _ RT.out HG2.out hm1 hm2).mono ?_
        rintro e w41 ⟨uRM, rfl, o, b⟩
        have RM := hid o.reads
        clear o
        replace RT := hid (RT.out.below b)
        replace B : Hid (Below w.heap.size w w41) := B.out.trans (b.mono B.out.size)
        clear b
        go_wp2_with fail
        refine (srunfn_yes _ xt m _ RT.out HG2.out hm1 hm2).mono ?_
        rintro e w42 ⟨uRS, rfl, o, b⟩
        have RS := hid o.reads
        clear o
        replace RT := hid (RT.out.below b)
        replace RM := hid (RM.out.below b)
        replace B : Hid (Below w.heap.size w w42) := B.out.trans (b.mono B.out.size)
        clear b
        go_wp2_with fail
        refine (sameInts_same _ _ _ _ RM.out.r RS.out.r).mono ?_
        rintro e w43 ⟨rfl, b⟩
        replace RT := hid (RT.out.below b)
        replace RM := hid (RM.out.below b)
        replace B : Hid (Below w.heap.size w w43) := B.out.trans (b.mono B.out.size)
        clear b
        obtain ⟨gs, os, cs, es, hcs⟩ := RM.out.cells 0 (by rw [runL_len]; omega)
        have HLn : Hid ((runL xt m).length = m) := runL_len xt m
        rw [HLn.out] at es hcs
        subst es
        have HCS : Hid (∀ t, t < m → w43.cell? ⟨gs, os + t, none⟩ = some (.int .i64 ((runL xt m).getD t 0))) := fun t ht => hcs t ht
        have ngs : gs < w43.heap.size := lt_of_cell (HCS.out 0 (by omega))
        have RT0 := RT
        clear hcs
        go_wp2
        go_loopw [151] (fun iv wr => ∃ i : Nat, i ≤ xt.length ∧ iv = .int .i64 i ∧ Below w43.heap.size w43 wr) (fun iv _ => xt.length - (intOf iv).toNat)
        case atStart => exact ⟨0, Nat.zero_le _, rfl, Below.refl _ _⟩
        case round =>
          obtain ⟨i, hi, rfl, hbz⟩ := hrel
          have HZ := hid hbz
          have hszz := hbz.size
          clear hbz
          by_cases hil : i < xt.length
          · obtain ⟨gl, ol, cl', el, hc⟩ := (RT0.out.below HZ.out).cells i hil
            cases el
            obtain ⟨p, hp⟩ : ∃ p, p = needA xt i := ⟨_, rfl⟩
            obtain ⟨q, hq⟩ : ∃ q, q = everyA xt i := ⟨_, rfl⟩
            have c0 : wr.cell? ⟨gl, ol + i * 2, none⟩ = some (.int .i64 p) := by rw [hp]; exact (hc i hil).1
            have c1 : wr.cell? ⟨gl, ol + i * 2 + 1, none⟩ = some (.int .i64 q) := by rw [hq]; exact (hc i hil).2
            have hnd := (goodA_tasks HG2.out).need i hil
            have hev := (goodA_tasks HG2.out).every i hil
            rw [← hp] at hnd hev
            rw [← hq] at hev
            have HLe : Hid (∀ t : Nat, cntL i (runL xt (t + 1)) ≤ p * ((t : Int) / q + 1)) := fun t => by rw [hp, hq]; exact come_le HG2.out hil t
            obtain ⟨wo, hwo⟩ : ∃ wo, wo = wr := ⟨_, rfl⟩
            subst hwo
            have AX : Hid (Below wo.heap.size wo (wo.alloc (.cells #[.int .i64 p, .int .i64 q] 64))) := (Below.refl _ _).alloc (Nat.le_refl _) _
            have D0 : Hid ((wo.alloc (.cells #[.int .i64 p, .int .i64 q] 64)).cell? ⟨wo.heap.size, 0, none⟩ = some (.int .i64 p)) := cell_of_row _ _ _ _ _ (0, 0) (heap_alloc_new wo _)
            have D1 : Hid ((wo.alloc (.cells #[.int .i64 p, .int .i64 q] 64)).cell? ⟨wo.heap.size, 1, none⟩ = some (.int .i64 q)) := cell_of_row _ _ _ _ _ (0, 0) (heap_alloc_new wo _)
            clear hc hp hq
            go_wp2
            go_loopw [27, 158] (fun nv tv wr => ∃ (t d : Nat), t ≤ m ∧ tv = .int .i64 t ∧ nv = .int .i64 (cntL i (runL xt t)) ∧ wr = (wo.alloc (.cells #[.int .i64 p, .int .i64 q] 64)).drewN d) (fun _ tv _ => m - (intOf tv).toNat)
            case atStart => exact ⟨0, 0, Nat.zero_le _, rfl, rfl, rfl⟩
            case round =>
              obtain ⟨t, d, ht, rfl, rfl, hwr⟩ := hrel
              have HWR := hid hwr
              have BWR : Hid (Below wo.heap.size wo wr) := by rw [hwr]; exact AX.out.trans ⟨rfl, rfl, rfl, Nat.le_refl _, fun _ _ => rfl⟩
              have d0 : wr.cell? ⟨wo.heap.size, 0, none⟩ = some (.int .i64 p) := by rw [hwr]; exact D0.out
              have d1 : wr.cell? ⟨wo.heap.size, 1, none⟩ = some (.int .i64 q) := by rw [hwr]; exact D1.out
              clear hwr
              by_cases htl : t < m
              · obtain ⟨y, hy⟩ : ∃ y, y = (runL xt m).getD t 0 := ⟨_, rfl⟩
                have cy : wr.cell? ⟨gs, os + t, none⟩ = some (.int .i64 y) := by rw [hy]; exact (BWR.out.cell (p := ⟨gs, os + t, none⟩) (by show gs < wo.heap.size; omega)).trans ((HZ.out.cell (p := ⟨gs, os + t, none⟩) ngs).trans (HCS.out t htl))
                have HN := hid (cnt_at (xs := xt) i htl)
                rw [← hy] at HN
                have hle := HLe.out t
                have hci := cntL_in i (runL xt t)
                rw [runL_len] at hci
                obtain ⟨c, hc⟩ : ∃ c, c = cntL i (runL xt t) := ⟨_, rfl⟩
                obtain ⟨c2, hc2⟩ : ∃ c2, c2 = cntL i (runL xt (t + 1)) := ⟨_, rfl⟩
                rw [← hc2] at HN hle
                rw [← hc] at HN hci ⊢
                obtain ⟨tq, htq⟩ : ∃ tq, tq = (t : Int) / q := ⟨_, rfl⟩
                rw [← htq] at hle
                have htq0 : 0 ≤ tq := by rw [htq]; exact Int.ediv_nonneg (by omega) (by omega)
                have htq1 : tq ≤ 200 := by rw [htq]; exact Int.le_trans (Int.ediv_le_self _ (by omega)) (by omega)
                have hdv : (t : Int).tdiv q = tq := by rw [htq]; exact Int.tdiv_eq_ediv_of_nonneg (by omega)
                obtain ⟨pm, hpm⟩ : ∃ pm, pm = p * (tq + 1) := ⟨_, rfl⟩
                rw [← hpm] at hle
                have hpm0 : 0 ≤ pm ∧ pm ≤ 3000 := by
                  rw [hpm]
                  refine ⟨Int.mul_nonneg (by omega) (by omega), ?_⟩
                  have := Int.mul_le_mul (show p ≤ 10 by omega) (show tq + 1 ≤ 201 by omega) (by omega) (by omega)
                  omega
                have hw1 : IntKind.i64.wrap tq = tq := by rw [IntKind.wrap_i64]; omega
                have hw2 : IntKind.i64.wrap (tq + 1) = tq + 1 := by rw [IntKind.wrap_i64]; omega
                have hw3 : IntKind.i64.wrap pm = pm := by rw [IntKind.wrap_i64]; omega
                have hmul : p * (tq + 1) = pm := hpm.symm
                have hw4 : IntKind.i64.wrap (c + 1) = c + 1 := by rw [IntKind.wrap_i64]; omega
                have hq0 : (q == 0) = false := by rw [beq_eq_false_iff_ne]; omega
                have hq1 : q ≠ 0 := by omega
                have dle : decide (pm < c2) = false := by rw [decide_eq_false_iff_not]; omega
                have a0 : (0 : Int) ≤ (t : Int) := by omega
                have a1 : (t : Int) < (m : Int) := by omega
                have HC2 := hid hc2
                clear hy hc hc2 htq hpm
                by_cases hyi : (y == (i : Int)) = true
                · have HE : Hid (c2 = c + 1) := by show _ = _; rw [HN.out, if_pos hyi]
                  have dle' : decide (pm < c + 1) = false := by rw [← HE.out]; exact dle
                  clear dle HN
                  go_wp2_with fail
                  go_big_region
                  go_wp2
                  go_roundw
                  case rel => exact ⟨t + 1, d + 1, by omega, by go_num, by rw [← HC2.out, HE.out], by rw [HWR.out]; rfl⟩
                  case measure => simp [intOf]; omega
                · have hyi' : (y == (i : Int)) = false := by simpa using hyi
                  have HE : Hid (c2 = c) := by show _ = _; rw [HN.out, if_neg hyi, Int.add_zero]
                  have dle' : decide (pm < c) = false := by rw [← HE.out]; exact dle
                  clear dle HN hyi
                  go_wp2_with fail
                  go_big_region
                  go_wp2
                  go_roundw
                  case rel => exact ⟨t + 1, d + 1, by omega, by go_num, by rw [← HC2.out, HE.out], by rw [HWR.out]; rfl⟩
                  case measure => simp [intOf]; omega
              · have BZ2 : Hid (Below w43.heap.size w43 wr) := HZ.out.trans (BWR.out.mono hszz)
                go_wp2
                go_roundw
                case rel => exact ⟨i + 1, by omega, by go_num, BZ2.out⟩
                case measure => simp [intOf]; omega
          · have BF : Hid (Below w.heap.size w wr) := B.out.trans (HZ.out.mono B.out.size)
            go_wp2
            go_ret
            exact ⟨by first | rfl | simp, BF.out⟩
  · have HN : Hid (thereA xs z = false) := by show _ = _; simpa using ht
    obtain ⟨t, hT⟩ : ∃ t, goodA xs = t := ⟨_, rfl⟩
    have HT := hid hT
    clear ht hT
    cases t
    all_goals
      go_wp2_with fail
      refine (HTL.out.no _ xs z _ RT.out HN.out).mono ?_
      rintro e w2 ⟨rfl, b⟩
      replace RT := hid (RT.out.below b)
      replace B : Hid (Below w.heap.size w w2) := B.out.trans (b.mono B.out.size)
      clear b
      go_wp2_with fail
      refine (slongfn_no _ xs z _ RT.out HN.out).mono ?_
      rintro e w3 ⟨rfl, b⟩
      replace RT := hid (RT.out.below b)
      replace B : Hid (Below w.heap.size w w3) := B.out.trans (b.mono B.out.size)
      clear b
      go_wp2_with fail
      refine (HTF.out.no _ xs z _ RT.out HN.out).mono ?_
      rintro e w4 ⟨rfl, b⟩
      replace RT := hid (RT.out.below b)
      replace B : Hid (Below w.heap.size w w4) := B.out.trans (b.mono B.out.size)
      clear b
      go_wp2_with fail
      refine (sfirst_no _ xs z _ RT.out HN.out).mono ?_
      rintro e w5 ⟨rfl, b⟩
      replace RT := hid (RT.out.below b)
      replace B : Hid (Below w.heap.size w w5) := B.out.trans (b.mono B.out.size)
      clear b
      go_wp2_with fail
      refine (HTG.out _ xs _ HT.out _ RT.out).mono ?_
      rintro e w6 ⟨rfl, b⟩
      replace RT := hid (RT.out.below b)
      replace B : Hid (Below w.heap.size w w6) := B.out.trans (b.mono B.out.size)
      clear b
      go_wp2_with fail
      refine (sgoodAgain_eq _ xs _ HT.out _ RT.out).mono ?_
      rintro e w7 ⟨rfl, b⟩
      replace RT := hid (RT.out.below b)
      replace B : Hid (Below w.heap.size w w7) := B.out.trans (b.mono B.out.size)
      clear b
      go_wp2_with fail
      refine (drawRun_any _ _ (code_after6 HC1.out B.out)).mono ?_
      rintro e wA ⟨v8, z8, rfl, xt, hxt, o8, b⟩
      have RT := hid o8.reads
      replace B : Hid (Below w.heap.size w wA) := B.out.trans (b.mono B.out.size)
      clear b o8
      obtain ⟨ax, cx, rfl, _, _⟩ := RT.out
      by_cases hn : runB6 xt z8 = false
      · have HN := hid hn
        clear hn
        go_wp2_with fail
        refine (HTR.out.no _ xt z8 _ RT.out HN.out).mono ?_
        rintro e w41 ⟨uRM, rfl, o, b⟩
        have RM := hid o.reads
        clear o
        replace RT := hid (RT.out.below b)
        replace B : Hid (Below w.heap.size w w41) := B.out.trans (b.mono B.out.size)
        clear b
        go_wp2_with fail
        refine (srunfn_no _ xt z8 _ RT.out HN.out).mono ?_
        rintro e w42 ⟨uRS, rfl, o, b⟩
        have RS := hid o.reads
        clear o
        replace RT := hid (RT.out.below b)
        replace RM := hid (RM.out.below b)
        replace B : Hid (Below w.heap.size w w42) := B.out.trans (b.mono B.out.size)
        clear b
        go_wp2_with fail
        refine (sameInts_same _ _ _ _ RM.out.r RS.out.r).mono ?_
        rintro e w43 ⟨rfl, b⟩
        replace RT := hid (RT.out.below b)
        replace B : Hid (Below w.heap.size w w43) := B.out.trans (b.mono B.out.size)
        clear b
        go_wp2
        go_ret
        exact ⟨by first | rfl | simp, B.out⟩
      · have hn' : runB6 xt z8 = true := by simpa using hn
        obtain ⟨hg, m, rfl, hm1, hm2⟩ := runB6_of hn'
        have HG2 := hid hg
        clear hn hn' hg
        go_wp2_with fail
        refine (HTR.out.yes _ xt m _ RT.out HG2.out hm1 hm2).mono ?_
        rintro e w41 ⟨uRM, rfl, o, b⟩
        have RM := hid o.reads
        clear o
        replace RT := hid (RT.out.below b)
        replace B : Hid (Below w.heap.size w w41) := B.out.trans (b.mono B.out.size)
        clear b
        go_wp2_with fail
        refine (srunfn_yes _ xt m _ RT.out HG2.out hm1 hm2).mono ?_
        rintro e w42 ⟨uRS, rfl, o, b⟩
        have RS := hid o.reads
        clear o
        replace RT := hid (RT.out.below b)
        replace RM := hid (RM.out.below b)
        replace B : Hid (Below w.heap.size w w42) := B.out.trans (b.mono B.out.size)
        clear b
        go_wp2_with fail
        refine (sameInts_same _ _ _ _ RM.out.r RS.out.r).mono ?_
        rintro e w43 ⟨rfl, b⟩
        replace RT := hid (RT.out.below b)
        replace RM := hid (RM.out.below b)
        replace B : Hid (Below w.heap.size w w43) := B.out.trans (b.mono B.out.size)
        clear b
        obtain ⟨gs, os, cs, es, hcs⟩ := RM.out.cells 0 (by rw [runL_len]; omega)
        have HLn : Hid ((runL xt m).length = m) := runL_len xt m
        rw [HLn.out] at es hcs
        subst es
        have HCS : Hid (∀ t, t < m → w43.cell? ⟨gs, os + t, none⟩ = some (.int .i64 ((runL xt m).getD t 0))) := fun t ht => hcs t ht
        have ngs : gs < w43.heap.size := lt_of_cell (HCS.out 0 (by omega))
        have RT0 := RT
        clear hcs
        go_wp2
        go_loopw [151] (fun iv wr => ∃ i : Nat, i ≤ xt.length ∧ iv = .int .i64 i ∧ Below w43.heap.size w43 wr) (fun iv _ => xt.length - (intOf iv).toNat)
        case atStart => exact ⟨0, Nat.zero_le _, rfl, Below.refl _ _⟩
        case round =>
          obtain ⟨i, hi, rfl, hbz⟩ := hrel
          have HZ := hid hbz
          have hszz := hbz.size
          clear hbz
          by_cases hil : i < xt.length
          · obtain ⟨gl, ol, cl', el, hc⟩ := (RT0.out.below HZ.out).cells i hil
            cases el
            obtain ⟨p, hp⟩ : ∃ p, p = needA xt i := ⟨_, rfl⟩
            obtain ⟨q, hq⟩ : ∃ q, q = everyA xt i := ⟨_, rfl⟩
            have c0 : wr.cell? ⟨gl, ol + i * 2, none⟩ = some (.int .i64 p) := by rw [hp]; exact (hc i hil).1
            have c1 : wr.cell? ⟨gl, ol + i * 2 + 1, none⟩ = some (.int .i64 q) := by rw [hq]; exact (hc i hil).2
            have hnd := (goodA_tasks HG2.out).need i hil
            have hev := (goodA_tasks HG2.out).every i hil
            rw [← hp] at hnd hev
            rw [← hq] at hev
            have HLe : Hid (∀ t : Nat, cntL i (runL xt (t + 1)) ≤ p * ((t : Int) / q + 1)) := fun t => by rw [hp, hq]; exact come_le HG2.out hil t
            obtain ⟨wo, hwo⟩ : ∃ wo, wo = wr := ⟨_, rfl⟩
            subst hwo
            have AX : Hid (Below wo.heap.size wo (wo.alloc (.cells #[.int .i64 p, .int .i64 q] 64))) := (Below.refl _ _).alloc (Nat.le_refl _) _
            have D0 : Hid ((wo.alloc (.cells #[.int .i64 p, .int .i64 q] 64)).cell? ⟨wo.heap.size, 0, none⟩ = some (.int .i64 p)) := cell_of_row _ _ _ _ _ (0, 0) (heap_alloc_new wo _)
            have D1 : Hid ((wo.alloc (.cells #[.int .i64 p, .int .i64 q] 64)).cell? ⟨wo.heap.size, 1, none⟩ = some (.int .i64 q)) := cell_of_row _ _ _ _ _ (0, 0) (heap_alloc_new wo _)
            clear hc hp hq
            go_wp2
            go_loopw [27, 158] (fun nv tv wr => ∃ (t d : Nat), t ≤ m ∧ tv = .int .i64 t ∧ nv = .int .i64 (cntL i (runL xt t)) ∧ wr = (wo.alloc (.cells #[.int .i64 p, .int .i64 q] 64)).drewN d) (fun _ tv _ => m - (intOf tv).toNat)
            case atStart => exact ⟨0, 0, Nat.zero_le _, rfl, rfl, rfl⟩
            case round =>
              obtain ⟨t, d, ht, rfl, rfl, hwr⟩ := hrel
              have HWR := hid hwr
              have BWR : Hid (Below wo.heap.size wo wr) := by rw [hwr]; exact AX.out.trans ⟨rfl, rfl, rfl, Nat.le_refl _, fun _ _ => rfl⟩
              have d0 : wr.cell? ⟨wo.heap.size, 0, none⟩ = some (.int .i64 p) := by rw [hwr]; exact D0.out
              have d1 : wr.cell? ⟨wo.heap.size, 1, none⟩ = some (.int .i64 q) := by rw [hwr]; exact D1.out
              clear hwr
              by_cases htl : t < m
              · obtain ⟨y, hy⟩ : ∃ y, y = (runL xt m).getD t 0 := ⟨_, rfl⟩
                have cy : wr.cell? ⟨gs, os + t, none⟩ = some (.int .i64 y) := by rw [hy]; exact (BWR.out.cell (p := ⟨gs, os + t, none⟩) (by show gs < wo.heap.size; omega)).trans ((HZ.out.cell (p := ⟨gs, os + t, none⟩) ngs).trans (HCS.out t htl))
                have HN := hid (cnt_at (xs := xt) i htl)
                rw [← hy] at HN
                have hle := HLe.out t
                have hci := cntL_in i (runL xt t)
                rw [runL_len] at hci
                obtain ⟨c, hc⟩ : ∃ c, c = cntL i (runL xt t) := ⟨_, rfl⟩
                obtain ⟨c2, hc2⟩ : ∃ c2, c2 = cntL i (runL xt (t + 1)) := ⟨_, rfl⟩
                rw [← hc2] at HN hle
                rw [← hc] at HN hci ⊢
                obtain ⟨tq, htq⟩ : ∃ tq, tq = (t : Int) / q := ⟨_, rfl⟩
                rw [← htq] at hle
                have htq0 : 0 ≤ tq := by rw [htq]; exact Int.ediv_nonneg (by omega) (by omega)
                have htq1 : tq ≤ 200 := by rw [htq]; exact Int.le_trans (Int.ediv_le_self _ (by omega)) (by omega)
                have hdv : (t : Int).tdiv q = tq := by rw [htq]; exact Int.tdiv_eq_ediv_of_nonneg (by omega)
                obtain ⟨pm, hpm⟩ : ∃ pm, pm = p * (tq + 1) := ⟨_, rfl⟩
                rw [← hpm] at hle
                have hpm0 : 0 ≤ pm ∧ pm ≤ 3000 := by
                  rw [hpm]
                  refine ⟨Int.mul_nonneg (by omega) (by omega), ?_⟩
                  have := Int.mul_le_mul (show p ≤ 10 by omega) (show tq + 1 ≤ 201 by omega) (by omega) (by omega)
                  omega
                have hw1 : IntKind.i64.wrap tq = tq := by rw [IntKind.wrap_i64]; omega
                have hw2 : IntKind.i64.wrap (tq + 1) = tq + 1 := by rw [IntKind.wrap_i64]; omega
                have hw3 : IntKind.i64.wrap pm = pm := by rw [IntKind.wrap_i64]; omega
                have hmul : p * (tq + 1) = pm := hpm.symm
                have hw4 : IntKind.i64.wrap (c + 1) = c + 1 := by rw [IntKind.wrap_i64]; omega
                have hq0 : (q == 0) = false := by rw [beq_eq_false_iff_ne]; omega
                have hq1 : q ≠ 0 := by omega
                have dle : decide (pm < c2) = false := by rw [decide_eq_false_iff_not]; omega
                have a0 : (0 : Int) ≤ (t : Int) := by omega
                have a1 : (t : Int) < (m : Int) := by omega
                have HC2 := hid hc2
                clear hy hc hc2 htq hpm
                by_cases hyi : (y == (i : Int)) = true
                · have HE : Hid (c2 = c + 1) := by show _ = _; rw [HN.out, if_pos hyi]
                  have dle' : decide (pm < c + 1) = false := by rw [← HE.out]; exact dle
                  clear dle HN
                  go_wp2_with fail
                  go_big_region
                  go_wp2
                  go_roundw
                  case rel => exact ⟨t + 1, d + 1, by omega, by go_num, by rw [← HC2.out, HE.out], by rw [HWR.out]; rfl⟩
                  case measure => simp [intOf]; omega
                · have hyi' : (y == (i : Int)) = false := by simpa using hyi
                  have HE : Hid (c2 = c) := by show _ = _; rw [HN.out, if_neg hyi, Int.add_zero]
                  have dle' : decide (pm < c) = false := by rw [← HE.out]; exact dle
                  clear dle HN hyi
                  go_wp2_with fail
                  go_big_region
                  go_wp2
                  go_roundw
                  case rel => exact ⟨t + 1, d + 1, by omega, by go_num, by rw [← HC2.out, HE.out], by rw [HWR.out]; rfl⟩
                  case measure => simp [intOf]; omega
              · have BZ2 : Hid (Below w43.heap.size w43 wr) := HZ.out.trans (BWR.out.mono hszz)
                go_wp2
                go_roundw
                case rel => exact ⟨i + 1, by omega, by go_num, BZ2.out⟩
                case measure => simp [intOf]; omega
          · have BF : Hid (Below w.heap.size w wr) := B.out.trans (HZ.out.mono B.out.size)
            go_wp2
            go_ret
            exact ⟨by first | rfl | simp, BF.out⟩
end Go.Proofs.Ytmcmkobdkkibkab
