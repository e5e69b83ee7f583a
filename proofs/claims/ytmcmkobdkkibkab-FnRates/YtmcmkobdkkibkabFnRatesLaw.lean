/-
  The law FnRates answers true at all bytes, where impl's functions tell what they should.
-/
import Derived.Test.YtmcmkobdkkibkabCon6
import Derived.Test.YtmcmkobdkkibkabDrawRate
import Derived.Test.YtmcmkobdkkibkabSameInts
import Derived.Test.YtmcmkobdkkibkabCodeRow
import Derived.Test.YtmcmkobdkkibkabSByRate
import Derived.Test.YtmcmkobdkkibkabSLoad
import Derived.Test.YtmcmkobdkkibkabSAll
namespace Go.Proofs.Ytmcmkobdkkibkab
open Go.RowKit

theorem code_after7 {w w' : World} {v : Value} (h : CodeOk w.heap.size w v) (hb : Below w.heap.size w w') : CodeOk w'.heap.size w' v := by
  obtain ⟨a, len, cap, rfl, hlen, hx⟩ := h
  refine ⟨a, len, cap, rfl, hlen, ?_⟩
  rcases hx with hx | ⟨cb, off, rfl, hlt, hc⟩
  · exact .inl hx
  · exact .inr ⟨cb, off, rfl, Nat.lt_of_lt_of_le hlt hb.size, fun i hi => by
      obtain ⟨x, hx, hc⟩ := hc i hi
      exact ⟨x, hx, (hb.cell (p := ⟨cb, off + i, none⟩) hlt).trans hc⟩⟩
theorem sort_take (xs : List AgEl) {i : Nat} (h : i < xs.length) : (sortA xs).take (i + 1) = (sortA xs).take i ++ [xs.getD ((byRateL xs).getD i 0) (0, 0)] := by
  have hl : i < (sortA xs).length := by rw [sortA_len]; exact h
  rw [List.take_succ_eq_append_getElem hl, ← sortA_get xs h]
  simp [List.getD_eq_getElem?_getD, hl]
theorem byRate_lt (xs : List AgEl) {i : Nat} (h : i < xs.length) : (byRateL xs).getD i 0 < xs.length := by
  have hl : i < (byRateL xs).length := by rw [byRateL, byEnd_len]; exact h
  refine byEnd_lt (everyA xs) xs.length ?_
  rw [List.getD_eq_getElem?_getD, List.getElem?_eq_getElem hl]
  exact List.getElem_mem _
theorem ofN_at6 (a : List Nat) (i : Nat) : (ofN a).getD i 0 = ((a.getD i 0 : Nat) : Int) := by
  by_cases h : i < a.length
  · simp [ofN, List.getD_eq_getElem?_getD, h]
  · simp [ofN, List.getD_eq_getElem?_getD, h]
set_option maxRecDepth 100000 in
set_option maxHeartbeats 40000000 in
theorem FnRates_law (a0 : Option Addr) (len0 cap0 : Nat) (z0 : List Int) (a1 : Option Addr) (len1 cap1 : Nat) (z1 : List Int) (w : World) (h0 : IsRow .u8 w a0 len0 cap0 z0) (h1 : IsRow .u8 w a1 len1 cap1 z1) (b0 : cap0 * 1 ≤ 140737488351232) (b1 : cap1 * 1 ≤ 140737488351232)
    (TA : AllTells 47) (TR : RateTells 49) (TL : LoadTells 51) :
    Calls Try.prog 7 #[.slice a0 len0 cap0, .slice a1 len1 cap1] w fun e w' => e = .returned (.bool true) ∧ Below w.heap.size w w' := by
  have l0 : len0 ≤ cap0 := by rcases h0 with ⟨_, rfl, rfl, _⟩ | ⟨x, _, h, _⟩ <;> omega
  have l1 : len1 ≤ cap1 := by rcases h1 with ⟨_, rfl, rfl, _⟩ | ⟨x, _, h, _⟩ <;> omega
  by_cases hbig : (1048576 : Int) < (len0 : Int) + (len1 : Int)
  · clear h0 h1
    go_enter Try.func7, Try.ntmps7
    go_wp2
    go_ret
    exact ⟨rfl, Below.refl _ _⟩
  have HC0 := hid (code_of_row h0 (by omega))
  have HC1 := hid (code_of_row h1 (by omega))
  have HTA := hid TA
  have HTR := hid TR
  have HTL := hid TL
  obtain ⟨i0, hi, hz0, hz1, hz2⟩ := info_parts info_again
  clear h0 h1 TA TR TL
  go_enter Try.func7, Try.ntmps7
  go_wp2_with fail
  refine (drawAll_any _ _ HC0.out).mono ?_
  rintro e w1 ⟨u0, rfl, xs, hxs, o, b⟩
  have RT := hid o.reads
  have B := hid b
  clear o b
  obtain ⟨al, cal, rfl, _, _⟩ := RT.out
  by_cases hn : goodA xs = false
  · have HN := hid hn
    clear hn
    go_wp2_with fail
    refine (HTA.out.no _ xs _ RT.out HN.out).mono ?_
    rintro e w2 ⟨rfl, b⟩
    replace RT := hid (RT.out.below b)
    replace B : Hid (Below w.heap.size w w2) := B.out.trans (b.mono B.out.size)
    clear b
    go_wp2_with fail
    refine (sallfn_no _ xs _ RT.out HN.out).mono ?_
    rintro e w3 ⟨rfl, b⟩
    replace RT := hid (RT.out.below b)
    replace B : Hid (Below w.heap.size w w3) := B.out.trans (b.mono B.out.size)
    clear b
    go_wp2_with fail
    refine (HTR.out.no _ xs _ RT.out HN.out).mono ?_
    rintro e w4 ⟨uRM, rfl, o, b⟩
    have RM := hid o.reads
    clear o
    replace RT := hid (RT.out.below b)
    replace B : Hid (Below w.heap.size w w4) := B.out.trans (b.mono B.out.size)
    clear b
    go_wp2_with fail
    refine (sbyrate_no _ xs _ RT.out HN.out).mono ?_
    rintro e w5 ⟨uRS, rfl, o, b⟩
    have RS := hid o.reads
    clear o
    replace RT := hid (RT.out.below b)
    replace RM := hid (RM.out.below b)
    replace B : Hid (Below w.heap.size w w5) := B.out.trans (b.mono B.out.size)
    clear b
    go_wp2_with fail
    refine (HTL.out.no _ xs _ RT.out HN.out).mono ?_
    rintro e w6 ⟨rfl, b⟩
    replace RT := hid (RT.out.below b)
    replace RM := hid (RM.out.below b)
    replace RS := hid (RS.out.below b)
    replace B : Hid (Below w.heap.size w w6) := B.out.trans (b.mono B.out.size)
    clear b
    go_wp2_with fail
    refine (sload_no _ xs _ RT.out HN.out).mono ?_
    rintro e w7 ⟨rfl, b⟩
    replace RT := hid (RT.out.below b)
    replace RM := hid (RM.out.below b)
    replace RS := hid (RS.out.below b)
    replace B : Hid (Below w.heap.size w w7) := B.out.trans (b.mono B.out.size)
    clear b
    go_wp2_with fail
    refine (sameInts_same _ _ _ _ RM.out.r RS.out.r).mono ?_
    rintro e w8 ⟨rfl, b⟩
    replace RT := hid (RT.out.below b)
    replace B : Hid (Below w.heap.size w w8) := B.out.trans (b.mono B.out.size)
    clear b
    go_wp2_with fail
    refine (drawRate_any _ _ (code_after7 HC1.out B.out)).mono ?_
    rintro e wA ⟨v8, rfl, xt, hxt, o8, b⟩
    have RT := hid o8.reads
    replace B : Hid (Below w.heap.size w wA) := B.out.trans (b.mono B.out.size)
    clear b o8
    by_cases hn : goodA xt = false
    · have HN := hid hn
      clear hn
      go_wp2_with fail
      refine (HTR.out.no _ xt _ RT.out HN.out).mono ?_
      rintro e w41 ⟨uRM2, rfl, o, b⟩
      have RM2 := hid o.reads
      clear o
      replace RT := hid (RT.out.below b)
      replace B : Hid (Below w.heap.size w w41) := B.out.trans (b.mono B.out.size)
      clear b
      go_wp2_with fail
      refine (sbyrate_no _ xt _ RT.out HN.out).mono ?_
      rintro e w42 ⟨uRS2, rfl, o, b⟩
      have RS2 := hid o.reads
      clear o
      replace RT := hid (RT.out.below b)
      replace RM2 := hid (RM2.out.below b)
      replace B : Hid (Below w.heap.size w w42) := B.out.trans (b.mono B.out.size)
      clear b
      go_wp2_with fail
      refine (sameInts_same _ _ _ _ RM2.out.r RS2.out.r).mono ?_
      rintro e w43 ⟨rfl, b⟩
      replace RT := hid (RT.out.below b)
      replace B : Hid (Below w.heap.size w w43) := B.out.trans (b.mono B.out.size)
      clear b
      go_wp2
      go_ret
      exact ⟨by first | rfl | simp, B.out⟩
    · have HG2 : Hid (goodA xt = true) := by show _ = _; simpa using hn
      clear hn
      go_wp2_with fail
      refine (HTR.out.yes _ xt _ RT.out HG2.out).mono ?_
      rintro e w41 ⟨uRM2, rfl, o, b⟩
      have RM2 := hid o.reads
      clear o
      replace RT := hid (RT.out.below b)
      replace B : Hid (Below w.heap.size w w41) := B.out.trans (b.mono B.out.size)
      clear b
      go_wp2_with fail
      refine (sbyrate_yes _ xt _ RT.out HG2.out).mono ?_
      rintro e w42 ⟨uRS2, rfl, o, b⟩
      have RS2 := hid o.reads
      clear o
      replace RT := hid (RT.out.below b)
      replace RM2 := hid (RM2.out.below b)
      replace B : Hid (Below w.heap.size w w42) := B.out.trans (b.mono B.out.size)
      clear b
      go_wp2_with fail
      refine (sameInts_same _ _ _ _ RM2.out.r RS2.out.r).mono ?_
      rintro e w43 ⟨rfl, b⟩
      replace RT := hid (RT.out.below b)
      replace B : Hid (Below w.heap.size w w43) := B.out.trans (b.mono B.out.size)
      clear b
      go_wp2
      go_ret
      exact ⟨by first | rfl | simp, B.out⟩
  · have HG : Hid (goodA xs = true) := by show _ = _; simpa using hn
    have hlen := goodA_len HG.out
    obtain ⟨ab, hab⟩ : ∃ ab, ab = allA xs := ⟨_, rfl⟩
    obtain ⟨U, hU⟩ : ∃ U, U = (loadF (pairsA xs)).1 := ⟨_, rfl⟩
    obtain ⟨L, hL⟩ : ∃ L, L = (loadF (pairsA xs)).2 := ⟨_, rfl⟩
    have K1 : Hid (∀ v w, AgReads w v xs → Calls Try.prog 47 #[v] w fun e w' => e = .returned (.tuple #[.bool ab, .bool true]) ∧ Below w.heap.size w w') := fun v w hr => by rw [hab]; exact HTA.out.yes v xs w hr HG.out
    have K2 : Hid (∀ v w, AgReads w v xs → Calls Try.prog 48 #[v] w fun e w' => e = .returned (.tuple #[.bool ab, .bool true]) ∧ Below w.heap.size w w') := fun v w hr => by rw [hab]; exact sallfn_yes v xs w hr HG.out
    have K3 : Hid (∀ v w, AgReads w v xs → Calls Try.prog 51 #[v] w fun e w' => e = .returned (.tuple #[.int .i64 (U : Nat), .int .i64 (L : Nat), .bool true]) ∧ Below w.heap.size w w') := fun v w hr => by rw [hU, hL]; exact HTL.out.yes v xs w hr HG.out
    have K4 : Hid (∀ v w, AgReads w v xs → Calls Try.prog 52 #[v] w fun e w' => e = .returned (.tuple #[.int .i64 (U : Nat), .int .i64 (L : Nat), .bool true]) ∧ Below w.heap.size w w') := fun v w hr => by rw [hU, hL]; exact sload_yes v xs w hr HG.out
    have K5 : Hid (∀ v w, AgReads w v (sortA xs) → Calls Try.prog 51 #[v] w fun e w' => e = .returned (.tuple #[.int .i64 (U : Nat), .int .i64 (L : Nat), .bool true]) ∧ Below w.heap.size w w') := fun v w hr => by rw [hU, hL, ← load_same HG.out]; exact HTL.out.yes v (sortA xs) w hr (sortA_good HG.out)
    have K6 : Hid (∀ v w, AgReads w v (sortA xs) → Calls Try.prog 47 #[v] w fun e w' => e = .returned (.tuple #[.bool (allA (sortA xs)), .bool true]) ∧ Below w.heap.size w w') := fun v w hr => HTA.out.yes v (sortA xs) w hr (sortA_good HG.out)
    have HUL : Hid (ab = true → U ≤ L) := fun h => by rw [hU, hL]; exact load_one HG.out (by rw [← hab]; exact h)
    have HSB : Hid (ab = true → allA (sortA xs) = true) := fun h => rate_best HG.out (by rw [← hab]; exact h)
    have hn1 : (U != U) = false := by simp
    have hn2 : (L != L) = false := by simp
    have hn3 : (ab != ab) = false := by simp
    have HBL : Hid ((ofN (byRateL xs)).length = xs.length) := by show _ = _; rw [ofN, List.length_map, byRateL, byEnd_len]
    clear hn hab hU hL
    go_wp2_with fail
    refine (K1.out _ _ RT.out).mono ?_
    rintro e w2 ⟨rfl, b⟩
    replace RT := hid (RT.out.below b)
    replace B : Hid (Below w.heap.size w w2) := B.out.trans (b.mono B.out.size)
    clear b
    go_wp2_with fail
    refine (K2.out _ _ RT.out).mono ?_
    rintro e w3 ⟨rfl, b⟩
    replace RT := hid (RT.out.below b)
    replace B : Hid (Below w.heap.size w w3) := B.out.trans (b.mono B.out.size)
    clear b
    go_wp2_with fail
    refine (HTR.out.yes _ xs _ RT.out HG.out).mono ?_
    rintro e w4 ⟨uRM, rfl, o, b⟩
    have RM := hid o.reads
    clear o
    replace RT := hid (RT.out.below b)
    replace B : Hid (Below w.heap.size w w4) := B.out.trans (b.mono B.out.size)
    clear b
    go_wp2_with fail
    refine (sbyrate_yes _ xs _ RT.out HG.out).mono ?_
    rintro e w5 ⟨uRS, rfl, o, b⟩
    have RS := hid o.reads
    clear o
    replace RT := hid (RT.out.below b)
    replace RM := hid (RM.out.below b)
    replace B : Hid (Below w.heap.size w w5) := B.out.trans (b.mono B.out.size)
    clear b
    go_wp2_with fail
    refine (K3.out _ _ RT.out).mono ?_
    rintro e w6 ⟨rfl, b⟩
    replace RT := hid (RT.out.below b)
    replace RM := hid (RM.out.below b)
    replace RS := hid (RS.out.below b)
    replace B : Hid (Below w.heap.size w w6) := B.out.trans (b.mono B.out.size)
    clear b
    go_wp2_with fail
    refine (K4.out _ _ RT.out).mono ?_
    rintro e w7 ⟨rfl, b⟩
    replace RT := hid (RT.out.below b)
    replace RM := hid (RM.out.below b)
    replace RS := hid (RS.out.below b)
    replace B : Hid (Below w.heap.size w w7) := B.out.trans (b.mono B.out.size)
    clear b
    go_wp2_with fail
    refine (sameInts_same _ _ _ _ RM.out.r RS.out.r).mono ?_
    rintro e w8 ⟨rfl, b⟩
    replace RT := hid (RT.out.below b)
    replace RM := hid (RM.out.below b)
    replace B : Hid (Below w.heap.size w w8) := B.out.trans (b.mono B.out.size)
    clear b
    obtain ⟨ar, cr, er, _, hrc⟩ := RM.out
    rw [HBL.out] at er
    subst er
    have HCR : Hid (∀ i, i < xs.length → ∃ g o, ar = some ⟨g, o, none⟩ ∧ w8.cell? ⟨g, o + i, none⟩ = some (.int .i64 ((byRateL xs).getD i 0 : Nat))) := fun i hi => by
      rcases hrc with h | ⟨g, o, h1, h2⟩
      · have := HBL.out; rw [h] at this; simp at this; omega
      · have := h2 i (by rw [HBL.out]; exact hi)
        rw [ofN_at6] at this
        exact ⟨g, o, h1, this⟩
    clear hrc
    go_wp2
    go_loopw [20, 113] (fun sv iv wr => ∃ i : Nat, i ≤ xs.length ∧ iv = .int .i64 i ∧ wr.ownsRow w8.heap.size 64 2 sv i (agflat ((sortA xs).take i)) ∧ Below w8.heap.size w8 wr) (fun _ iv _ => xs.length - (intOf iv).toNat)
    case atStart => exact ⟨0, Nat.zero_le _, rfl, World.ownsRow_nil _ _ _ _, Below.refl _ _⟩
    case round =>
      obtain ⟨i, hi', rfl, hown, hbz⟩ := hrel
      have HO := hid hown
      have HZ := hid hbz
      have hszz := hbz.size
      clear hown hbz
      by_cases hil : i < xs.length
      · obtain ⟨gr, og, rfl, hcr⟩ := HCR.out i hil
        obtain ⟨y, hy⟩ : ∃ y, y = (byRateL xs).getD i 0 := ⟨_, rfl⟩
        have hyl : y < xs.length := by rw [hy]; exact byRate_lt xs hil
        have cy : wr.cell? ⟨gr, og + i, none⟩ = some (.int .i64 (y : Nat)) := by rw [hy]; exact (HZ.out.cell (p := ⟨gr, og + i, none⟩) (lt_of_cell hcr)).trans hcr
        obtain ⟨gl, ol, cl', el, hc⟩ := (RT.out.below HZ.out).cells y hyl
        cases el
        obtain ⟨x, hx⟩ : ∃ x, x = xs.getD y (0, 0) := ⟨_, rfl⟩
        have hck := hc y hyl
        rw [← hx] at hck
        obtain ⟨c0, c1⟩ := hck
        have HTk := hid (sort_take xs hil)
        rw [← hy, ← hx] at HTk
        obtain ⟨p, q⟩ := x
        have n0 : (0 : Int) ≤ (y : Int) := by omega
        have n1 : (y : Int) < (xs.length : Int) := by omega
        have n2 : (0 : Int) ≤ (i : Int) := by omega
        have n3 : (i : Int) < (xs.length : Int) := by omega
        clear hc hy hx hcr
        go_wp2_with (at_builtin; refine wpList_append_own _ rfl _ _ 56 rfl w8.heap.size 64 i0 (.agg #[.int .i64 0, .int .i64 0]) 2 16 Try.underlying56 hi hz0 hz1 hz2 rfl (by decide) _ i (agflat ((sortA xs).take i)) rfl (HO.out.alloc _) ⟨wr.heap.size, 0, none⟩ 1 1 (agflat [(p, q)]) rfl rfl (agone_at ⟨by simp, by simp⟩) (agflat_one _) (by unfold maxLen; omega) (by omega) (by simp; omega) ?_)
        intro v6 w6 hown6 hgr6 _
        have B6 : Hid (Below w8.heap.size w8 w6) := (HZ.out.alloc hszz _).grown hgr6 (by simp; omega) (agowns_block HO.out)
        rw [← agflat_append, ← HTk.out] at hown6
        have O6 := hid hown6
        clear hown6 hgr6
        go_wp2
        go_roundw
        case rel => exact ⟨i + 1, by omega, by go_num, O6.out, B6.out⟩
        case measure => simp [intOf]; omega
      · obtain rfl : i = xs.length := by omega
        have RS3 : Hid (AgReads wr u20 (sortA xs)) := by
          have := HO.out
          rw [List.take_of_length_le (by rw [sortA_len]; exact Nat.le_refl _)] at this
          exact (AgOwn.of_owns this (by rw [sortA_len]; omega)).reads
        replace B : Hid (Below w.heap.size w wr) := B.out.trans (HZ.out.mono B.out.size)
        clear HO HZ HCR hszz
        cases ab
        · generalize allA (sortA xs) = bb at K6
          go_wp2_with fail
          refine (K6.out _ _ RS3.out).mono ?_
          rintro e w61 ⟨rfl, b⟩
          replace RS3 := hid (RS3.out.below b)
          replace B : Hid (Below w.heap.size w w61) := B.out.trans (b.mono B.out.size)
          clear b
          go_wp2_with fail
          refine (K5.out _ _ RS3.out).mono ?_
          rintro e w62 ⟨rfl, b⟩
          replace RS3 := hid (RS3.out.below b)
          replace B : Hid (Below w.heap.size w w62) := B.out.trans (b.mono B.out.size)
          clear b
          go_wp2_with fail
          refine (drawRate_any _ _ (code_after7 HC1.out B.out)).mono ?_
          rintro e wA ⟨v8, rfl, xt, hxt, o8, b⟩
          have RT := hid o8.reads
          replace B : Hid (Below w.heap.size w wA) := B.out.trans (b.mono B.out.size)
          clear b o8
          by_cases hn : goodA xt = false
          · have HN := hid hn
            clear hn
            go_wp2_with fail
            refine (HTR.out.no _ xt _ RT.out HN.out).mono ?_
            rintro e w81 ⟨uRM2, rfl, o, b⟩
            have RM2 := hid o.reads
            clear o
            replace RT := hid (RT.out.below b)
            replace B : Hid (Below w.heap.size w w81) := B.out.trans (b.mono B.out.size)
            clear b
            go_wp2_with fail
            refine (sbyrate_no _ xt _ RT.out HN.out).mono ?_
            rintro e w82 ⟨uRS2, rfl, o, b⟩
            have RS2 := hid o.reads
            clear o
            replace RT := hid (RT.out.below b)
            replace RM2 := hid (RM2.out.below b)
            replace B : Hid (Below w.heap.size w w82) := B.out.trans (b.mono B.out.size)
            clear b
            go_wp2_with fail
            refine (sameInts_same _ _ _ _ RM2.out.r RS2.out.r).mono ?_
            rintro e w83 ⟨rfl, b⟩
            replace RT := hid (RT.out.below b)
            replace B : Hid (Below w.heap.size w w83) := B.out.trans (b.mono B.out.size)
            clear b
            go_wp2
            go_ret
            exact ⟨by first | rfl | simp, B.out⟩
          · have HG2 : Hid (goodA xt = true) := by show _ = _; simpa using hn
            clear hn
            go_wp2_with fail
            refine (HTR.out.yes _ xt _ RT.out HG2.out).mono ?_
            rintro e w81 ⟨uRM2, rfl, o, b⟩
            have RM2 := hid o.reads
            clear o
            replace RT := hid (RT.out.below b)
            replace B : Hid (Below w.heap.size w w81) := B.out.trans (b.mono B.out.size)
            clear b
            go_wp2_with fail
            refine (sbyrate_yes _ xt _ RT.out HG2.out).mono ?_
            rintro e w82 ⟨uRS2, rfl, o, b⟩
            have RS2 := hid o.reads
            clear o
            replace RT := hid (RT.out.below b)
            replace RM2 := hid (RM2.out.below b)
            replace B : Hid (Below w.heap.size w w82) := B.out.trans (b.mono B.out.size)
            clear b
            go_wp2_with fail
            refine (sameInts_same _ _ _ _ RM2.out.r RS2.out.r).mono ?_
            rintro e w83 ⟨rfl, b⟩
            replace RT := hid (RT.out.below b)
            replace B : Hid (Below w.heap.size w w83) := B.out.trans (b.mono B.out.size)
            clear b
            go_wp2
            go_ret
            exact ⟨by first | rfl | simp, B.out⟩
        · have HB1 := hid (HSB.out rfl)
          rw [HB1.out] at K6
          have hul := HUL.out rfl
          have dul : decide ((L : Int) < (U : Int)) = false := by rw [decide_eq_false_iff_not]; omega
          go_wp2_with fail
          refine (K6.out _ _ RS3.out).mono ?_
          rintro e w61 ⟨rfl, b⟩
          replace RS3 := hid (RS3.out.below b)
          replace B : Hid (Below w.heap.size w w61) := B.out.trans (b.mono B.out.size)
          clear b
          go_wp2_with fail
          refine (K5.out _ _ RS3.out).mono ?_
          rintro e w62 ⟨rfl, b⟩
          replace RS3 := hid (RS3.out.below b)
          replace B : Hid (Below w.heap.size w w62) := B.out.trans (b.mono B.out.size)
          clear b
          go_wp2_with fail
          refine (drawRate_any _ _ (code_after7 HC1.out B.out)).mono ?_
          rintro e wA ⟨v8, rfl, xt, hxt, o8, b⟩
          have RT := hid o8.reads
          replace B : Hid (Below w.heap.size w wA) := B.out.trans (b.mono B.out.size)
          clear b o8
          by_cases hn : goodA xt = false
          · have HN := hid hn
            clear hn
            go_wp2_with fail
            refine (HTR.out.no _ xt _ RT.out HN.out).mono ?_
            rintro e w81 ⟨uRM2, rfl, o, b⟩
            have RM2 := hid o.reads
            clear o
            replace RT := hid (RT.out.below b)
            replace B : Hid (Below w.heap.size w w81) := B.out.trans (b.mono B.out.size)
            clear b
            go_wp2_with fail
            refine (sbyrate_no _ xt _ RT.out HN.out).mono ?_
            rintro e w82 ⟨uRS2, rfl, o, b⟩
            have RS2 := hid o.reads
            clear o
            replace RT := hid (RT.out.below b)
            replace RM2 := hid (RM2.out.below b)
            replace B : Hid (Below w.heap.size w w82) := B.out.trans (b.mono B.out.size)
            clear b
            go_wp2_with fail
            refine (sameInts_same _ _ _ _ RM2.out.r RS2.out.r).mono ?_
            rintro e w83 ⟨rfl, b⟩
            replace RT := hid (RT.out.below b)
            replace B : Hid (Below w.heap.size w w83) := B.out.trans (b.mono B.out.size)
            clear b
            go_wp2
            go_ret
            exact ⟨by first | rfl | simp, B.out⟩
          · have HG2 : Hid (goodA xt = true) := by show _ = _; simpa using hn
            clear hn
            go_wp2_with fail
            refine (HTR.out.yes _ xt _ RT.out HG2.out).mono ?_
            rintro e w81 ⟨uRM2, rfl, o, b⟩
            have RM2 := hid o.reads
            clear o
            replace RT := hid (RT.out.below b)
            replace B : Hid (Below w.heap.size w w81) := B.out.trans (b.mono B.out.size)
            clear b
            go_wp2_with fail
            refine (sbyrate_yes _ xt _ RT.out HG2.out).mono ?_
            rintro e w82 ⟨uRS2, rfl, o, b⟩
            have RS2 := hid o.reads
            clear o
            replace RT := hid (RT.out.below b)
            replace RM2 := hid (RM2.out.below b)
            replace B : Hid (Below w.heap.size w w82) := B.out.trans (b.mono B.out.size)
            clear b
            go_wp2_with fail
            refine (sameInts_same _ _ _ _ RM2.out.r RS2.out.r).mono ?_
            rintro e w83 ⟨rfl, b⟩
            replace RT := hid (RT.out.below b)
            replace B : Hid (Below w.heap.size w w83) := B.out.trans (b.mono B.out.size)
            clear b
            go_wp2
            go_ret
            exact ⟨by first | rfl | simp, B.out⟩
end Go.Proofs.Ytmcmkobdkkibkab
