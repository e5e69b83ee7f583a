/-
  The law FnDemand answers true at all bytes: all can be in time just if in no while there is more to be done than it is long.
-/
import Derived.Test.YtobkockikpgcoabDrawDem
import Derived.Test.YtobkockikpgcoabSameJobs
import Derived.Test.YtobkockikpgcoabCodeRow
import Derived.Test.YtobkockikpgcoabIOver
import Derived.Test.YtobkockikpgcoabSOver
import Derived.Test.YtobkockikpgcoabDemFns
import Derived.Test.YtobkockikpgcoabIMeetJ
import Derived.Test.YtobkockikpgcoabIAdm
import Derived.Test.YtobkockikpgcoabSAdm
namespace Go.Proofs.Ytobkockikpgcoab
open Go.RowKit

theorem CodeOk.after {w w' : World} {v : Value} (h : CodeOk w.heap.size w v) (hb : Below w.heap.size w w') : CodeOk w'.heap.size w' v := by
  obtain ⟨a, len, cap, rfl, hlen, hx⟩ := h
  refine ⟨a, len, cap, rfl, hlen, ?_⟩
  rcases hx with hx | ⟨cb, off, rfl, hlt, hc⟩
  · exact .inl hx
  · exact .inr ⟨cb, off, rfl, Nat.lt_of_lt_of_le hlt hb.size, fun i hi => by
      obtain ⟨x, hx, hc⟩ := hc i hi
      exact ⟨x, hx, (hb.cell (p := ⟨cb, off + i, none⟩) hlt).trans hc⟩⟩

set_option maxRecDepth 100000 in
set_option maxHeartbeats 40000000 in
theorem FnDemand_walk (a0 : Option Addr) (len0 cap0 : Nat) (z0 : List Int) (a1 : Option Addr) (len1 cap1 : Nat) (z1 : List Int) (w : World) (h0 : IsRow .u8 w a0 len0 cap0 z0) (h1 : IsRow .u8 w a1 len1 cap1 z1) (b0 : cap0 * 1 ≤ 140737488351232) (b1 : cap1 * 1 ≤ 140737488351232) :
    Calls Try.prog 3 #[.slice a0 len0 cap0, .slice a1 len1 cap1] w fun e w' => e = .returned (.bool true) ∧ Below w.heap.size w w' := by
  have l0 : len0 ≤ cap0 := by rcases h0 with ⟨_, rfl, rfl, _⟩ | ⟨x, _, h, _⟩ <;> omega
  have l1 : len1 ≤ cap1 := by rcases h1 with ⟨_, rfl, rfl, _⟩ | ⟨x, _, h, _⟩ <;> omega
  by_cases hbig : (1048576 : Int) < (len0 : Int) + (len1 : Int)
  · clear h0 h1
    go_enter Try.func3, Try.ntmps3
    go_wp2
    go_ret
    exact ⟨rfl, Below.refl _ _⟩
  have HC0 := hid (code_of_row h0 (by omega))
  have HC1 := hid (code_of_row h1 (by omega))
  clear h0 h1
  go_enter Try.func3, Try.ntmps3
  go_wp2_with fail
  refine (drawOver_any _ _ HC0.out).mono ?_
  rintro e w1 ⟨v5, rfl, xs, hx, o5, b⟩
  have B := hid b
  have R5 := hid o5.reads
  clear b o5 HC0
  obtain ⟨a5, c5, rfl, _, _⟩ := R5.out
  obtain ⟨t, ht⟩ : ∃ t, goodJ xs = t := ⟨_, rfl⟩
  have HT := hid ht
  clear ht
  cases t
  · go_wp2_with fail
    refine (iover_no _ xs _ R5.out HT.out).mono ?_
    rintro e w2 ⟨rfl, b⟩
    replace R5 := hid (R5.out.below b)
    have B : Hid (Below w.heap.size w w2) := B.out.trans (b.mono B.out.size)
    clear b
    go_wp2_with fail
    refine (sover_no _ xs _ R5.out HT.out).mono ?_
    rintro e w3 ⟨rfl, b⟩
    have B : Hid (Below w.heap.size w w3) := B.out.trans (b.mono B.out.size)
    clear b R5
    as_aux_lemma =>
      have CM := hid (HC1.out.after B.out)
      go_wp2_with fail
      refine (drawDem_any _ _ CM.out).mono ?_
      rintro e y1 ⟨v18, p, q, rfl, xs2, hx2, o, b⟩
      have B : Hid (Below w.heap.size w y1) := B.out.trans (b.mono B.out.size)
      have R18 := hid o.reads
      clear b o CM
      obtain ⟨n2, hn2⟩ : ∃ n, demN xs2 p q = n := ⟨_, rfl⟩
      obtain ⟨k2, hk2⟩ : ∃ k, demOk xs2 p q = k := ⟨_, rfl⟩
      have DI : Hid (∀ v w, JbReads w v xs2 → Calls Try.prog 8 #[v, .int .i64 p, .int .i64 q] w fun e w' => e = .returned (.tuple #[.int .i64 n2, .bool k2]) ∧ Below w.heap.size w w') := by rw [← hn2, ← hk2]; exact fun v w => idemandIn_any v xs2 p q w
      have DS : Hid (∀ v w, JbReads w v xs2 → Calls Try.prog 10 #[v, .int .i64 p, .int .i64 q] w fun e w' => e = .returned (.tuple #[.int .i64 n2, .bool k2]) ∧ Below w.heap.size w w') := by rw [← hn2, ← hk2]; exact fun v w => sdemandIn_any v xs2 p q w
      clear hn2 hk2
      go_wp2_with fail
      refine (DI.out _ _ R18.out).mono ?_
      rintro e y2 ⟨rfl, b⟩
      replace R18 := hid (R18.out.below b)
      have B : Hid (Below w.heap.size w y2) := B.out.trans (b.mono B.out.size)
      clear b
      go_wp2_with fail
      refine (DS.out _ _ R18.out).mono ?_
      rintro e y3 ⟨rfl, b⟩
      have B : Hid (Below w.heap.size w y3) := B.out.trans (b.mono B.out.size)
      clear b R18 DI DS
      have CM := hid (HC1.out.after B.out)
      go_wp2_with fail
      refine (drawAdm_any _ _ CM.out).mono ?_
      rintro e y4 ⟨v25, x, rfl, ys, hys, o, b⟩
      have B : Hid (Below w.heap.size w y4) := B.out.trans (b.mono B.out.size)
      have R25 := hid o.reads
      clear b o CM
      obtain ⟨a25, c25, rfl, _, _⟩ := R25.out
      obtain ⟨Y, hY⟩ : ∃ Y, Y = y4.alloc (.cells #[.int .i64 x.1, .int .i64 x.2.1, .int .i64 x.2.2] 34) := ⟨_, rfl⟩
      have bY : Below y4.heap.size y4 Y := by rw [hY]; exact (Below.refl _ _).alloc (Nat.le_refl _) _
      have PX : Hid (JbCells Y y4.heap.size 0 x) := by rw [hY]; exact (jalloc3 y4 x).1
      replace R25 := hid (R25.out.below bY)
      have B : Hid (Below w.heap.size w Y) := B.out.trans (bY.mono B.out.size)
      have HYY := hid hY
      obtain ⟨ad, had⟩ : ∃ ad, admB ys x = ad := ⟨_, rfl⟩
      obtain ⟨zs, hzs⟩ : ∃ zs, admL ys x = zs := ⟨_, rfl⟩
      have HAD := hid had
      have HZS := hid hzs
      have AI : Hid (∀ v w, JbReads w v ys → Calls Try.prog 12 #[v, .agg #[.int .i64 x.1, .int .i64 x.2.1, .int .i64 x.2.2]] w fun e w' => ∃ v', e = .returned (.tuple #[v', .bool ad]) ∧ JbOwn w.heap.size w'.heap.size w' v' zs ∧ Below w.heap.size w w') := by rw [← had, ← hzs]; exact fun v w => iadm_any v ys x w
      have AS : Hid (∀ v w, JbReads w v ys → Calls Try.prog 13 #[v, .agg #[.int .i64 x.1, .int .i64 x.2.1, .int .i64 x.2.2]] w fun e w' => ∃ v', e = .returned (.tuple #[v', .bool ad]) ∧ JbOwn w.heap.size w'.heap.size w' v' zs ∧ Below w.heap.size w w') := by rw [← had, ← hzs]; exact fun v w => sadm_any v ys x w
      clear bY hY had hzs
      obtain ⟨p0, p1, p2⟩ := PX.out
      go_wp2_with fail
      rw [← HYY.out]
      refine (AI.out _ _ R25.out).mono ?_
      rintro e y5 ⟨v27, rfl, o, b⟩
      have R27 := hid o.reads
      replace R25 := hid (R25.out.below b)
      replace PX := hid (PX.out.below b PX.out.lt)
      have B : Hid (Below w.heap.size w y5) := B.out.trans (b.mono B.out.size)
      clear b o p0 p1 p2
      obtain ⟨p0, p1, p2⟩ := PX.out
      obtain ⟨a27, c27, rfl, _, _⟩ := R27.out
      go_wp2_with fail
      refine (AS.out _ _ R25.out).mono ?_
      rintro e y6 ⟨v29, rfl, o, b⟩
      have R29 := hid o.reads
      replace R25 := hid (R25.out.below b)
      replace R27 := hid (R27.out.below b)
      have B : Hid (Below w.heap.size w y6) := B.out.trans (b.mono B.out.size)
      clear b o p0 p1 p2 PX AI AS
      have dk : (k2 != k2) = false := by simp
      have dn : (n2 != n2) = false := by simp
      have da : (ad != ad) = false := by simp
      go_wp2_with fail
      refine (sameJobs_same _ _ zs _ R27.out R29.out).mono ?_
      rintro e y7 ⟨rfl, b⟩
      replace R25 := hid (R25.out.below b)
      replace R27 := hid (R27.out.below b)
      have B : Hid (Below w.heap.size w y7) := B.out.trans (b.mono B.out.size)
      clear b R29
      cases ad
      · go_wp2
        go_ret
        exact ⟨rfl, B.out⟩
      · obtain ⟨hg1, hm1, hm2⟩ := meet_less HAD.out
        have HG1 := hid hg1
        have HM1 := hid hm1
        have hz : zs = ys ++ [x] := by rw [← HZS.out]; unfold admL; rw [if_pos HAD.out]
        have HG2 : Hid (goodJ zs = true) := by
          show _ = _
          rw [hz]
          have := HAD.out
          unfold admB at this
          rw [Bool.and_eq_true] at this
          exact this.1
        have HM2 : Hid (meetB zs = true) := by show _ = _; rw [hz]; exact hm2
        have hzl : (zs.length : Int) = (ys.length : Int) + 1 := by rw [hz]; simp
        have hyl : ys.length ≤ 8 := goodJ_len hg1
        obtain ⟨zn, hzn⟩ : ∃ zn, zn = zs.length := ⟨_, rfl⟩
        rw [← hzn] at hzl ⊢
        have HZN := hid hzn
        have heq : ((zn : Int) == (ys.length : Int) + 1) = true := by rw [hzl]; simp
        have hwy : IntKind.i64.wrap ((ys.length : Int) + 1) = (ys.length : Int) + 1 := by rw [IntKind.wrap_i64]; omega
        rw [← hzn] at R27
        clear hg1 hm1 hm2 hz hzn hzl
        go_wp2_with fail
        refine (icanMeet_yes _ zs true HM2.out _ R27.out HG2.out).mono ?_
        rintro e y8 ⟨rfl, b⟩
        replace R25 := hid (R25.out.below b)
        have B : Hid (Below w.heap.size w y8) := B.out.trans (b.mono B.out.size)
        clear b
        go_wp2_with fail
        refine (icanMeet_yes _ ys true HM1.out _ R25.out HG1.out).mono ?_
        rintro e y9 ⟨rfl, b⟩
        have B : Hid (Below w.heap.size w y9) := B.out.trans (b.mono B.out.size)
        clear b
        go_wp2
        go_ret
        exact ⟨by first | rfl | (rw [heq]; rfl) | simp, B.out⟩
  · obtain ⟨F, hF⟩ : ∃ F, ovFrom xs = F := ⟨_, rfl⟩
    obtain ⟨T, hT⟩ : ∃ T, ovTo xs = T := ⟨_, rfl⟩
    obtain ⟨I, hI⟩ : ∃ I, ovIs xs = I := ⟨_, rfl⟩
    have HTold : Hid (Told xs F T I) := by rw [← hF, ← hT, ← hI]; exact told xs
    have HM : Hid (meetB xs = !I) := by show _ = _; rw [← hI]; exact meet_over HT.out
    have HOV : Hid (I = true → ∃ f t : Nat, f < t ∧ t ≤ 24 ∧ F = f ∧ T = t ∧ overB xs f t = true) := fun e => by
      rw [← hF, ← hT]
      exact over_told (hI.trans e)
    clear hF hT hI
    have dF : (F != F) = false := by simp
    have dT : (T != T) = false := by simp
    have dI : (I != I) = false := by simp
    go_wp2_with fail
    refine (iover_yes _ xs F T I HTold.out _ R5.out HT.out).mono ?_
    rintro e w2 ⟨rfl, b⟩
    replace R5 := hid (R5.out.below b)
    have B : Hid (Below w.heap.size w w2) := B.out.trans (b.mono B.out.size)
    clear b
    go_wp2_with fail
    refine (sover_yes _ xs F T I HTold.out _ R5.out HT.out).mono ?_
    rintro e w3 ⟨rfl, b⟩
    replace R5 := hid (R5.out.below b)
    have B : Hid (Below w.heap.size w w3) := B.out.trans (b.mono B.out.size)
    clear b HTold
    go_wp2_with fail
    refine (icanMeet_yes _ xs (!I) HM.out _ R5.out HT.out).mono ?_
    rintro e w4 ⟨rfl, b⟩
    replace R5 := hid (R5.out.below b)
    have B : Hid (Below w.heap.size w w4) := B.out.trans (b.mono B.out.size)
    clear b HM
    cases I
    · clear R5
      as_aux_lemma =>
        have CM := hid (HC1.out.after B.out)
        go_wp2_with fail
        refine (drawDem_any _ _ CM.out).mono ?_
        rintro e y1 ⟨v18, p, q, rfl, xs2, hx2, o, b⟩
        have B : Hid (Below w.heap.size w y1) := B.out.trans (b.mono B.out.size)
        have R18 := hid o.reads
        clear b o CM
        obtain ⟨n2, hn2⟩ : ∃ n, demN xs2 p q = n := ⟨_, rfl⟩
        obtain ⟨k2, hk2⟩ : ∃ k, demOk xs2 p q = k := ⟨_, rfl⟩
        have DI : Hid (∀ v w, JbReads w v xs2 → Calls Try.prog 8 #[v, .int .i64 p, .int .i64 q] w fun e w' => e = .returned (.tuple #[.int .i64 n2, .bool k2]) ∧ Below w.heap.size w w') := by rw [← hn2, ← hk2]; exact fun v w => idemandIn_any v xs2 p q w
        have DS : Hid (∀ v w, JbReads w v xs2 → Calls Try.prog 10 #[v, .int .i64 p, .int .i64 q] w fun e w' => e = .returned (.tuple #[.int .i64 n2, .bool k2]) ∧ Below w.heap.size w w') := by rw [← hn2, ← hk2]; exact fun v w => sdemandIn_any v xs2 p q w
        clear hn2 hk2
        go_wp2_with fail
        refine (DI.out _ _ R18.out).mono ?_
        rintro e y2 ⟨rfl, b⟩
        replace R18 := hid (R18.out.below b)
        have B : Hid (Below w.heap.size w y2) := B.out.trans (b.mono B.out.size)
        clear b
        go_wp2_with fail
        refine (DS.out _ _ R18.out).mono ?_
        rintro e y3 ⟨rfl, b⟩
        have B : Hid (Below w.heap.size w y3) := B.out.trans (b.mono B.out.size)
        clear b R18 DI DS
        have CM := hid (HC1.out.after B.out)
        go_wp2_with fail
        refine (drawAdm_any _ _ CM.out).mono ?_
        rintro e y4 ⟨v25, x, rfl, ys, hys, o, b⟩
        have B : Hid (Below w.heap.size w y4) := B.out.trans (b.mono B.out.size)
        have R25 := hid o.reads
        clear b o CM
        obtain ⟨a25, c25, rfl, _, _⟩ := R25.out
        obtain ⟨Y, hY⟩ : ∃ Y, Y = y4.alloc (.cells #[.int .i64 x.1, .int .i64 x.2.1, .int .i64 x.2.2] 34) := ⟨_, rfl⟩
        have bY : Below y4.heap.size y4 Y := by rw [hY]; exact (Below.refl _ _).alloc (Nat.le_refl _) _
        have PX : Hid (JbCells Y y4.heap.size 0 x) := by rw [hY]; exact (jalloc3 y4 x).1
        replace R25 := hid (R25.out.below bY)
        have B : Hid (Below w.heap.size w Y) := B.out.trans (bY.mono B.out.size)
        have HYY := hid hY
        obtain ⟨ad, had⟩ : ∃ ad, admB ys x = ad := ⟨_, rfl⟩
        obtain ⟨zs, hzs⟩ : ∃ zs, admL ys x = zs := ⟨_, rfl⟩
        have HAD := hid had
        have HZS := hid hzs
        have AI : Hid (∀ v w, JbReads w v ys → Calls Try.prog 12 #[v, .agg #[.int .i64 x.1, .int .i64 x.2.1, .int .i64 x.2.2]] w fun e w' => ∃ v', e = .returned (.tuple #[v', .bool ad]) ∧ JbOwn w.heap.size w'.heap.size w' v' zs ∧ Below w.heap.size w w') := by rw [← had, ← hzs]; exact fun v w => iadm_any v ys x w
        have AS : Hid (∀ v w, JbReads w v ys → Calls Try.prog 13 #[v, .agg #[.int .i64 x.1, .int .i64 x.2.1, .int .i64 x.2.2]] w fun e w' => ∃ v', e = .returned (.tuple #[v', .bool ad]) ∧ JbOwn w.heap.size w'.heap.size w' v' zs ∧ Below w.heap.size w w') := by rw [← had, ← hzs]; exact fun v w => sadm_any v ys x w
        clear bY hY had hzs
        obtain ⟨p0, p1, p2⟩ := PX.out
        go_wp2_with fail
        rw [← HYY.out]
        refine (AI.out _ _ R25.out).mono ?_
        rintro e y5 ⟨v27, rfl, o, b⟩
        have R27 := hid o.reads
        replace R25 := hid (R25.out.below b)
        replace PX := hid (PX.out.below b PX.out.lt)
        have B : Hid (Below w.heap.size w y5) := B.out.trans (b.mono B.out.size)
        clear b o p0 p1 p2
        obtain ⟨p0, p1, p2⟩ := PX.out
        obtain ⟨a27, c27, rfl, _, _⟩ := R27.out
        go_wp2_with fail
        refine (AS.out _ _ R25.out).mono ?_
        rintro e y6 ⟨v29, rfl, o, b⟩
        have R29 := hid o.reads
        replace R25 := hid (R25.out.below b)
        replace R27 := hid (R27.out.below b)
        have B : Hid (Below w.heap.size w y6) := B.out.trans (b.mono B.out.size)
        clear b o p0 p1 p2 PX AI AS
        have dk : (k2 != k2) = false := by simp
        have dn : (n2 != n2) = false := by simp
        have da : (ad != ad) = false := by simp
        go_wp2_with fail
        refine (sameJobs_same _ _ zs _ R27.out R29.out).mono ?_
        rintro e y7 ⟨rfl, b⟩
        replace R25 := hid (R25.out.below b)
        replace R27 := hid (R27.out.below b)
        have B : Hid (Below w.heap.size w y7) := B.out.trans (b.mono B.out.size)
        clear b R29
        cases ad
        · go_wp2
          go_ret
          exact ⟨rfl, B.out⟩
        · obtain ⟨hg1, hm1, hm2⟩ := meet_less HAD.out
          have HG1 := hid hg1
          have HM1 := hid hm1
          have hz : zs = ys ++ [x] := by rw [← HZS.out]; unfold admL; rw [if_pos HAD.out]
          have HG2 : Hid (goodJ zs = true) := by
            show _ = _
            rw [hz]
            have := HAD.out
            unfold admB at this
            rw [Bool.and_eq_true] at this
            exact this.1
          have HM2 : Hid (meetB zs = true) := by show _ = _; rw [hz]; exact hm2
          have hzl : (zs.length : Int) = (ys.length : Int) + 1 := by rw [hz]; simp
          have hyl : ys.length ≤ 8 := goodJ_len hg1
          obtain ⟨zn, hzn⟩ : ∃ zn, zn = zs.length := ⟨_, rfl⟩
          rw [← hzn] at hzl ⊢
          have HZN := hid hzn
          have heq : ((zn : Int) == (ys.length : Int) + 1) = true := by rw [hzl]; simp
          have hwy : IntKind.i64.wrap ((ys.length : Int) + 1) = (ys.length : Int) + 1 := by rw [IntKind.wrap_i64]; omega
          rw [← hzn] at R27
          clear hg1 hm1 hm2 hz hzn hzl
          go_wp2_with fail
          refine (icanMeet_yes _ zs true HM2.out _ R27.out HG2.out).mono ?_
          rintro e y8 ⟨rfl, b⟩
          replace R25 := hid (R25.out.below b)
          have B : Hid (Below w.heap.size w y8) := B.out.trans (b.mono B.out.size)
          clear b
          go_wp2_with fail
          refine (icanMeet_yes _ ys true HM1.out _ R25.out HG1.out).mono ?_
          rintro e y9 ⟨rfl, b⟩
          have B : Hid (Below w.heap.size w y9) := B.out.trans (b.mono B.out.size)
          clear b
          go_wp2
          go_ret
          exact ⟨by first | rfl | (rw [heq]; rfl) | simp, B.out⟩
    · obtain ⟨f, t, hft, ht24, rfl, rfl, hov⟩ := HOV.out rfl
      have hok : demOk xs f t = true := by
        unfold demOk whB
        rw [HT.out, decide_eq_true (p := 0 ≤ (f : Int) ∧ (f : Int) ≤ 24) (by omega), decide_eq_true (p := (f : Int) + 1 ≤ (t : Int) ∧ (t : Int) ≤ 24) (by omega)]
        rfl
      obtain ⟨d, hd⟩ : ∃ d, dem f t xs = d := ⟨_, rfl⟩
      have hlt : (t : Int) - f < d := by
        unfold overB at hov
        rw [hd, decide_eq_true_eq] at hov
        exact hov
      have HDI : Hid (∀ v w, JbReads w v xs → Calls Try.prog 8 #[v, .int .i64 f, .int .i64 t] w fun e w' => e = .returned (.tuple #[.int .i64 d, .bool true]) ∧ Below w.heap.size w w') := fun v w hr => by
        have h1 : demN xs f t = d := by unfold demN; rw [if_pos hok]; exact hd
        have := idemandIn_any v xs f t w hr
        rw [h1, hok] at this
        exact this
      have hw1 : IntKind.i64.wrap ((t : Int) - f) = (t : Int) - f := by rw [IntKind.wrap_i64]; omega
      have hdd : decide (d ≤ (t : Int) - f) = false := by simp; omega
      clear hok hd hov HOV
      go_wp2_with fail
      refine (HDI.out _ _ R5.out).mono ?_
      rintro e w5 ⟨rfl, b⟩
      have B : Hid (Below w.heap.size w w5) := B.out.trans (b.mono B.out.size)
      clear b R5 HDI
      as_aux_lemma =>
        have CM := hid (HC1.out.after B.out)
        go_wp2_with fail
        refine (drawDem_any _ _ CM.out).mono ?_
        rintro e y1 ⟨v18, p, q, rfl, xs2, hx2, o, b⟩
        have B : Hid (Below w.heap.size w y1) := B.out.trans (b.mono B.out.size)
        have R18 := hid o.reads
        clear b o CM
        obtain ⟨n2, hn2⟩ : ∃ n, demN xs2 p q = n := ⟨_, rfl⟩
        obtain ⟨k2, hk2⟩ : ∃ k, demOk xs2 p q = k := ⟨_, rfl⟩
        have DI : Hid (∀ v w, JbReads w v xs2 → Calls Try.prog 8 #[v, .int .i64 p, .int .i64 q] w fun e w' => e = .returned (.tuple #[.int .i64 n2, .bool k2]) ∧ Below w.heap.size w w') := by rw [← hn2, ← hk2]; exact fun v w => idemandIn_any v xs2 p q w
        have DS : Hid (∀ v w, JbReads w v xs2 → Calls Try.prog 10 #[v, .int .i64 p, .int .i64 q] w fun e w' => e = .returned (.tuple #[.int .i64 n2, .bool k2]) ∧ Below w.heap.size w w') := by rw [← hn2, ← hk2]; exact fun v w => sdemandIn_any v xs2 p q w
        clear hn2 hk2
        go_wp2_with fail
        refine (DI.out _ _ R18.out).mono ?_
        rintro e y2 ⟨rfl, b⟩
        replace R18 := hid (R18.out.below b)
        have B : Hid (Below w.heap.size w y2) := B.out.trans (b.mono B.out.size)
        clear b
        go_wp2_with fail
        refine (DS.out _ _ R18.out).mono ?_
        rintro e y3 ⟨rfl, b⟩
        have B : Hid (Below w.heap.size w y3) := B.out.trans (b.mono B.out.size)
        clear b R18 DI DS
        have CM := hid (HC1.out.after B.out)
        go_wp2_with fail
        refine (drawAdm_any _ _ CM.out).mono ?_
        rintro e y4 ⟨v25, x, rfl, ys, hys, o, b⟩
        have B : Hid (Below w.heap.size w y4) := B.out.trans (b.mono B.out.size)
        have R25 := hid o.reads
        clear b o CM
        obtain ⟨a25, c25, rfl, _, _⟩ := R25.out
        obtain ⟨Y, hY⟩ : ∃ Y, Y = y4.alloc (.cells #[.int .i64 x.1, .int .i64 x.2.1, .int .i64 x.2.2] 34) := ⟨_, rfl⟩
        have bY : Below y4.heap.size y4 Y := by rw [hY]; exact (Below.refl _ _).alloc (Nat.le_refl _) _
        have PX : Hid (JbCells Y y4.heap.size 0 x) := by rw [hY]; exact (jalloc3 y4 x).1
        replace R25 := hid (R25.out.below bY)
        have B : Hid (Below w.heap.size w Y) := B.out.trans (bY.mono B.out.size)
        have HYY := hid hY
        obtain ⟨ad, had⟩ : ∃ ad, admB ys x = ad := ⟨_, rfl⟩
        obtain ⟨zs, hzs⟩ : ∃ zs, admL ys x = zs := ⟨_, rfl⟩
        have HAD := hid had
        have HZS := hid hzs
        have AI : Hid (∀ v w, JbReads w v ys → Calls Try.prog 12 #[v, .agg #[.int .i64 x.1, .int .i64 x.2.1, .int .i64 x.2.2]] w fun e w' => ∃ v', e = .returned (.tuple #[v', .bool ad]) ∧ JbOwn w.heap.size w'.heap.size w' v' zs ∧ Below w.heap.size w w') := by rw [← had, ← hzs]; exact fun v w => iadm_any v ys x w
        have AS : Hid (∀ v w, JbReads w v ys → Calls Try.prog 13 #[v, .agg #[.int .i64 x.1, .int .i64 x.2.1, .int .i64 x.2.2]] w fun e w' => ∃ v', e = .returned (.tuple #[v', .bool ad]) ∧ JbOwn w.heap.size w'.heap.size w' v' zs ∧ Below w.heap.size w w') := by rw [← had, ← hzs]; exact fun v w => sadm_any v ys x w
        clear bY hY had hzs
        obtain ⟨p0, p1, p2⟩ := PX.out
        go_wp2_with fail
        rw [← HYY.out]
        refine (AI.out _ _ R25.out).mono ?_
        rintro e y5 ⟨v27, rfl, o, b⟩
        have R27 := hid o.reads
        replace R25 := hid (R25.out.below b)
        replace PX := hid (PX.out.below b PX.out.lt)
        have B : Hid (Below w.heap.size w y5) := B.out.trans (b.mono B.out.size)
        clear b o p0 p1 p2
        obtain ⟨p0, p1, p2⟩ := PX.out
        obtain ⟨a27, c27, rfl, _, _⟩ := R27.out
        go_wp2_with fail
        refine (AS.out _ _ R25.out).mono ?_
        rintro e y6 ⟨v29, rfl, o, b⟩
        have R29 := hid o.reads
        replace R25 := hid (R25.out.below b)
        replace R27 := hid (R27.out.below b)
        have B : Hid (Below w.heap.size w y6) := B.out.trans (b.mono B.out.size)
        clear b o p0 p1 p2 PX AI AS
        have dk : (k2 != k2) = false := by simp
        have dn : (n2 != n2) = false := by simp
        have da : (ad != ad) = false := by simp
        go_wp2_with fail
        refine (sameJobs_same _ _ zs _ R27.out R29.out).mono ?_
        rintro e y7 ⟨rfl, b⟩
        replace R25 := hid (R25.out.below b)
        replace R27 := hid (R27.out.below b)
        have B : Hid (Below w.heap.size w y7) := B.out.trans (b.mono B.out.size)
        clear b R29
        cases ad
        · go_wp2
          go_ret
          exact ⟨rfl, B.out⟩
        · obtain ⟨hg1, hm1, hm2⟩ := meet_less HAD.out
          have HG1 := hid hg1
          have HM1 := hid hm1
          have hz : zs = ys ++ [x] := by rw [← HZS.out]; unfold admL; rw [if_pos HAD.out]
          have HG2 : Hid (goodJ zs = true) := by
            show _ = _
            rw [hz]
            have := HAD.out
            unfold admB at this
            rw [Bool.and_eq_true] at this
            exact this.1
          have HM2 : Hid (meetB zs = true) := by show _ = _; rw [hz]; exact hm2
          have hzl : (zs.length : Int) = (ys.length : Int) + 1 := by rw [hz]; simp
          have hyl : ys.length ≤ 8 := goodJ_len hg1
          obtain ⟨zn, hzn⟩ : ∃ zn, zn = zs.length := ⟨_, rfl⟩
          rw [← hzn] at hzl ⊢
          have HZN := hid hzn
          have heq : ((zn : Int) == (ys.length : Int) + 1) = true := by rw [hzl]; simp
          have hwy : IntKind.i64.wrap ((ys.length : Int) + 1) = (ys.length : Int) + 1 := by rw [IntKind.wrap_i64]; omega
          rw [← hzn] at R27
          clear hg1 hm1 hm2 hz hzn hzl
          go_wp2_with fail
          refine (icanMeet_yes _ zs true HM2.out _ R27.out HG2.out).mono ?_
          rintro e y8 ⟨rfl, b⟩
          replace R25 := hid (R25.out.below b)
          have B : Hid (Below w.heap.size w y8) := B.out.trans (b.mono B.out.size)
          clear b
          go_wp2_with fail
          refine (icanMeet_yes _ ys true HM1.out _ R25.out HG1.out).mono ?_
          rintro e y9 ⟨rfl, b⟩
          have B : Hid (Below w.heap.size w y9) := B.out.trans (b.mono B.out.size)
          clear b
          go_wp2
          go_ret
          exact ⟨by first | rfl | (rw [heq]; rfl) | simp, B.out⟩
end Go.Proofs.Ytobkockikpgcoab
