/-
  The law FnHeaps answers true at all bytes: what comes to a heap, goes from it or is taken out of it leaves a heap, with the least first.
-/
import Derived.Test.YtndbdioignmaeaaDrawHeaps
import Derived.Test.YtndbdioignmaeaaHeapsMath
import Derived.Test.YtndbdioignmaeaaSameWorks
import Derived.Test.YtndbdioignmaeaaCodeRow
import Derived.Test.YtndbdioignmaeaaIPushFn
import Derived.Test.YtndbdioignmaeaaSPushFn
import Derived.Test.YtndbdioignmaeaaIPopFn
import Derived.Test.YtndbdioignmaeaaSPopFn
import Derived.Test.YtndbdioignmaeaaIRemFn
import Derived.Test.YtndbdioignmaeaaSRemFn
import Derived.Test.YtndbdioignmaeaaIIsHeap
import Derived.Test.YtndbdioignmaeaaSIsHeap
import Derived.Test.YtndbdioignmaeaaLessFns
namespace Go.Proofs.Ytndbdioignmaeaa
open Go.RowKit

set_option maxRecDepth 100000 in
set_option maxHeartbeats 100000000 in
theorem FnHeaps_walk (a0 : Option Addr) (len0 cap0 : Nat) (z0 : List Int) (a1 : Option Addr) (len1 cap1 : Nat) (z1 : List Int) (w : World) (h0 : IsRow .u8 w a0 len0 cap0 z0) (h1 : IsRow .u8 w a1 len1 cap1 z1) (b0 : cap0 * 1 ≤ 140737488351232) (b1 : cap1 * 1 ≤ 140737488351232) :
    Calls Try.prog 4 #[.slice a0 len0 cap0, .slice a1 len1 cap1] w fun e w' => e = .returned (.bool true) ∧ Below w.heap.size w w' := by
  have l0 : len0 ≤ cap0 := by rcases h0 with ⟨_, rfl, rfl, _⟩ | ⟨x, _, h, _⟩ <;> omega
  have l1 : len1 ≤ cap1 := by rcases h1 with ⟨_, rfl, rfl, _⟩ | ⟨x, _, h, _⟩ <;> omega
  by_cases hbig : (1048576 : Int) < (len0 : Int) + (len1 : Int)
  · clear h0 h1
    go_enter Try.func4, Try.ntmps4
    go_wp2
    go_ret
    exact ⟨rfl, Below.refl _ _⟩
  have HC0 := hid (code_of_row h0 (by omega))
  have HC1 := hid (code_of_row h1 (by omega))
  have B : Hid (Below w.heap.size w w) := Below.refl _ _
  clear h0 h1
  go_enter Try.func4, Try.ntmps4
  go_wp2_with fail
  refine (drawPush_any _ _ HC0.out).mono ?_
  rintro e w1 ⟨u5, x, rfl, xs, hxs, r, b⟩
  have B : Hid (Below w.heap.size w w1) := B.out.trans (b.mono B.out.size)
  clear b
  have R5 := hid r
  clear r
  obtain ⟨a5, n, c5, rfl, hn⟩ := slice_form R5.out
  have HN := hid hn
  clear hn
  obtain ⟨t, ht⟩ : ∃ t, pushB xs x = t := ⟨_, rfl⟩
  obtain ⟨ys, hys⟩ : ∃ ys, pushY xs x = ys := ⟨_, rfl⟩
  have HT := hid ht
  have HYS := hid hys
  have PI : Hid (∀ v wq, WkReads wq v xs → Calls Try.prog 26 #[v, .agg #[.int .i64 x.1, .int .i64 x.2.1, .int .i64 x.2.2]] wq fun e w' => ∃ v', e = .returned (.tuple #[v', .bool t]) ∧ WkOwn wq.heap.size w'.heap.size w' v' ys ∧ Below wq.heap.size wq w') := by rw [← ht, ← hys]; exact fun v w => iPushHeap_any v xs x w
  have PS : Hid (∀ v wq, WkReads wq v xs → Calls Try.prog 27 #[v, .agg #[.int .i64 x.1, .int .i64 x.2.1, .int .i64 x.2.2]] wq fun e w' => ∃ v', e = .returned (.tuple #[v', .bool t]) ∧ WkOwn wq.heap.size w'.heap.size w' v' ys ∧ Below wq.heap.size wq w') := by rw [← ht, ← hys]; exact fun v w => sPushHeap_any v xs x w
  clear ht hys
  go_wp2_with fail
  refine (PI.out _ _ (R5.out.below ((Below.refl _ _).alloc (Nat.le_refl _) _))).mono ?_
  rintro e w2 ⟨v7, rfl, o, b⟩
  have X : Hid (WkCells w2 w1.heap.size 0 x) := box_cells b
  replace b := box_below b
  replace R5 := hid (R5.out.below b)
  have B : Hid (Below w.heap.size w w2) := B.out.trans (b.mono B.out.size)
  clear b
  have R7 := hid o.reads
  clear o
  obtain ⟨a7, m, c7, rfl, hm⟩ := slice_form R7.out
  have HM := hid hm
  clear hm
  obtain ⟨p0, p1, p2⟩ := X.out
  go_wp2_with fail
  refine (PS.out _ _ R5.out).mono ?_
  rintro e w3 ⟨v9, rfl, o, b⟩
  replace R5 := hid (R5.out.below b)
  replace R7 := hid (R7.out.below b)
  replace X := hid (X.out.on b)
  have B : Hid (Below w.heap.size w w3) := B.out.trans (b.mono B.out.size)
  clear b
  have R9 := hid o.reads
  clear o p0 p1 p2
  obtain ⟨a9, n9, c9, rfl, hn9⟩ := slice_form R9.out
  clear hn9
  have dt0 : (t != t) = false := by simp
  go_wp2_with fail
  refine (sameWorks_same _ _ ys _ R7.out R9.out).mono ?_
  rintro e w4 ⟨rfl, b⟩
  replace R5 := hid (R5.out.below b)
  replace R7 := hid (R7.out.below b)
  replace X := hid (X.out.on b)
  have B : Hid (Below w.heap.size w w4) := B.out.trans (b.mono B.out.size)
  clear b
  clear R9 PI PS
  cases t
  · have CM := hid (HC1.out.after B.out)
    go_wp2_with fail
    refine (drawRemove_any _ _ CM.out).mono ?_
    rintro e y1 ⟨u22, k, rfl, ms, hms, r, b⟩
    have B : Hid (Below w.heap.size w y1) := B.out.trans (b.mono B.out.size)
    clear b
    have R22 := hid r
    clear r CM
    obtain ⟨a22, n2, c22, rfl, hn2⟩ := slice_form R22.out
    have HN2 := hid hn2
    clear hn2
    obtain ⟨t2, ht2⟩ : ∃ t, remB ms k = t := ⟨_, rfl⟩
    obtain ⟨rs, hrs⟩ : ∃ rs, remY ms k = rs := ⟨_, rfl⟩
    have HT2 := hid ht2
    have HRS := hid hrs
    have RI : Hid (∀ v wq, WkReads wq v ms → Calls Try.prog 34 #[v, .int .i64 k] wq fun e w' => ∃ v', e = .returned (.tuple #[v', .bool t2]) ∧ WkOwn wq.heap.size w'.heap.size w' v' rs ∧ Below wq.heap.size wq w') := by rw [← ht2, ← hrs]; exact fun v w => iRemoveAt_any v ms k w
    have RS : Hid (∀ v wq, WkReads wq v ms → Calls Try.prog 35 #[v, .int .i64 k] wq fun e w' => ∃ v', e = .returned (.tuple #[v', .bool t2]) ∧ WkOwn wq.heap.size w'.heap.size w' v' rs ∧ Below wq.heap.size wq w') := by rw [← ht2, ← hrs]; exact fun v w => sRemoveAt_any v ms k w
    clear ht2 hrs
    go_wp2_with fail
    refine (RI.out _ _ R22.out).mono ?_
    rintro e y2 ⟨v24, rfl, o, b⟩
    replace R22 := hid (R22.out.below b)
    have B : Hid (Below w.heap.size w y2) := B.out.trans (b.mono B.out.size)
    clear b
    have R24 := hid o.reads
    clear o
    obtain ⟨a24, m2, c24, rfl, hm2⟩ := slice_form R24.out
    have HM2 := hid hm2
    clear hm2
    go_wp2_with fail
    refine (RS.out _ _ R22.out).mono ?_
    rintro e y3 ⟨v26, rfl, o, b⟩
    replace R22 := hid (R22.out.below b)
    replace R24 := hid (R24.out.below b)
    have B : Hid (Below w.heap.size w y3) := B.out.trans (b.mono B.out.size)
    clear b
    have R26 := hid o.reads
    clear o
    obtain ⟨a26, n26, c26, rfl, hn26⟩ := slice_form R26.out
    clear hn26
    have dt2 : (t2 != t2) = false := by simp
    go_wp2_with fail
    refine (sameWorks_same _ _ rs _ R24.out R26.out).mono ?_
    rintro e y4 ⟨rfl, b⟩
    replace R22 := hid (R22.out.below b)
    replace R24 := hid (R24.out.below b)
    have B : Hid (Below w.heap.size w y4) := B.out.trans (b.mono B.out.size)
    clear b
    clear R26 RI RS
    cases t2
    · have CM := hid (HC1.out.after B.out)
      go_wp2_with fail
      refine (drawPop_any _ _ CM.out).mono ?_
      rintro e x1 ⟨u30, rfl, ts, hts, r, b⟩
      have B : Hid (Below w.heap.size w x1) := B.out.trans (b.mono B.out.size)
      clear b
      have R30 := hid r
      clear r CM
      obtain ⟨a30, n30, c30, rfl, hn30⟩ := slice_form R30.out
      have HN30 := hid hn30
      clear hn30
      obtain ⟨t3, ht3⟩ : ∃ t, popB ts = t := ⟨_, rfl⟩
      obtain ⟨qs, hqs⟩ : ∃ qs, popY ts = qs := ⟨_, rfl⟩
      obtain ⟨f, hf⟩ : ∃ f, popX ts = f := ⟨_, rfl⟩
      obtain ⟨i1, hi1⟩ : ∃ i, (goodW ts && heapB ts) = i := ⟨_, rfl⟩
      obtain ⟨i2, hi2⟩ : ∃ i, goodW ts = i := ⟨_, rfl⟩
      have OI : Hid (∀ v wq, WkReads wq v ts → Calls Try.prog 30 #[v] wq fun e w' => ∃ v', e = .returned (.tuple #[v', .agg #[.int .i64 f.1, .int .i64 f.2.1, .int .i64 f.2.2], .bool t3]) ∧ WkOwn wq.heap.size w'.heap.size w' v' qs ∧ Below wq.heap.size wq w') := by rw [← ht3, ← hqs, ← hf]; exact fun v w => iPopHeap_any v ts w
      have OS : Hid (∀ v wq, WkReads wq v ts → Calls Try.prog 37 #[v] wq fun e w' => ∃ v', e = .returned (.tuple #[v', .agg #[.int .i64 f.1, .int .i64 f.2.1, .int .i64 f.2.2], .bool t3]) ∧ WkOwn wq.heap.size w'.heap.size w' v' qs ∧ Below wq.heap.size wq w') := by rw [← ht3, ← hqs, ← hf]; exact fun v w => sPopHeap_any v ts w
      have II : Hid (∀ v wq, WkReads wq v ts → Calls Try.prog 29 #[v] wq fun e w' => e = .returned (.tuple #[.bool i1, .bool i2]) ∧ Below wq.heap.size wq w') := by rw [← hi1, ← hi2]; exact fun v w => iIsHeap_any v ts w
      have IS : Hid (∀ v wq, WkReads wq v ts → Calls Try.prog 38 #[v] wq fun e w' => e = .returned (.tuple #[.bool i1, .bool i2]) ∧ Below wq.heap.size wq w') := by rw [← hi1, ← hi2]; exact fun v w => sIsHeap_any v ts w
      clear ht3 hqs hf hi1 hi2
      go_wp2_with fail
      refine (OI.out _ _ R30.out).mono ?_
      rintro e x2 ⟨v31, rfl, o, b⟩
      replace R30 := hid (R30.out.below b)
      have B : Hid (Below w.heap.size w x2) := B.out.trans (b.mono B.out.size)
      clear b
      have R31 := hid o.reads
      clear o
      obtain ⟨a31, n31, c31, rfl, hn31⟩ := slice_form R31.out
      clear hn31
      go_wp2_with fail
      refine (OS.out _ _ (R30.out.below ((Below.refl _ _).alloc (Nat.le_refl _) _))).mono ?_
      rintro e x3 ⟨v34, rfl, o, b⟩
      have F1 : Hid (WkCells x3 x2.heap.size 0 f) := box_cells b
      replace b := box_below b
      replace R30 := hid (R30.out.below b)
      replace R31 := hid (R31.out.below b)
      have B : Hid (Below w.heap.size w x3) := B.out.trans (b.mono B.out.size)
      clear b
      have R34 := hid o.reads
      clear o
      obtain ⟨a34, n34, c34, rfl, hn34⟩ := slice_form R34.out
      clear hn34
      go_wp2_with fail
      refine (II.out _ _ (R30.out.below ((Below.refl _ _).alloc (Nat.le_refl _) _))).mono ?_
      rintro e x4 ⟨rfl, b⟩
      have F2 : Hid (WkCells x4 x3.heap.size 0 f) := box_cells b
      replace b := box_below b
      replace R30 := hid (R30.out.below b)
      replace R31 := hid (R31.out.below b)
      replace R34 := hid (R34.out.below b)
      replace F1 := hid (F1.out.on b)
      have B : Hid (Below w.heap.size w x4) := B.out.trans (b.mono B.out.size)
      clear b
      go_wp2_with fail
      refine (IS.out _ _ R30.out).mono ?_
      rintro e x5 ⟨rfl, b⟩
      replace R31 := hid (R31.out.below b)
      replace R34 := hid (R34.out.below b)
      replace F1 := hid (F1.out.on b)
      replace F2 := hid (F2.out.on b)
      have B : Hid (Below w.heap.size w x5) := B.out.trans (b.mono B.out.size)
      clear b
      obtain ⟨p0, p1, p2⟩ := F1.out
      obtain ⟨q0, q1, q2⟩ := F2.out
      have dt3 : (t3 == t3) = true := by simp
      have di1 : (i1 == i1) = true := by simp
      have di2 : (i2 == i2) = true := by simp
      go_wp2_with fail
      refine (sameWorks_same _ _ qs _ R31.out R34.out).mono ?_
      rintro e x6 ⟨rfl, b⟩
      have B : Hid (Below w.heap.size w x6) := B.out.trans (b.mono B.out.size)
      clear b
      clear p0 p1 p2 q0 q1 q2
      go_wp2
      go_ret
      exact ⟨rfl, B.out⟩
    · obtain ⟨kk, rfl, hkk, hgr, hhr, hlr, hl40, hmr⟩ := rem_facts HT2.out HRS.out
      have e22 := HN2.out
      have e24 := HM2.out
      have IR : Hid (∀ v wq, WkReads wq v rs → Calls Try.prog 29 #[v] wq fun e w' => e = .returned (.tuple #[.bool true, .bool true]) ∧ Below wq.heap.size wq w') := fun v wq h => by
        have := iIsHeap_any v rs wq h
        rw [hgr, hhr] at this
        exact this
      have HMR := hid hmr
      have hk0 : (0 : Int) ≤ (kk : Int) := by omega
      have hkn : (kk : Int) < (n2 : Int) := by omega
      have r1 : (n2 : Int) - 1 = (m2 : Int) := by omega
      have rw1 : IntKind.i64.wrap (m2 : Int) = (m2 : Int) := by rw [IntKind.wrap_i64]; omega
      have dmm : ((m2 : Int) != (m2 : Int)) = false := by simp
      have HKK : Hid (kk < ms.length) := hkk
      have HL : Hid (rs.length ≤ 40 ∧ ms.length ≤ 40) := ⟨by omega, hl40⟩
      clear hkk hgr hhr hlr hl40 hmr e22 e24
      go_wp2_with fail
      refine (IR.out _ _ R24.out).mono ?_
      rintro e y5 ⟨rfl, b⟩
      replace R22 := hid (R22.out.below b)
      replace R24 := hid (R24.out.below b)
      have B : Hid (Below w.heap.size w y5) := B.out.trans (b.mono B.out.size)
      clear b
      obtain ⟨g, o, cap', e, hcc⟩ := R22.out.cells kk HKK.out
      have he : a22 = some ⟨g, o, none⟩ := by simp only [Value.slice.injEq] at e; exact e.1
      subst he
      obtain ⟨z, hz0⟩ : ∃ z, ms.getD kk wz = z := ⟨_, rfl⟩
      have PC : Hid (WkCells y5 g (o + kk * 3) z) := by rw [← hz0]; exact hcc kk HKK.out
      have hgy : g < y5.heap.size := PC.out.lt
      obtain ⟨c1, hc1⟩ : ∃ c, c = many rs z := ⟨_, rfl⟩
      obtain ⟨c0, hc0⟩ : ∃ c, c = many ms z := ⟨_, rfl⟩
      have hcc1 : c0 = c1 + 1 := by rw [hc0, hc1, ← hz0]; exact HMR.out
      have hcl : c0 ≤ 40 := by rw [hc0]; exact Nat.le_trans (many_le ms z) HL.out.2
      have r2 : (c0 : Int) - 1 = (c1 : Int) := by omega
      have rw2 : IntKind.i64.wrap (c1 : Int) = (c1 : Int) := by rw [IntKind.wrap_i64]; omega
      have dc2 : ((c1 : Int) != (c1 : Int)) = false := by simp
      have HH : Hid (∀ v (r : Nat) wq, ((v = .slice a24 m2 c24 ∧ r = c1) ∨ (v = .slice (some ⟨g, o, none⟩) n2 c22 ∧ r = c0)) → Below y5.heap.size y5 wq → Calls Try.prog 31 #[v, .agg #[.int .i64 z.1, .int .i64 z.2.1, .int .i64 z.2.2]] wq fun e w' => e = .returned (.int .i64 r) ∧ Below wq.heap.size wq w') := fun v r wq hv hq => by
        rcases hv with ⟨rfl, rfl⟩ | ⟨rfl, rfl⟩
        · exact manyOf_any _ rs z _ hc1 wq (R24.out.below hq) (by have := HL.out.1; omega)
        · exact manyOf_any _ ms z _ hc0 wq (R22.out.below hq) (by have := HL.out.2; omega)
      obtain ⟨q0, q1, q2⟩ := PC.out
      have qX : Below y5.heap.size y5 y5.drew := (Below.refl _ _).drew
      clear e hcc hz0 hc1 hc0 hcc1 hcl
      go_upto_region 28 with fail
      go_region_held3 (fun w' => w'.cell? ⟨g, o + kk * 3, none⟩ = some (.int .i64 z.1) ∧ w'.cell? ⟨g, o + kk * 3 + 1, none⟩ = some (.int .i64 z.2.1) ∧ w'.cell? ⟨g, o + kk * 3 + 2, none⟩ = some (.int .i64 z.2.2) ∧ Below y5.heap.size y5 w') (first | (refine ⟨?_, ?_, ?_, ?_⟩ <;> assumption) | exact ⟨q0, q1, q2, qX⟩)
        (first
          | (go_at_call 31; refine (HH.out _ _ _ (by first | exact .inl ⟨rfl, rfl⟩ | exact .inr ⟨rfl, rfl⟩) (by first | assumption | exact (by assumption : _ ∧ _ ∧ _ ∧ Below y5.heap.size y5 _).2.2.2)).mono ?_; rintro e yt ⟨rfl, b⟩; have qX := Below.trans (show Below y5.heap.size y5 _ by first | assumption | exact (by assumption : _ ∧ _ ∧ _ ∧ Below y5.heap.size y5 _).2.2.2) (b.mono (Below.size (show Below y5.heap.size y5 _ by first | assumption | exact (by assumption : _ ∧ _ ∧ _ ∧ Below y5.heap.size y5 _).2.2.2))); obtain ⟨q0, q1, q2⟩ := PC.out.on qX; clear b))
      replace B : Hid (Below w.heap.size w yt) := B.out.trans (qX.mono B.out.size)
      clear qX q0 q1 q2 PC
      have CM := hid (HC1.out.after B.out)
      go_wp2_with fail
      refine (drawPop_any _ _ CM.out).mono ?_
      rintro e x1 ⟨u30, rfl, ts, hts, r, b⟩
      have B : Hid (Below w.heap.size w x1) := B.out.trans (b.mono B.out.size)
      clear b
      have R30 := hid r
      clear r CM
      obtain ⟨a30, n30, c30, rfl, hn30⟩ := slice_form R30.out
      have HN30 := hid hn30
      clear hn30
      obtain ⟨t3, ht3⟩ : ∃ t, popB ts = t := ⟨_, rfl⟩
      obtain ⟨qs, hqs⟩ : ∃ qs, popY ts = qs := ⟨_, rfl⟩
      obtain ⟨f, hf⟩ : ∃ f, popX ts = f := ⟨_, rfl⟩
      obtain ⟨i1, hi1⟩ : ∃ i, (goodW ts && heapB ts) = i := ⟨_, rfl⟩
      obtain ⟨i2, hi2⟩ : ∃ i, goodW ts = i := ⟨_, rfl⟩
      have OI : Hid (∀ v wq, WkReads wq v ts → Calls Try.prog 30 #[v] wq fun e w' => ∃ v', e = .returned (.tuple #[v', .agg #[.int .i64 f.1, .int .i64 f.2.1, .int .i64 f.2.2], .bool t3]) ∧ WkOwn wq.heap.size w'.heap.size w' v' qs ∧ Below wq.heap.size wq w') := by rw [← ht3, ← hqs, ← hf]; exact fun v w => iPopHeap_any v ts w
      have OS : Hid (∀ v wq, WkReads wq v ts → Calls Try.prog 37 #[v] wq fun e w' => ∃ v', e = .returned (.tuple #[v', .agg #[.int .i64 f.1, .int .i64 f.2.1, .int .i64 f.2.2], .bool t3]) ∧ WkOwn wq.heap.size w'.heap.size w' v' qs ∧ Below wq.heap.size wq w') := by rw [← ht3, ← hqs, ← hf]; exact fun v w => sPopHeap_any v ts w
      have II : Hid (∀ v wq, WkReads wq v ts → Calls Try.prog 29 #[v] wq fun e w' => e = .returned (.tuple #[.bool i1, .bool i2]) ∧ Below wq.heap.size wq w') := by rw [← hi1, ← hi2]; exact fun v w => iIsHeap_any v ts w
      have IS : Hid (∀ v wq, WkReads wq v ts → Calls Try.prog 38 #[v] wq fun e w' => e = .returned (.tuple #[.bool i1, .bool i2]) ∧ Below wq.heap.size wq w') := by rw [← hi1, ← hi2]; exact fun v w => sIsHeap_any v ts w
      clear ht3 hqs hf hi1 hi2
      go_wp2_with fail
      refine (OI.out _ _ R30.out).mono ?_
      rintro e x2 ⟨v31, rfl, o, b⟩
      replace R30 := hid (R30.out.below b)
      have B : Hid (Below w.heap.size w x2) := B.out.trans (b.mono B.out.size)
      clear b
      have R31 := hid o.reads
      clear o
      obtain ⟨a31, n31, c31, rfl, hn31⟩ := slice_form R31.out
      clear hn31
      go_wp2_with fail
      refine (OS.out _ _ (R30.out.below ((Below.refl _ _).alloc (Nat.le_refl _) _))).mono ?_
      rintro e x3 ⟨v34, rfl, o, b⟩
      have F1 : Hid (WkCells x3 x2.heap.size 0 f) := box_cells b
      replace b := box_below b
      replace R30 := hid (R30.out.below b)
      replace R31 := hid (R31.out.below b)
      have B : Hid (Below w.heap.size w x3) := B.out.trans (b.mono B.out.size)
      clear b
      have R34 := hid o.reads
      clear o
      obtain ⟨a34, n34, c34, rfl, hn34⟩ := slice_form R34.out
      clear hn34
      go_wp2_with fail
      refine (II.out _ _ (R30.out.below ((Below.refl _ _).alloc (Nat.le_refl _) _))).mono ?_
      rintro e x4 ⟨rfl, b⟩
      have F2 : Hid (WkCells x4 x3.heap.size 0 f) := box_cells b
      replace b := box_below b
      replace R30 := hid (R30.out.below b)
      replace R31 := hid (R31.out.below b)
      replace R34 := hid (R34.out.below b)
      replace F1 := hid (F1.out.on b)
      have B : Hid (Below w.heap.size w x4) := B.out.trans (b.mono B.out.size)
      clear b
      go_wp2_with fail
      refine (IS.out _ _ R30.out).mono ?_
      rintro e x5 ⟨rfl, b⟩
      replace R31 := hid (R31.out.below b)
      replace R34 := hid (R34.out.below b)
      replace F1 := hid (F1.out.on b)
      replace F2 := hid (F2.out.on b)
      have B : Hid (Below w.heap.size w x5) := B.out.trans (b.mono B.out.size)
      clear b
      obtain ⟨p0, p1, p2⟩ := F1.out
      obtain ⟨q0, q1, q2⟩ := F2.out
      have dt3 : (t3 == t3) = true := by simp
      have di1 : (i1 == i1) = true := by simp
      have di2 : (i2 == i2) = true := by simp
      go_wp2_with fail
      refine (sameWorks_same _ _ qs _ R31.out R34.out).mono ?_
      rintro e x6 ⟨rfl, b⟩
      have B : Hid (Below w.heap.size w x6) := B.out.trans (b.mono B.out.size)
      clear b
      clear p0 p1 p2 q0 q1 q2
      go_wp2
      go_ret
      exact ⟨rfl, B.out⟩
  · obtain ⟨hgy, hhy, hly, hmy, hy40, hpy⟩ := push_facts HT.out HYS.out
    obtain ⟨zs, hzs⟩ : ∃ zs, popY ys = zs := ⟨_, rfl⟩
    obtain ⟨y, hy⟩ : ∃ y, popX ys = y := ⟨_, rfl⟩
    obtain ⟨hgz, hhz, hlz, hmz, hwy, hfy⟩ := pop_facts hpy hzs hy
    have IY : Hid (∀ v wq, WkReads wq v ys → Calls Try.prog 29 #[v] wq fun e w' => e = .returned (.tuple #[.bool true, .bool true]) ∧ Below wq.heap.size wq w') := fun v wq h => by
      have := iIsHeap_any v ys wq h
      rw [hgy, hhy] at this
      exact this
    have IZ : Hid (∀ v wq, WkReads wq v zs → Calls Try.prog 29 #[v] wq fun e w' => e = .returned (.tuple #[.bool true, .bool true]) ∧ Below wq.heap.size wq w') := fun v wq h => by
      have := iIsHeap_any v zs wq h
      rw [hgz, hhz] at this
      exact this
    have PO : Hid (∀ v wq, WkReads wq v ys → Calls Try.prog 30 #[v] wq fun e w' => ∃ v', e = .returned (.tuple #[v', .agg #[.int .i64 y.1, .int .i64 y.2.1, .int .i64 y.2.2], .bool true]) ∧ WkOwn wq.heap.size w'.heap.size w' v' zs ∧ Below wq.heap.size wq w') := by rw [← hpy, ← hzs, ← hy]; exact fun v w => iPopHeap_any v ys w
    have e5 := HN.out
    have e7 := HM.out
    have r1 : (n : Int) + 1 = (m : Int) := by omega
    have rw1 : IntKind.i64.wrap (m : Int) = (m : Int) := by rw [IntKind.wrap_i64]; omega
    have dmm : ((m : Int) != (m : Int)) = false := by simp
    have dnn : ((n : Int) != (n : Int)) = false := by simp
    obtain ⟨c1, hc1⟩ : ∃ c, c = many ys x := ⟨_, rfl⟩
    obtain ⟨c0, hc0⟩ : ∃ c, c = many xs x := ⟨_, rfl⟩
    have hcl : c1 ≤ ys.length := by rw [hc1]; exact many_le ys x
    have r2 : (c0 : Int) + 1 = (c1 : Int) := by omega
    have rw2 : IntKind.i64.wrap (c1 : Int) = (c1 : Int) := by rw [IntKind.wrap_i64]; omega
    have dc2 : ((c1 : Int) != (c1 : Int)) = false := by simp
    have HC1' := hid hc1
    have HC0' := hid hc0
    have HLY : Hid (ys.length = m ∧ zs.length = n ∧ m ≤ 40) := ⟨by omega, by omega, by omega⟩
    have HMZ := hid hmz
    have HWY := hid hwy
    have HFY := hid hfy
    clear hgy hhy hly hmy hy40 hpy hzs hy hgz hhz hlz hmz hwy hfy e5 e7 hc1 hc0 hcl
    go_wp2_with fail
    refine (IY.out _ _ R7.out).mono ?_
    rintro e w5 ⟨rfl, b⟩
    replace R5 := hid (R5.out.below b)
    replace R7 := hid (R7.out.below b)
    replace X := hid (X.out.on b)
    have B : Hid (Below w.heap.size w w5) := B.out.trans (b.mono B.out.size)
    clear b
    go_wp2_with fail
    refine (PO.out _ _ R7.out).mono ?_
    rintro e w6 ⟨v13, rfl, o, b⟩
    replace R5 := hid (R5.out.below b)
    replace R7 := hid (R7.out.below b)
    replace X := hid (X.out.on b)
    have B : Hid (Below w.heap.size w w6) := B.out.trans (b.mono B.out.size)
    clear b
    have R13 := hid o.reads
    clear o
    obtain ⟨a13, n13, c13, rfl, hn13⟩ := slice_form R13.out
    obtain rfl : n13 = n := by have := HLY.out.2.1; omega
    clear hn13
    go_wp2_with fail
    refine (IZ.out _ _ (R13.out.below ((Below.refl _ _).alloc (Nat.le_refl _) _))).mono ?_
    rintro e w7 ⟨rfl, b⟩
    have PY : Hid (WkCells w7 w6.heap.size 0 y) := box_cells b
    replace b := box_below b
    replace R5 := hid (R5.out.below b)
    replace R7 := hid (R7.out.below b)
    replace R13 := hid (R13.out.below b)
    replace X := hid (X.out.on b)
    have B : Hid (Below w.heap.size w w7) := B.out.trans (b.mono B.out.size)
    clear b
    have HH : Hid (∀ v (r : Nat) wq, ((v = .slice a7 m c7 ∧ r = c1) ∨ (v = .slice a5 n13 c5 ∧ r = c0)) → Below w7.heap.size w7 wq → Calls Try.prog 31 #[v, .agg #[.int .i64 x.1, .int .i64 x.2.1, .int .i64 x.2.2]] wq fun e w' => e = .returned (.int .i64 r) ∧ Below wq.heap.size wq w') := fun v r wq hv hq => by
      rcases hv with ⟨rfl, rfl⟩ | ⟨rfl, rfl⟩
      · exact manyOf_any _ ys x _ HC1'.out wq (R7.out.below hq) (by have := HLY.out; omega)
      · exact manyOf_any _ xs x _ HC0'.out wq (R5.out.below hq) (by have := HN.out; have := HLY.out; omega)
    obtain ⟨q0, q1, q2⟩ := X.out
    have qX : Below w7.heap.size w7 w7.drew := (Below.refl _ _).drew
    go_upto_region 12 with fail
    go_region_held3 (fun w' => w'.cell? ⟨w1.heap.size, 0, none⟩ = some (.int .i64 x.1) ∧ w'.cell? ⟨w1.heap.size, 1, none⟩ = some (.int .i64 x.2.1) ∧ w'.cell? ⟨w1.heap.size, 2, none⟩ = some (.int .i64 x.2.2) ∧ Below w7.heap.size w7 w') (first | (refine ⟨?_, ?_, ?_, ?_⟩ <;> assumption) | exact ⟨q0, q1, q2, qX⟩)
      (first
        | (go_at_call 31; refine (HH.out _ _ _ (by first | exact .inl ⟨rfl, rfl⟩ | exact .inr ⟨rfl, rfl⟩) (by first | assumption | exact (by assumption : _ ∧ _ ∧ _ ∧ Below w7.heap.size w7 _).2.2.2)).mono ?_; rintro e wt ⟨rfl, b⟩; have qX := Below.trans (show Below w7.heap.size w7 _ by first | assumption | exact (by assumption : _ ∧ _ ∧ _ ∧ Below w7.heap.size w7 _).2.2.2) (b.mono (Below.size (show Below w7.heap.size w7 _ by first | assumption | exact (by assumption : _ ∧ _ ∧ _ ∧ Below w7.heap.size w7 _).2.2.2))); obtain ⟨q0, q1, q2⟩ := X.out.on qX; clear b))
    replace B : Hid (Below w.heap.size w wt) := B.out.trans (qX.mono B.out.size)
    replace R7 := hid (R7.out.below qX)
    replace R13 := hid (R13.out.below qX)
    replace PY := hid (PY.out.on qX)
    clear qX q0 q1 q2 R5 X HH
    go_wp2
    go_loopw [135] (fun i wr => ∃ k : Nat, k ≤ m ∧ i = .int .i64 k ∧ WkReads wr (.slice a7 m c7) ys ∧ WkReads wr (.slice a13 n13 c13) zs ∧ WkCells wr w6.heap.size 0 y ∧ Below w.heap.size w wr) (fun i _ => m - (intOf i).toNat)
    case atStart => exact ⟨0, Nat.zero_le _, rfl, R7.out, R13.out, PY.out, B.out⟩
    case round =>
      obtain ⟨k, hk, rfl, r7, r13, py, bel⟩ := hrel
      replace R7 := hid r7
      replace R13 := hid r13
      replace PY := hid py
      have B := hid bel
      clear r7 r13 py bel
      by_cases hlt : k < m
      · have hkn : (k : Int) < (m : Int) := by omega
        have hk0 : (0 : Int) ≤ (k : Int) := by omega
        have hkl : k < ys.length := by rw [HLY.out.1]; exact hlt
        obtain ⟨g, o, cap', e, hcc⟩ := R7.out.cells k hkl
        have he : a7 = some ⟨g, o, none⟩ := by simp only [Value.slice.injEq] at e; exact e.1
        subst he
        clear e
        obtain ⟨z, hz0⟩ : ∃ z, z = ys.getD k wz := ⟨_, rfl⟩
        have hzm : z ∈ ys := by rw [hz0]; exact getD_mem _ k hkl
        obtain ⟨d0, d1, d2⟩ : WkCells wr g (o + k * 3) z := by rw [hz0]; exact hcc k hkl
        have hgr : g < wr.heap.size := lt_of_cell d0
        have LW : Hid (∀ wq, Calls Try.prog 32 #[.agg #[.int .i64 z.1, .int .i64 z.2.1, .int .i64 z.2.2], .agg #[.int .i64 y.1, .int .i64 y.2.1, .int .i64 y.2.2]] wq fun e w' => e = .returned (.tuple #[.bool false, .bool true]) ∧ Below wq.heap.size wq w') := fun wq => by
          have := iLessWork_any z y wq
          unfold lessR at this
          rw [(HFY.out z hzm).1, (HFY.out z hzm).2, HWY.out] at this
          exact this
        obtain ⟨cp, hcp⟩ : ∃ c, c = many ys z := ⟨_, rfl⟩
        obtain ⟨cq, hcq⟩ : ∃ c, c = many zs z := ⟨_, rfl⟩
        obtain ⟨cy, hcy⟩ : ∃ c, c = many [y] z := ⟨_, rfl⟩
        have hcs : cp = cq + cy := by rw [hcp, hcq, hcy]; exact HMZ.out z
        have hcl : cp ≤ 40 := by rw [hcp]; exact Nat.le_trans (many_le ys z) (by have := HLY.out; omega)
        have r3 : (cq : Int) + (cy : Int) = (cp : Int) := by omega
        have rw3 : IntKind.i64.wrap (cp : Int) = (cp : Int) := by rw [IntKind.wrap_i64]; omega
        have dc3 : ((cp : Int) != (cp : Int)) = false := by simp
        have HCP := hid hcp
        have HCQ := hid hcq
        have HCY := hid hcy
        obtain ⟨s0, s1, s2⟩ := PY.out
        have hsy : w6.heap.size < wr.heap.size := PY.out.lt
        have hm40 : m ≤ 40 := HLY.out.2.2
        clear hkl hcc hz0 hzm hcp hcq hcy hcs hcl
        go_wp2_with fail
        refine (LW.out _).mono ?_
        rintro e w8 ⟨rfl, b⟩
        have PZ : Hid (WkCells w8 wr.heap.size 0 z) := box_cells b
        replace b := box_below b
        replace R7 := hid (R7.out.below b)
        replace R13 := hid (R13.out.below b)
        replace PY := hid (PY.out.on b)
        have B : Hid (Below w.heap.size w w8) := B.out.trans (b.mono B.out.size)
        clear b
        clear d0 d1 d2 s0 s1 s2
        have HH : Hid (∀ v (r : Nat) wq, ((v = .slice (some ⟨g, o, none⟩) m c7 ∧ r = cp) ∨ (v = .slice a13 n13 c13 ∧ r = cq) ∨ (∃ gq, v = .slice (some ⟨gq, 0, none⟩) 1 1 ∧ r = cy ∧ WkCells wq gq 0 y)) → Below w8.heap.size w8 wq → Calls Try.prog 31 #[v, .agg #[.int .i64 z.1, .int .i64 z.2.1, .int .i64 z.2.2]] wq fun e w' => e = .returned (.int .i64 r) ∧ Below wq.heap.size wq w') := fun v r wq hv hq => by
          rcases hv with ⟨rfl, rfl⟩ | ⟨rfl, rfl⟩ | ⟨gq, rfl, rfl, hg⟩
          · exact manyOf_any _ ys z _ HCP.out wq (R7.out.below hq) (by have := HLY.out; omega)
          · exact manyOf_any _ zs z _ HCQ.out wq (R13.out.below hq) (by have := HLY.out; omega)
          · exact manyOf_any _ [y] z _ HCY.out wq (one_reads hg) (by simp)
        obtain ⟨q0, q1, q2⟩ := PZ.out
        obtain ⟨s0, s1, s2⟩ := PY.out
        have qX : Below w8.heap.size w8 w8.drew := (Below.refl _ _).drew
        go_upto_region 18 with fail
        go_region_held3 (fun w' => w'.cell? ⟨wr.heap.size, 0, none⟩ = some (.int .i64 z.1) ∧ w'.cell? ⟨wr.heap.size, 1, none⟩ = some (.int .i64 z.2.1) ∧ w'.cell? ⟨wr.heap.size, 2, none⟩ = some (.int .i64 z.2.2) ∧ w'.cell? ⟨w6.heap.size, 0, none⟩ = some (.int .i64 y.1) ∧ w'.cell? ⟨w6.heap.size, 1, none⟩ = some (.int .i64 y.2.1) ∧ w'.cell? ⟨w6.heap.size, 2, none⟩ = some (.int .i64 y.2.2) ∧ Below w8.heap.size w8 w') (first | (refine ⟨?_, ?_, ?_, ?_, ?_, ?_, ?_⟩ <;> assumption) | exact ⟨q0, q1, q2, s0, s1, s2, qX⟩ | exact keep18 PZ.out PY.out (below_new (Below.refl _ _) _).drew | exact keep18 PZ.out PY.out (below_new (show Below w8.heap.size w8 _ by first | assumption | exact (by assumption : _ ∧ _ ∧ _ ∧ _ ∧ _ ∧ _ ∧ Below w8.heap.size w8 _).2.2.2.2.2.2) _))
          (first
            | (go_at_call 31; refine (HH.out _ _ _ (by first | exact .inl ⟨rfl, rfl⟩ | exact .inr (.inl ⟨rfl, rfl⟩) | exact .inr (.inr ⟨_, rfl, rfl, (by first | exact (alloc3 _ y).1 | exact ((alloc3 w8 y).1.on (Below.refl _ _).drew) | exact (alloc3 _ y).1.on (by assumption) | exact ((alloc3 w8 y).1.on (Below.refl _ _).drew).on (by assumption) | exact ((alloc3 _ y).1.on (by assumption)).on (by assumption) | exact (((alloc3 w8 y).1.on (Below.refl _ _).drew).on (by assumption)).on (by assumption))⟩)) (by first | assumption | exact (by assumption : _ ∧ _ ∧ _ ∧ _ ∧ _ ∧ _ ∧ Below w8.heap.size w8 _).2.2.2.2.2.2)).mono ?_; rintro e wt ⟨rfl, b⟩; have qX := Below.trans (show Below w8.heap.size w8 _ by first | assumption | exact (by assumption : _ ∧ _ ∧ _ ∧ _ ∧ _ ∧ _ ∧ Below w8.heap.size w8 _).2.2.2.2.2.2) (b.mono (Below.size (show Below w8.heap.size w8 _ by first | assumption | exact (by assumption : _ ∧ _ ∧ _ ∧ _ ∧ _ ∧ _ ∧ Below w8.heap.size w8 _).2.2.2.2.2.2))); obtain ⟨q0, q1, q2⟩ := PZ.out.on qX; obtain ⟨s0, s1, s2⟩ := PY.out.on qX))
        all_goals
          replace B : Hid (Below w.heap.size w wt) := B.out.trans (qX.mono B.out.size)
          replace R7 := hid (R7.out.below qX)
          replace R13 := hid (R13.out.below qX)
          replace PY := hid (PY.out.on qX)
          clear q0 q1 q2 s0 s1 s2
          go_wp2
          go_roundw
          case rel => exact ⟨k + 1, by omega, by go_num, R7.out, R13.out, PY.out, B.out⟩
          case measure => simp [intOf]; omega
      · have CM := hid (HC1.out.after B.out)
        go_wp2_with fail
        refine (drawRemove_any _ _ CM.out).mono ?_
        rintro e y1 ⟨u22, k, rfl, ms, hms, r, b⟩
        have B : Hid (Below w.heap.size w y1) := B.out.trans (b.mono B.out.size)
        clear b
        have R22 := hid r
        clear r CM
        obtain ⟨a22, n2, c22, rfl, hn2⟩ := slice_form R22.out
        have HN2 := hid hn2
        clear hn2
        obtain ⟨t2, ht2⟩ : ∃ t, remB ms k = t := ⟨_, rfl⟩
        obtain ⟨rs, hrs⟩ : ∃ rs, remY ms k = rs := ⟨_, rfl⟩
        have HT2 := hid ht2
        have HRS := hid hrs
        have RI : Hid (∀ v wq, WkReads wq v ms → Calls Try.prog 34 #[v, .int .i64 k] wq fun e w' => ∃ v', e = .returned (.tuple #[v', .bool t2]) ∧ WkOwn wq.heap.size w'.heap.size w' v' rs ∧ Below wq.heap.size wq w') := by rw [← ht2, ← hrs]; exact fun v w => iRemoveAt_any v ms k w
        have RS : Hid (∀ v wq, WkReads wq v ms → Calls Try.prog 35 #[v, .int .i64 k] wq fun e w' => ∃ v', e = .returned (.tuple #[v', .bool t2]) ∧ WkOwn wq.heap.size w'.heap.size w' v' rs ∧ Below wq.heap.size wq w') := by rw [← ht2, ← hrs]; exact fun v w => sRemoveAt_any v ms k w
        clear ht2 hrs
        go_wp2_with fail
        refine (RI.out _ _ R22.out).mono ?_
        rintro e y2 ⟨v24, rfl, o, b⟩
        replace R22 := hid (R22.out.below b)
        have B : Hid (Below w.heap.size w y2) := B.out.trans (b.mono B.out.size)
        clear b
        have R24 := hid o.reads
        clear o
        obtain ⟨a24, m2, c24, rfl, hm2⟩ := slice_form R24.out
        have HM2 := hid hm2
        clear hm2
        go_wp2_with fail
        refine (RS.out _ _ R22.out).mono ?_
        rintro e y3 ⟨v26, rfl, o, b⟩
        replace R22 := hid (R22.out.below b)
        replace R24 := hid (R24.out.below b)
        have B : Hid (Below w.heap.size w y3) := B.out.trans (b.mono B.out.size)
        clear b
        have R26 := hid o.reads
        clear o
        obtain ⟨a26, n26, c26, rfl, hn26⟩ := slice_form R26.out
        clear hn26
        have dt2 : (t2 != t2) = false := by simp
        go_wp2_with fail
        refine (sameWorks_same _ _ rs _ R24.out R26.out).mono ?_
        rintro e y4 ⟨rfl, b⟩
        replace R22 := hid (R22.out.below b)
        replace R24 := hid (R24.out.below b)
        have B : Hid (Below w.heap.size w y4) := B.out.trans (b.mono B.out.size)
        clear b
        clear R26 RI RS
        cases t2
        · have CM := hid (HC1.out.after B.out)
          go_wp2_with fail
          refine (drawPop_any _ _ CM.out).mono ?_
          rintro e x1 ⟨u30, rfl, ts, hts, r, b⟩
          have B : Hid (Below w.heap.size w x1) := B.out.trans (b.mono B.out.size)
          clear b
          have R30 := hid r
          clear r CM
          obtain ⟨a30, n30, c30, rfl, hn30⟩ := slice_form R30.out
          have HN30 := hid hn30
          clear hn30
          obtain ⟨t3, ht3⟩ : ∃ t, popB ts = t := ⟨_, rfl⟩
          obtain ⟨qs, hqs⟩ : ∃ qs, popY ts = qs := ⟨_, rfl⟩
          obtain ⟨f, hf⟩ : ∃ f, popX ts = f := ⟨_, rfl⟩
          obtain ⟨i1, hi1⟩ : ∃ i, (goodW ts && heapB ts) = i := ⟨_, rfl⟩
          obtain ⟨i2, hi2⟩ : ∃ i, goodW ts = i := ⟨_, rfl⟩
          have OI : Hid (∀ v wq, WkReads wq v ts → Calls Try.prog 30 #[v] wq fun e w' => ∃ v', e = .returned (.tuple #[v', .agg #[.int .i64 f.1, .int .i64 f.2.1, .int .i64 f.2.2], .bool t3]) ∧ WkOwn wq.heap.size w'.heap.size w' v' qs ∧ Below wq.heap.size wq w') := by rw [← ht3, ← hqs, ← hf]; exact fun v w => iPopHeap_any v ts w
          have OS : Hid (∀ v wq, WkReads wq v ts → Calls Try.prog 37 #[v] wq fun e w' => ∃ v', e = .returned (.tuple #[v', .agg #[.int .i64 f.1, .int .i64 f.2.1, .int .i64 f.2.2], .bool t3]) ∧ WkOwn wq.heap.size w'.heap.size w' v' qs ∧ Below wq.heap.size wq w') := by rw [← ht3, ← hqs, ← hf]; exact fun v w => sPopHeap_any v ts w
          have II : Hid (∀ v wq, WkReads wq v ts → Calls Try.prog 29 #[v] wq fun e w' => e = .returned (.tuple #[.bool i1, .bool i2]) ∧ Below wq.heap.size wq w') := by rw [← hi1, ← hi2]; exact fun v w => iIsHeap_any v ts w
          have IS : Hid (∀ v wq, WkReads wq v ts → Calls Try.prog 38 #[v] wq fun e w' => e = .returned (.tuple #[.bool i1, .bool i2]) ∧ Below wq.heap.size wq w') := by rw [← hi1, ← hi2]; exact fun v w => sIsHeap_any v ts w
          clear ht3 hqs hf hi1 hi2
          go_wp2_with fail
          refine (OI.out _ _ R30.out).mono ?_
          rintro e x2 ⟨v31, rfl, o, b⟩
          replace R30 := hid (R30.out.below b)
          have B : Hid (Below w.heap.size w x2) := B.out.trans (b.mono B.out.size)
          clear b
          have R31 := hid o.reads
          clear o
          obtain ⟨a31, n31, c31, rfl, hn31⟩ := slice_form R31.out
          clear hn31
          go_wp2_with fail
          refine (OS.out _ _ (R30.out.below ((Below.refl _ _).alloc (Nat.le_refl _) _))).mono ?_
          rintro e x3 ⟨v34, rfl, o, b⟩
          have F1 : Hid (WkCells x3 x2.heap.size 0 f) := box_cells b
          replace b := box_below b
          replace R30 := hid (R30.out.below b)
          replace R31 := hid (R31.out.below b)
          have B : Hid (Below w.heap.size w x3) := B.out.trans (b.mono B.out.size)
          clear b
          have R34 := hid o.reads
          clear o
          obtain ⟨a34, n34, c34, rfl, hn34⟩ := slice_form R34.out
          clear hn34
          go_wp2_with fail
          refine (II.out _ _ (R30.out.below ((Below.refl _ _).alloc (Nat.le_refl _) _))).mono ?_
          rintro e x4 ⟨rfl, b⟩
          have F2 : Hid (WkCells x4 x3.heap.size 0 f) := box_cells b
          replace b := box_below b
          replace R30 := hid (R30.out.below b)
          replace R31 := hid (R31.out.below b)
          replace R34 := hid (R34.out.below b)
          replace F1 := hid (F1.out.on b)
          have B : Hid (Below w.heap.size w x4) := B.out.trans (b.mono B.out.size)
          clear b
          go_wp2_with fail
          refine (IS.out _ _ R30.out).mono ?_
          rintro e x5 ⟨rfl, b⟩
          replace R31 := hid (R31.out.below b)
          replace R34 := hid (R34.out.below b)
          replace F1 := hid (F1.out.on b)
          replace F2 := hid (F2.out.on b)
          have B : Hid (Below w.heap.size w x5) := B.out.trans (b.mono B.out.size)
          clear b
          obtain ⟨p0, p1, p2⟩ := F1.out
          obtain ⟨q0, q1, q2⟩ := F2.out
          have dt3 : (t3 == t3) = true := by simp
          have di1 : (i1 == i1) = true := by simp
          have di2 : (i2 == i2) = true := by simp
          go_wp2_with fail
          refine (sameWorks_same _ _ qs _ R31.out R34.out).mono ?_
          rintro e x6 ⟨rfl, b⟩
          have B : Hid (Below w.heap.size w x6) := B.out.trans (b.mono B.out.size)
          clear b
          clear p0 p1 p2 q0 q1 q2
          go_wp2
          go_ret
          exact ⟨rfl, B.out⟩
        · obtain ⟨kk, rfl, hkk, hgr, hhr, hlr, hl40, hmr⟩ := rem_facts HT2.out HRS.out
          have e22 := HN2.out
          have e24 := HM2.out
          have IR : Hid (∀ v wq, WkReads wq v rs → Calls Try.prog 29 #[v] wq fun e w' => e = .returned (.tuple #[.bool true, .bool true]) ∧ Below wq.heap.size wq w') := fun v wq h => by
            have := iIsHeap_any v rs wq h
            rw [hgr, hhr] at this
            exact this
          have HMR := hid hmr
          have hk0 : (0 : Int) ≤ (kk : Int) := by omega
          have hkn : (kk : Int) < (n2 : Int) := by omega
          have r1 : (n2 : Int) - 1 = (m2 : Int) := by omega
          have rw1 : IntKind.i64.wrap (m2 : Int) = (m2 : Int) := by rw [IntKind.wrap_i64]; omega
          have dmm : ((m2 : Int) != (m2 : Int)) = false := by simp
          have HKK : Hid (kk < ms.length) := hkk
          have HL : Hid (rs.length ≤ 40 ∧ ms.length ≤ 40) := ⟨by omega, hl40⟩
          clear hkk hgr hhr hlr hl40 hmr e22 e24
          go_wp2_with fail
          refine (IR.out _ _ R24.out).mono ?_
          rintro e y5 ⟨rfl, b⟩
          replace R22 := hid (R22.out.below b)
          replace R24 := hid (R24.out.below b)
          have B : Hid (Below w.heap.size w y5) := B.out.trans (b.mono B.out.size)
          clear b
          obtain ⟨g, o, cap', e, hcc⟩ := R22.out.cells kk HKK.out
          have he : a22 = some ⟨g, o, none⟩ := by simp only [Value.slice.injEq] at e; exact e.1
          subst he
          obtain ⟨z, hz0⟩ : ∃ z, ms.getD kk wz = z := ⟨_, rfl⟩
          have PC : Hid (WkCells y5 g (o + kk * 3) z) := by rw [← hz0]; exact hcc kk HKK.out
          have hgy : g < y5.heap.size := PC.out.lt
          obtain ⟨c1, hc1⟩ : ∃ c, c = many rs z := ⟨_, rfl⟩
          obtain ⟨c0, hc0⟩ : ∃ c, c = many ms z := ⟨_, rfl⟩
          have hcc1 : c0 = c1 + 1 := by rw [hc0, hc1, ← hz0]; exact HMR.out
          have hcl : c0 ≤ 40 := by rw [hc0]; exact Nat.le_trans (many_le ms z) HL.out.2
          have r2 : (c0 : Int) - 1 = (c1 : Int) := by omega
          have rw2 : IntKind.i64.wrap (c1 : Int) = (c1 : Int) := by rw [IntKind.wrap_i64]; omega
          have dc2 : ((c1 : Int) != (c1 : Int)) = false := by simp
          have HH : Hid (∀ v (r : Nat) wq, ((v = .slice a24 m2 c24 ∧ r = c1) ∨ (v = .slice (some ⟨g, o, none⟩) n2 c22 ∧ r = c0)) → Below y5.heap.size y5 wq → Calls Try.prog 31 #[v, .agg #[.int .i64 z.1, .int .i64 z.2.1, .int .i64 z.2.2]] wq fun e w' => e = .returned (.int .i64 r) ∧ Below wq.heap.size wq w') := fun v r wq hv hq => by
            rcases hv with ⟨rfl, rfl⟩ | ⟨rfl, rfl⟩
            · exact manyOf_any _ rs z _ hc1 wq (R24.out.below hq) (by have := HL.out.1; omega)
            · exact manyOf_any _ ms z _ hc0 wq (R22.out.below hq) (by have := HL.out.2; omega)
          obtain ⟨q0, q1, q2⟩ := PC.out
          have qX : Below y5.heap.size y5 y5.drew := (Below.refl _ _).drew
          clear e hcc hz0 hc1 hc0 hcc1 hcl
          go_upto_region 28 with fail
          go_region_held3 (fun w' => w'.cell? ⟨g, o + kk * 3, none⟩ = some (.int .i64 z.1) ∧ w'.cell? ⟨g, o + kk * 3 + 1, none⟩ = some (.int .i64 z.2.1) ∧ w'.cell? ⟨g, o + kk * 3 + 2, none⟩ = some (.int .i64 z.2.2) ∧ Below y5.heap.size y5 w') (first | (refine ⟨?_, ?_, ?_, ?_⟩ <;> assumption) | exact ⟨q0, q1, q2, qX⟩)
            (first
              | (go_at_call 31; refine (HH.out _ _ _ (by first | exact .inl ⟨rfl, rfl⟩ | exact .inr ⟨rfl, rfl⟩) (by first | assumption | exact (by assumption : _ ∧ _ ∧ _ ∧ Below y5.heap.size y5 _).2.2.2)).mono ?_; rintro e yt ⟨rfl, b⟩; have qX := Below.trans (show Below y5.heap.size y5 _ by first | assumption | exact (by assumption : _ ∧ _ ∧ _ ∧ Below y5.heap.size y5 _).2.2.2) (b.mono (Below.size (show Below y5.heap.size y5 _ by first | assumption | exact (by assumption : _ ∧ _ ∧ _ ∧ Below y5.heap.size y5 _).2.2.2))); obtain ⟨q0, q1, q2⟩ := PC.out.on qX; clear b))
          replace B : Hid (Below w.heap.size w yt) := B.out.trans (qX.mono B.out.size)
          clear qX q0 q1 q2 PC
          have CM := hid (HC1.out.after B.out)
          go_wp2_with fail
          refine (drawPop_any _ _ CM.out).mono ?_
          rintro e x1 ⟨u30, rfl, ts, hts, r, b⟩
          have B : Hid (Below w.heap.size w x1) := B.out.trans (b.mono B.out.size)
          clear b
          have R30 := hid r
          clear r CM
          obtain ⟨a30, n30, c30, rfl, hn30⟩ := slice_form R30.out
          have HN30 := hid hn30
          clear hn30
          obtain ⟨t3, ht3⟩ : ∃ t, popB ts = t := ⟨_, rfl⟩
          obtain ⟨qs, hqs⟩ : ∃ qs, popY ts = qs := ⟨_, rfl⟩
          obtain ⟨f, hf⟩ : ∃ f, popX ts = f := ⟨_, rfl⟩
          obtain ⟨i1, hi1⟩ : ∃ i, (goodW ts && heapB ts) = i := ⟨_, rfl⟩
          obtain ⟨i2, hi2⟩ : ∃ i, goodW ts = i := ⟨_, rfl⟩
          have OI : Hid (∀ v wq, WkReads wq v ts → Calls Try.prog 30 #[v] wq fun e w' => ∃ v', e = .returned (.tuple #[v', .agg #[.int .i64 f.1, .int .i64 f.2.1, .int .i64 f.2.2], .bool t3]) ∧ WkOwn wq.heap.size w'.heap.size w' v' qs ∧ Below wq.heap.size wq w') := by rw [← ht3, ← hqs, ← hf]; exact fun v w => iPopHeap_any v ts w
          have OS : Hid (∀ v wq, WkReads wq v ts → Calls Try.prog 37 #[v] wq fun e w' => ∃ v', e = .returned (.tuple #[v', .agg #[.int .i64 f.1, .int .i64 f.2.1, .int .i64 f.2.2], .bool t3]) ∧ WkOwn wq.heap.size w'.heap.size w' v' qs ∧ Below wq.heap.size wq w') := by rw [← ht3, ← hqs, ← hf]; exact fun v w => sPopHeap_any v ts w
          have II : Hid (∀ v wq, WkReads wq v ts → Calls Try.prog 29 #[v] wq fun e w' => e = .returned (.tuple #[.bool i1, .bool i2]) ∧ Below wq.heap.size wq w') := by rw [← hi1, ← hi2]; exact fun v w => iIsHeap_any v ts w
          have IS : Hid (∀ v wq, WkReads wq v ts → Calls Try.prog 38 #[v] wq fun e w' => e = .returned (.tuple #[.bool i1, .bool i2]) ∧ Below wq.heap.size wq w') := by rw [← hi1, ← hi2]; exact fun v w => sIsHeap_any v ts w
          clear ht3 hqs hf hi1 hi2
          go_wp2_with fail
          refine (OI.out _ _ R30.out).mono ?_
          rintro e x2 ⟨v31, rfl, o, b⟩
          replace R30 := hid (R30.out.below b)
          have B : Hid (Below w.heap.size w x2) := B.out.trans (b.mono B.out.size)
          clear b
          have R31 := hid o.reads
          clear o
          obtain ⟨a31, n31, c31, rfl, hn31⟩ := slice_form R31.out
          clear hn31
          go_wp2_with fail
          refine (OS.out _ _ (R30.out.below ((Below.refl _ _).alloc (Nat.le_refl _) _))).mono ?_
          rintro e x3 ⟨v34, rfl, o, b⟩
          have F1 : Hid (WkCells x3 x2.heap.size 0 f) := box_cells b
          replace b := box_below b
          replace R30 := hid (R30.out.below b)
          replace R31 := hid (R31.out.below b)
          have B : Hid (Below w.heap.size w x3) := B.out.trans (b.mono B.out.size)
          clear b
          have R34 := hid o.reads
          clear o
          obtain ⟨a34, n34, c34, rfl, hn34⟩ := slice_form R34.out
          clear hn34
          go_wp2_with fail
          refine (II.out _ _ (R30.out.below ((Below.refl _ _).alloc (Nat.le_refl _) _))).mono ?_
          rintro e x4 ⟨rfl, b⟩
          have F2 : Hid (WkCells x4 x3.heap.size 0 f) := box_cells b
          replace b := box_below b
          replace R30 := hid (R30.out.below b)
          replace R31 := hid (R31.out.below b)
          replace R34 := hid (R34.out.below b)
          replace F1 := hid (F1.out.on b)
          have B : Hid (Below w.heap.size w x4) := B.out.trans (b.mono B.out.size)
          clear b
          go_wp2_with fail
          refine (IS.out _ _ R30.out).mono ?_
          rintro e x5 ⟨rfl, b⟩
          replace R31 := hid (R31.out.below b)
          replace R34 := hid (R34.out.below b)
          replace F1 := hid (F1.out.on b)
          replace F2 := hid (F2.out.on b)
          have B : Hid (Below w.heap.size w x5) := B.out.trans (b.mono B.out.size)
          clear b
          obtain ⟨p0, p1, p2⟩ := F1.out
          obtain ⟨q0, q1, q2⟩ := F2.out
          have dt3 : (t3 == t3) = true := by simp
          have di1 : (i1 == i1) = true := by simp
          have di2 : (i2 == i2) = true := by simp
          go_wp2_with fail
          refine (sameWorks_same _ _ qs _ R31.out R34.out).mono ?_
          rintro e x6 ⟨rfl, b⟩
          have B : Hid (Below w.heap.size w x6) := B.out.trans (b.mono B.out.size)
          clear b
          clear p0 p1 p2 q0 q1 q2
          go_wp2
          go_ret
          exact ⟨rfl, B.out⟩
end Go.Proofs.Ytndbdioignmaeaa
