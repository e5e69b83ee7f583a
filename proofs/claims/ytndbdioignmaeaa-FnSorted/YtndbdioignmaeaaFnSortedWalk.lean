/-
  The law FnSorted answers true at all bytes: heaps are made in fewer steps than there are in them, what is taken one by one is in order, and of two unlike ones just one is less.
-/
import Derived.Test.YtndbdioignmaeaaDrawWorks
import Derived.Test.YtndbdioignmaeaaSameWorks
import Derived.Test.YtndbdioignmaeaaCodeRow
import Derived.Test.YtndbdioignmaeaaIMakeFn
import Derived.Test.YtndbdioignmaeaaSMakeFn
import Derived.Test.YtndbdioignmaeaaISteps
import Derived.Test.YtndbdioignmaeaaSSteps
import Derived.Test.YtndbdioignmaeaaISortFn
import Derived.Test.YtndbdioignmaeaaSSortFn
import Derived.Test.YtndbdioignmaeaaIIsHeap
import Derived.Test.YtndbdioignmaeaaLessFns
namespace Go.Proofs.Ytndbdioignmaeaa
open Go.RowKit

theorem CodeOk.later {w w' : World} {v : Value} (h : CodeOk w.heap.size w v) (hb : Below w.heap.size w w') : CodeOk w'.heap.size w' v := by
  obtain ⟨a, len, cap, rfl, hlen, hx⟩ := h
  refine ⟨a, len, cap, rfl, hlen, ?_⟩
  rcases hx with hx | ⟨cb, off, rfl, hlt, hc⟩
  · exact .inl hx
  · exact .inr ⟨cb, off, rfl, Nat.lt_of_lt_of_le hlt hb.size, fun i hi => by
      obtain ⟨x, hx, hc⟩ := hc i hi
      exact ⟨x, hx, (hb.cell (p := ⟨cb, off + i, none⟩) hlt).trans hc⟩⟩
theorem goodW_wk {l : List WkEl} (h : goodW l = true) (x : WkEl) (hx : x ∈ l) : wkB x = true := by
  obtain ⟨k, hk, e⟩ := mem_getD hx
  rw [← e]
  exact goodW_at h k hk

set_option maxRecDepth 100000 in
set_option maxHeartbeats 40000000 in
theorem FnSorted_walk (a0 : Option Addr) (len0 cap0 : Nat) (z0 : List Int) (a1 : Option Addr) (len1 cap1 : Nat) (z1 : List Int) (w : World) (h0 : IsRow .u8 w a0 len0 cap0 z0) (h1 : IsRow .u8 w a1 len1 cap1 z1) (b0 : cap0 * 1 ≤ 140737488351232) (b1 : cap1 * 1 ≤ 140737488351232) :
    Calls Try.prog 5 #[.slice a0 len0 cap0, .slice a1 len1 cap1] w fun e w' => e = .returned (.bool true) ∧ Below w.heap.size w w' := by
  have l0 : len0 ≤ cap0 := by rcases h0 with ⟨_, rfl, rfl, _⟩ | ⟨x, _, h, _⟩ <;> omega
  have l1 : len1 ≤ cap1 := by rcases h1 with ⟨_, rfl, rfl, _⟩ | ⟨x, _, h, _⟩ <;> omega
  by_cases hbig : (1048576 : Int) < (len0 : Int) + (len1 : Int)
  · clear h0 h1
    go_enter Try.func5, Try.ntmps5
    go_wp2
    go_ret
    exact ⟨rfl, Below.refl _ _⟩
  have HC0 := hid (code_of_row h0 (by omega))
  have HC1 := hid (code_of_row h1 (by omega))
  clear h0 h1
  go_enter Try.func5, Try.ntmps5
  go_wp2_with fail
  refine (drawMake_any _ _ HC0.out).mono ?_
  rintro e w1 ⟨v5, rfl, xs, hx, o5, b⟩
  have B := hid b
  have R5 := hid o5.reads
  clear b o5
  obtain ⟨a5, c5, rfl, _, _⟩ := R5.out
  obtain ⟨t, ht⟩ : ∃ t, goodW xs = t := ⟨_, rfl⟩
  have HT := hid ht
  have MI : Hid (∀ v w, WkReads w v xs → Calls Try.prog 40 #[v] w fun e w' => ∃ v', e = .returned (.tuple #[v', .bool t]) ∧ WkOwn w.heap.size w'.heap.size w' v' (makeY xs) ∧ Below w.heap.size w w') := by rw [← ht]; exact fun v w => iMakeHeap_any v xs w
  have MS : Hid (∀ v w, WkReads w v xs → Calls Try.prog 41 #[v] w fun e w' => ∃ v', e = .returned (.tuple #[v', .bool t]) ∧ WkOwn w.heap.size w'.heap.size w' v' (makeY xs) ∧ Below w.heap.size w w') := by rw [← ht]; exact fun v w => sMakeHeap_any v xs w
  obtain ⟨sn, hsn⟩ : ∃ sn, makeN xs = sn := ⟨_, rfl⟩
  have HSN := hid hsn
  have NI : Hid (∀ v w, WkReads w v xs → Calls Try.prog 42 #[v] w fun e w' => e = .returned (.tuple #[.int .i64 sn, .bool t]) ∧ Below w.heap.size w w') := by rw [← ht, ← hsn]; exact fun v w => iStepsToMake_any v xs w
  have NS : Hid (∀ v w, WkReads w v xs → Calls Try.prog 43 #[v] w fun e w' => e = .returned (.tuple #[.int .i64 sn, .bool t]) ∧ Below w.heap.size w w') := by rw [← ht, ← hsn]; exact fun v w => sStepsToMake_any v xs w
  have SI : Hid (∀ v w, WkReads w v xs → Calls Try.prog 44 #[v] w fun e w' => ∃ v', e = .returned (.tuple #[v', .bool t]) ∧ WkOwn w.heap.size w'.heap.size w' v' (sortY xs) ∧ Below w.heap.size w w') := by rw [← ht]; exact fun v w => iSortWork_any v xs w
  have SS : Hid (∀ v w, WkReads w v xs → Calls Try.prog 45 #[v] w fun e w' => ∃ v', e = .returned (.tuple #[v', .bool t]) ∧ WkOwn w.heap.size w'.heap.size w' v' (sortY xs) ∧ Below w.heap.size w w') := by rw [← ht]; exact fun v w => sSortWork_any v xs w
  clear ht hsn
  go_wp2_with fail
  refine (MI.out _ _ R5.out).mono ?_
  rintro e w2 ⟨v6, rfl, o, b⟩
  replace R5 := hid (R5.out.below b)
  have B : Hid (Below w.heap.size w w2) := B.out.trans (b.mono B.out.size)
  clear b
  have R6 := hid o.reads
  clear o
  go_wp2_with fail
  refine (MS.out _ _ R5.out).mono ?_
  rintro e w3 ⟨v8, rfl, o, b⟩
  replace R5 := hid (R5.out.below b)
  replace R6 := hid (R6.out.below b)
  have B : Hid (Below w.heap.size w w3) := B.out.trans (b.mono B.out.size)
  clear b
  have R8 := hid o.reads
  clear o
  go_wp2_with fail
  refine (NI.out _ _ R5.out).mono ?_
  rintro e w4 ⟨rfl, b⟩
  replace R5 := hid (R5.out.below b)
  replace R6 := hid (R6.out.below b)
  replace R8 := hid (R8.out.below b)
  have B : Hid (Below w.heap.size w w4) := B.out.trans (b.mono B.out.size)
  clear b
  go_wp2_with fail
  refine (NS.out _ _ R5.out).mono ?_
  rintro e w5 ⟨rfl, b⟩
  replace R5 := hid (R5.out.below b)
  replace R6 := hid (R6.out.below b)
  replace R8 := hid (R8.out.below b)
  have B : Hid (Below w.heap.size w w5) := B.out.trans (b.mono B.out.size)
  clear b
  go_wp2_with fail
  refine (SI.out _ _ R5.out).mono ?_
  rintro e w6 ⟨v14, rfl, o, b⟩
  replace R5 := hid (R5.out.below b)
  replace R6 := hid (R6.out.below b)
  replace R8 := hid (R8.out.below b)
  have B : Hid (Below w.heap.size w w6) := B.out.trans (b.mono B.out.size)
  clear b
  have R14 := hid o.reads
  clear o
  go_wp2_with fail
  refine (SS.out _ _ R5.out).mono ?_
  rintro e w7 ⟨v16, rfl, o, b⟩
  replace R5 := hid (R5.out.below b)
  replace R6 := hid (R6.out.below b)
  replace R8 := hid (R8.out.below b)
  replace R14 := hid (R14.out.below b)
  have B : Hid (Below w.heap.size w w7) := B.out.trans (b.mono B.out.size)
  clear b
  have R16 := hid o.reads
  clear o
  obtain ⟨a14, c14, rfl, _, _⟩ := R14.out
  have dt0 : (t != t) = false := by simp
  have dsn : (sn != sn) = false := by simp
  go_wp2_with fail
  refine (sameWorks_same _ _ (makeY xs) _ R6.out R8.out).mono ?_
  rintro e w8 ⟨rfl, b⟩
  replace R5 := hid (R5.out.below b)
  replace R6 := hid (R6.out.below b)
  replace R8 := hid (R8.out.below b)
  replace R14 := hid (R14.out.below b)
  replace R16 := hid (R16.out.below b)
  have B : Hid (Below w.heap.size w w8) := B.out.trans (b.mono B.out.size)
  clear b
  go_wp2_with fail
  refine (sameWorks_same _ _ (sortY xs) _ R14.out R16.out).mono ?_
  rintro e w9 ⟨rfl, b⟩
  replace R5 := hid (R5.out.below b)
  replace R6 := hid (R6.out.below b)
  replace R14 := hid (R14.out.below b)
  have B : Hid (Below w.heap.size w w9) := B.out.trans (b.mono B.out.size)
  clear b
  clear R8 R16
  cases t
  · have CM := hid (HC1.out.later B.out)
    go_wp2_with fail
    refine (drawLess_any _ _ CM.out).mono ?_
    rintro e y1 ⟨x, y, rfl, c1⟩
    have D1 : Hid (Below w.heap.size w y1) := B.out.trans (c1.mono B.out.size)
    clear c1 CM
    obtain ⟨Y, hY⟩ : ∃ Y, Y = (y1.alloc (.cells #[.int .i64 x.1, .int .i64 x.2.1, .int .i64 x.2.2] 48)).alloc (.cells #[.int .i64 y.1, .int .i64 y.2.1, .int .i64 y.2.2] 48) := ⟨_, rfl⟩
    have hsY : y1.heap.size + 2 = Y.heap.size := by rw [hY]; simp
    have DY : Hid (Below w.heap.size w Y) := by rw [hY]; exact (D1.out.alloc D1.out.size _).alloc (by have := D1.out.size; simp; omega) _
    have PX : Hid (WkCells Y y1.heap.size 0 x) := by
      rw [hY]
      exact (alloc3 y1 x).1.below ((Below.refl (y1.heap.size + 1) _).alloc (by simp) _) (by omega)
    have PY : Hid (WkCells Y (y1.heap.size + 1) 0 y) := by
      have := (alloc3 (y1.alloc (.cells #[.int .i64 x.1, .int .i64 x.2.1, .int .i64 x.2.2] 48)) y).1
      rw [hY]
      simp only [World.size_alloc] at this
      exact this
    have HYY := hid hY
    obtain ⟨tt, htt⟩ : ∃ t, (wkB x && wkB y) = t := ⟨_, rfl⟩
    obtain ⟨u, hu⟩ : ∃ u, lessR x y = u := ⟨_, rfl⟩
    obtain ⟨u2, hu2⟩ : ∃ u, lessR y x = u := ⟨_, rfl⟩
    have LI : Hid (∀ wq, Calls Try.prog 32 #[.agg #[.int .i64 x.1, .int .i64 x.2.1, .int .i64 x.2.2], .agg #[.int .i64 y.1, .int .i64 y.2.1, .int .i64 y.2.2]] wq fun e w' => e = .returned (.tuple #[.bool u, .bool tt]) ∧ Below wq.heap.size wq w') := fun wq => by rw [← hu, ← htt]; exact iLessWork_any x y wq
    have LS : Hid (∀ wq, Calls Try.prog 47 #[.agg #[.int .i64 x.1, .int .i64 x.2.1, .int .i64 x.2.2], .agg #[.int .i64 y.1, .int .i64 y.2.1, .int .i64 y.2.2]] wq fun e w' => e = .returned (.tuple #[.bool u, .bool tt]) ∧ Below wq.heap.size wq w') := fun wq => by rw [← hu, ← htt]; exact sLessWork_any x y wq
    have LO : Hid (∀ wq, Calls Try.prog 32 #[.agg #[.int .i64 y.1, .int .i64 y.2.1, .int .i64 y.2.2], .agg #[.int .i64 x.1, .int .i64 x.2.1, .int .i64 x.2.2]] wq fun e w' => e = .returned (.tuple #[.bool u2, .bool tt]) ∧ Below wq.heap.size wq w') := fun wq => by rw [← hu2, ← htt, Bool.and_comm (wkB x)]; exact iLessWork_any y x wq
    have HTU : Hid (tt = true → (u = lessB x y ∧ u2 = lessB y x)) := fun e => by
      rw [e] at htt
      have h2 := htt
      rw [Bool.and_comm] at h2
      rw [← hu, ← hu2]
      unfold lessR
      rw [htt, h2]
      exact ⟨rfl, rfl⟩
    have du : (u != u) = false := by simp
    have dt : (tt != tt) = false := by simp
    obtain ⟨p0, p1, p2⟩ := PX.out
    obtain ⟨q0, q1, q2⟩ := PY.out
    clear hY htt hu hu2
    go_wp2_with fail
    rw [← HYY.out]
    refine (LI.out _).mono ?_
    rintro e y2 ⟨rfl, c2⟩
    have D2 : Hid (Below w.heap.size w y2) := DY.out.trans (c2.mono DY.out.size)
    have PX2 := hid (PX.out.below c2 PX.out.lt)
    have PY2 := hid (PY.out.below c2 PY.out.lt)
    clear c2 p0 p1 p2 q0 q1 q2
    obtain ⟨p0, p1, p2⟩ := PX2.out
    obtain ⟨q0, q1, q2⟩ := PY2.out
    go_wp2_with fail
    refine (LS.out _).mono ?_
    rintro e y3 ⟨rfl, c3⟩
    have D3 : Hid (Below w.heap.size w y3) := D2.out.trans (c3.mono D2.out.size)
    have PX3 := hid (PX2.out.below c3 PX2.out.lt)
    have PY3 := hid (PY2.out.below c3 PY2.out.lt)
    clear c3 p0 p1 p2 q0 q1 q2
    obtain ⟨p0, p1, p2⟩ := PX3.out
    obtain ⟨q0, q1, q2⟩ := PY3.out
    cases tt
    · go_wp2
      go_ret
      exact ⟨rfl, D3.out⟩
    · go_wp2_with fail
      refine (LO.out _).mono ?_
      rintro e y4 ⟨rfl, c4⟩
      have D4 : Hid (Below w.heap.size w y4) := D3.out.trans (c4.mono D3.out.size)
      have PX4 := hid (PX3.out.below c4 PX3.out.lt)
      have PY4 := hid (PY3.out.below c4 PY3.out.lt)
      clear c4 p0 p1 p2 q0 q1 q2
      obtain ⟨hu1, hu2⟩ : u = lessB x y ∧ u2 = lessB y x := HTU.out (by simp)
      have HUU := hid (And.intro hu1 hu2)
      clear hu1 hu2
      cases u
      · cases u2
        · have hxy : x = y := lessB_total HUU.out.1.symm HUU.out.2.symm
          subst hxy
          obtain ⟨p0, p1, p2⟩ := PX4.out
          obtain ⟨q0, q1, q2⟩ := PY4.out
          go_wp2
          go_ret
          exact ⟨rfl, D4.out⟩
        · go_wp2
          go_ret
          exact ⟨rfl, D4.out⟩
      · cases u2
        · go_wp2
          go_ret
          exact ⟨rfl, D4.out⟩
        · exfalso
          have h1 := HUU.out.1
          have h2 := HUU.out.2
          rw [lessB_asymm h1.symm] at h2
          cases h2
  · have hgl := goodW_len HT.out
    have HY : Hid (makeY xs = (makeL xs).1) := by show _ = _; unfold makeY; rw [if_pos HT.out]
    have HS : Hid (sortY xs = sortL xs) := by show _ = _; unfold sortY; rw [if_pos HT.out]
    rw [HY.out] at R6
    have hsl : (sortY xs).length = xs.length := by rw [HS.out]; exact sortL_len xs
    rw [hsl]
    rw [HS.out] at R14
    rw [sortL_len] at R14
    have HSTP : Hid (0 ≤ sn ∧ sn ≤ (xs.length : Int) ∧ (0 < xs.length → sn < (xs.length : Int))) := by
      rw [← HSN.out, makeN_of HT.out]
      by_cases h0 : 0 < xs.length
      · have := makeL_steps xs hgl h0
        exact ⟨by omega, by omega, fun _ => by omega⟩
      · have he : xs = [] := List.eq_nil_of_length_eq_zero (by omega)
        rw [he]
        exact ⟨by decide, by decide, fun h => by simp at h⟩
    have IH : Hid (∀ v w, WkReads w v (makeL xs).1 → Calls Try.prog 29 #[v] w fun e w' => e = .returned (.tuple #[.bool true, .bool true]) ∧ Below w.heap.size w w') := fun v w h => by
      have hgm : goodW (makeL xs).1 = true := goodW_of_many (fun x hx => by rw [many_makeL] at hx; exact hx) (by rw [makeL_len]; exact hgl) HT.out
      have := iIsHeap_any v (makeL xs).1 w h
      rw [hgm, makeL_heap] at this
      exact this
    clear hsl
    go_wp2_with fail
    refine (IH.out _ _ R6.out).mono ?_
    rintro e w10 ⟨rfl, b⟩
    replace R5 := hid (R5.out.below b)
    replace R6 := hid (R6.out.below b)
    replace R14 := hid (R14.out.below b)
    have B : Hid (Below w.heap.size w w10) := B.out.trans (b.mono B.out.size)
    clear b
    have k1 : sn ≤ (xs.length : Int) := HSTP.out.2.1
    have dk1 : decide ((xs.length : Int) < sn) = false := by simp; omega
    have dnn : ((xs.length : Int) != (xs.length : Int)) = false := by simp
    by_cases h0 : 0 < xs.length
    · have dk0 : decide ((0 : Int) < (xs.length : Int)) = true := by simp; exact h0
      have k2 : sn < (xs.length : Int) := HSTP.out.2.2 h0
      have dk2 : decide ((xs.length : Int) ≤ sn) = false := by simp; omega
      go_wp2
      go_loopw [146] (fun i wr => ∃ k : Nat, k ≤ xs.length ∧ i = .int .i64 k ∧ WkReads wr (.slice a5 xs.length c5) xs ∧ WkReads wr v6 (makeL xs).1 ∧ WkReads wr (.slice a14 xs.length c14) (sortL xs) ∧ Below w.heap.size w wr) (fun i _ => xs.length - (intOf i).toNat)
      case atStart => exact ⟨0, Nat.zero_le _, rfl, R5.out, R6.out, R14.out, B.out⟩
      case round =>
        obtain ⟨k, hk, rfl, r5, r6, r14, bel⟩ := hrel
        replace R5 := hid r5
        replace R6 := hid r6
        replace R14 := hid r14
        have B := hid bel
        clear r5 r6 r14 bel
        by_cases hlt : k < xs.length
        · have hkn : (k : Int) < (xs.length : Int) := by omega
          have hk0 : (0 : Int) ≤ (k : Int) := by omega
          have hsl := sortL_len xs
          obtain ⟨g, o, cap', e, hcc⟩ := R14.out.cells k (by rw [hsl]; exact hlt)
          have he : a14 = some ⟨g, o, none⟩ := by simp only [Value.slice.injEq] at e; exact e.1
          subst he
          clear e
          obtain ⟨z, hz0⟩ : ∃ z, z = (sortL xs).getD k wz := ⟨_, rfl⟩
          have hzm : z ∈ sortL xs := by rw [hz0]; exact getD_mem _ k (by rw [hsl]; exact hlt)
          obtain ⟨c0, c1, c2⟩ : WkCells wr g (o + k * 3) z := by rw [hz0]; exact hcc k (by rw [hsl]; exact hlt)
          have hgr : g < wr.heap.size := lt_of_cell c0
          have HZG : Hid (wkB z = true) := goodW_wk HT.out z (by have h1 := mem_many.2 hzm; rw [many_sortL] at h1; exact mem_many.1 h1)
          obtain ⟨c, hc⟩ : ∃ c, c = many xs z := ⟨_, rfl⟩
          have dcc : ((c : Int) != (c : Int)) = false := by simp
          obtain ⟨WB, hWB⟩ : ∃ WB, WB = wr.alloc (.cells #[.int .i64 z.1, .int .i64 z.2.1, .int .i64 z.2.2] 48) := ⟨_, rfl⟩
          have bWB : Below wr.heap.size wr WB := by rw [hWB]; exact (Below.refl _ _).alloc (Nat.le_refl _) _
          have hsB : wr.heap.size < WB.heap.size := by rw [hWB]; simp
          have PB : Hid (WkCells WB wr.heap.size 0 z) := by rw [hWB]; exact (alloc3 wr z).1
          have R5B := hid (R5.out.below bWB)
          have R6B := hid (R6.out.below bWB)
          have R14B := hid (R14.out.below bWB)
          have BB : Hid (Below w.heap.size w WB) := B.out.trans (bWB.mono B.out.size)
          have HM : Hid (∀ v wq, (v = .slice a5 xs.length c5 ∨ v = v6 ∨ v = .slice (some ⟨g, o, none⟩) xs.length c14) → Below WB.heap.size WB wq → Calls Try.prog 31 #[v, .agg #[.int .i64 z.1, .int .i64 z.2.1, .int .i64 z.2.2]] wq fun e w' => e = .returned (.int .i64 c) ∧ Below wq.heap.size wq w') := fun v wq hv hq => by
            rcases hv with rfl | rfl | rfl
            · exact manyOf_any _ xs z c hc wq (R5B.out.below hq) (by omega)
            · exact manyOf_any _ (makeL xs).1 z c (by rw [many_makeL]; exact hc) wq (R6B.out.below hq) (by rw [makeL_len]; omega)
            · exact manyOf_any _ (sortL xs) z c (by rw [many_sortL]; exact hc) wq (R14B.out.below hq) (by rw [hsl]; omega)
          have HCC := hid hcc
          have HZ0 := hid hz0
          have HWB := hid hWB
          have HSL := hid hsl
          obtain ⟨q0, q1, q2⟩ := PB.out
          have qX : Below WB.heap.size WB WB.drew := (Below.refl _ _).drew
          clear hcc hz0 hzm hc hWB bWB hsl
          go_upto_region 19 with fail
          rw [← HWB.out]
          go_region_held3 (fun w' => w'.cell? ⟨wr.heap.size, 0, none⟩ = some (.int .i64 z.1) ∧ w'.cell? ⟨wr.heap.size, 1, none⟩ = some (.int .i64 z.2.1) ∧ w'.cell? ⟨wr.heap.size, 2, none⟩ = some (.int .i64 z.2.2) ∧ Below WB.heap.size WB w') (first | (refine ⟨?_, ?_, ?_, ?_⟩ <;> assumption) | exact ⟨q0, q1, q2, qX⟩)
            (first | (go_at_call 31; refine (HM.out _ _ (by first | exact .inl rfl | exact .inr (.inl rfl) | exact .inr (.inr rfl)) (by first | assumption | exact (by assumption : _ ∧ _ ∧ _ ∧ Below WB.heap.size WB _).2.2.2)).mono ?_; rintro e wt ⟨rfl, b⟩; have qX := Below.trans (show Below WB.heap.size WB _ by first | assumption | exact (by assumption : _ ∧ _ ∧ _ ∧ Below WB.heap.size WB _).2.2.2) (b.mono (Below.size (show Below WB.heap.size WB _ by first | assumption | exact (by assumption : _ ∧ _ ∧ _ ∧ Below WB.heap.size WB _).2.2.2))); have q0 := (PB.out.below qX hsB).1; have q1 := (PB.out.below qX hsB).2.1; have q2 := (PB.out.below qX hsB).2.2; clear b))
          have QX := hid qX
          have R5t := hid (R5B.out.below qX)
          have R6t := hid (R6B.out.below qX)
          have R14t := hid (R14B.out.below qX)
          have Dt : Hid (Below w.heap.size w wt) := BB.out.trans (qX.mono BB.out.size)
          have PT := hid (PB.out.below qX hsB)
          clear c0 c1 c2 qX R5 R6 R14 R5B R6B R14B B
          have hsT : wr.heap.size < wt.heap.size := lt_of_cell q0
          by_cases hkp : 0 < k
          · have dkp : decide ((0 : Int) < (k : Int)) = true := by simp; exact hkp
            obtain ⟨k1, hk1⟩ : ∃ k1, k1 = k - 1 := ⟨_, rfl⟩
            have r1 : (k : Int) - 1 = (k1 : Int) := by omega
            have rw1 : IntKind.i64.wrap (k1 : Int) = (k1 : Int) := by rw [IntKind.wrap_i64]; omega
            have n0 : (0 : Int) ≤ (k1 : Int) := by omega
            have n1 : (k1 : Int) < (xs.length : Int) := by omega
            obtain ⟨y, hy0⟩ : ∃ y, y = (sortL xs).getD k1 wz := ⟨_, rfl⟩
            have hym : y ∈ sortL xs := by rw [hy0]; exact getD_mem _ k1 (by rw [HSL.out]; omega)
            obtain ⟨d0, d1, d2⟩ : WkCells wt g (o + k1 * 3) y := by
              obtain ⟨g', o', cap'', e, hcc⟩ := R14t.out.cells k1 (by rw [HSL.out]; omega)
              simp only [Value.slice.injEq, Option.some.injEq, Addr.mk.injEq] at e
              obtain ⟨⟨rfl, rfl, _⟩, _⟩ := e
              rw [hy0]
              exact hcc k1 (by rw [HSL.out]; omega)
            have LW : Hid (∀ wq, Calls Try.prog 32 #[.agg #[.int .i64 z.1, .int .i64 z.2.1, .int .i64 z.2.2], .agg #[.int .i64 y.1, .int .i64 y.2.1, .int .i64 y.2.2]] wq fun e w' => e = .returned (.tuple #[.bool false, .bool true]) ∧ Below wq.heap.size wq w') := fun wq => by
              have hyg : wkB y = true := goodW_wk HT.out y (by have h1 := mem_many.2 hym; rw [many_sortL] at h1; exact mem_many.1 h1)
              have hzy : lessB z y = false := by rw [HZ0.out, hy0]; exact sortL_sorted xs k1 k (by omega) (by rw [HSL.out]; exact hlt)
              have := iLessWork_any z y wq
              unfold lessR at this
              rw [HZG.out, hyg, hzy] at this
              exact this
            have hgt : g < wt.heap.size := lt_of_cell d0
            clear hy0 hym hk1
            go_wp2_with fail
            go_region_held3 (fun w' => (w'.cell? ⟨wr.heap.size, 0, none⟩ = some (.int .i64 z.1) ∧ w'.cell? ⟨wr.heap.size, 1, none⟩ = some (.int .i64 z.2.1) ∧ w'.cell? ⟨wr.heap.size, 2, none⟩ = some (.int .i64 z.2.2)) ∧ w'.cell? ⟨g, o + k1 * 3, none⟩ = some (.int .i64 y.1) ∧ w'.cell? ⟨g, o + k1 * 3 + 1, none⟩ = some (.int .i64 y.2.1) ∧ w'.cell? ⟨g, o + k1 * 3 + 2, none⟩ = some (.int .i64 y.2.2)) (go_keep)
              (first | (go_at_call 32; refine (LW.out _).mono ?_; rintro e w4 ⟨rfl, b4⟩; obtain ⟨e0, e1, e2⟩ := WkCells.below (show WkCells wt.drew wr.heap.size 0 z from ⟨q0, q1, q2⟩) b4 hsT; obtain ⟨e3, e4, e5⟩ := WkCells.below (show WkCells wt.drew g (o + k1 * 3) y from ⟨d0, d1, d2⟩) b4 hgt))
            have b5 : Below wt.heap.size wt w4 := (Below.refl _ _).drew.trans b4
            have R5u := hid (R5t.out.below b5)
            have R6u := hid (R6t.out.below b5)
            have R14u := hid (R14t.out.below b5)
            have Du : Hid (Below w.heap.size w w4) := Dt.out.trans (b5.mono Dt.out.size)
            clear b4 b5 e0 e1 e2 e3 e4 e5 q0 q1 q2 d0 d1 d2
            go_wp2
            go_roundw
            case rel => exact ⟨k + 1, by omega, by go_num, R5u.out, R6u.out, R14u.out, Du.out⟩
            case measure => simp [intOf]; omega
          · have dkp : decide ((0 : Int) < (k : Int)) = false := by simp; omega
            clear q0 q1 q2
            go_wp2
            go_roundw
            case rel => exact ⟨k + 1, by omega, by go_num, R5t.out, R6t.out, R14t.out, Dt.out⟩
            case measure => simp [intOf]; omega
        · have CM := hid (HC1.out.later B.out)
          go_wp2_with fail
          refine (drawLess_any _ _ CM.out).mono ?_
          rintro e y1 ⟨x, y, rfl, c1⟩
          have D1 : Hid (Below w.heap.size w y1) := B.out.trans (c1.mono B.out.size)
          clear c1 CM
          obtain ⟨Y, hY⟩ : ∃ Y, Y = (y1.alloc (.cells #[.int .i64 x.1, .int .i64 x.2.1, .int .i64 x.2.2] 48)).alloc (.cells #[.int .i64 y.1, .int .i64 y.2.1, .int .i64 y.2.2] 48) := ⟨_, rfl⟩
          have hsY : y1.heap.size + 2 = Y.heap.size := by rw [hY]; simp
          have DY : Hid (Below w.heap.size w Y) := by rw [hY]; exact (D1.out.alloc D1.out.size _).alloc (by have := D1.out.size; simp; omega) _
          have PX : Hid (WkCells Y y1.heap.size 0 x) := by
            rw [hY]
            exact (alloc3 y1 x).1.below ((Below.refl (y1.heap.size + 1) _).alloc (by simp) _) (by omega)
          have PY : Hid (WkCells Y (y1.heap.size + 1) 0 y) := by
            have := (alloc3 (y1.alloc (.cells #[.int .i64 x.1, .int .i64 x.2.1, .int .i64 x.2.2] 48)) y).1
            rw [hY]
            simp only [World.size_alloc] at this
            exact this
          have HYY := hid hY
          obtain ⟨tt, htt⟩ : ∃ t, (wkB x && wkB y) = t := ⟨_, rfl⟩
          obtain ⟨u, hu⟩ : ∃ u, lessR x y = u := ⟨_, rfl⟩
          obtain ⟨u2, hu2⟩ : ∃ u, lessR y x = u := ⟨_, rfl⟩
          have LI : Hid (∀ wq, Calls Try.prog 32 #[.agg #[.int .i64 x.1, .int .i64 x.2.1, .int .i64 x.2.2], .agg #[.int .i64 y.1, .int .i64 y.2.1, .int .i64 y.2.2]] wq fun e w' => e = .returned (.tuple #[.bool u, .bool tt]) ∧ Below wq.heap.size wq w') := fun wq => by rw [← hu, ← htt]; exact iLessWork_any x y wq
          have LS : Hid (∀ wq, Calls Try.prog 47 #[.agg #[.int .i64 x.1, .int .i64 x.2.1, .int .i64 x.2.2], .agg #[.int .i64 y.1, .int .i64 y.2.1, .int .i64 y.2.2]] wq fun e w' => e = .returned (.tuple #[.bool u, .bool tt]) ∧ Below wq.heap.size wq w') := fun wq => by rw [← hu, ← htt]; exact sLessWork_any x y wq
          have LO : Hid (∀ wq, Calls Try.prog 32 #[.agg #[.int .i64 y.1, .int .i64 y.2.1, .int .i64 y.2.2], .agg #[.int .i64 x.1, .int .i64 x.2.1, .int .i64 x.2.2]] wq fun e w' => e = .returned (.tuple #[.bool u2, .bool tt]) ∧ Below wq.heap.size wq w') := fun wq => by rw [← hu2, ← htt, Bool.and_comm (wkB x)]; exact iLessWork_any y x wq
          have HTU : Hid (tt = true → (u = lessB x y ∧ u2 = lessB y x)) := fun e => by
            rw [e] at htt
            have h2 := htt
            rw [Bool.and_comm] at h2
            rw [← hu, ← hu2]
            unfold lessR
            rw [htt, h2]
            exact ⟨rfl, rfl⟩
          have du : (u != u) = false := by simp
          have dt : (tt != tt) = false := by simp
          obtain ⟨p0, p1, p2⟩ := PX.out
          obtain ⟨q0, q1, q2⟩ := PY.out
          clear hY htt hu hu2
          go_wp2_with fail
          rw [← HYY.out]
          refine (LI.out _).mono ?_
          rintro e y2 ⟨rfl, c2⟩
          have D2 : Hid (Below w.heap.size w y2) := DY.out.trans (c2.mono DY.out.size)
          have PX2 := hid (PX.out.below c2 PX.out.lt)
          have PY2 := hid (PY.out.below c2 PY.out.lt)
          clear c2 p0 p1 p2 q0 q1 q2
          obtain ⟨p0, p1, p2⟩ := PX2.out
          obtain ⟨q0, q1, q2⟩ := PY2.out
          go_wp2_with fail
          refine (LS.out _).mono ?_
          rintro e y3 ⟨rfl, c3⟩
          have D3 : Hid (Below w.heap.size w y3) := D2.out.trans (c3.mono D2.out.size)
          have PX3 := hid (PX2.out.below c3 PX2.out.lt)
          have PY3 := hid (PY2.out.below c3 PY2.out.lt)
          clear c3 p0 p1 p2 q0 q1 q2
          obtain ⟨p0, p1, p2⟩ := PX3.out
          obtain ⟨q0, q1, q2⟩ := PY3.out
          cases tt
          · go_wp2
            go_ret
            exact ⟨rfl, D3.out⟩
          · go_wp2_with fail
            refine (LO.out _).mono ?_
            rintro e y4 ⟨rfl, c4⟩
            have D4 : Hid (Below w.heap.size w y4) := D3.out.trans (c4.mono D3.out.size)
            have PX4 := hid (PX3.out.below c4 PX3.out.lt)
            have PY4 := hid (PY3.out.below c4 PY3.out.lt)
            clear c4 p0 p1 p2 q0 q1 q2
            obtain ⟨hu1, hu2⟩ : u = lessB x y ∧ u2 = lessB y x := HTU.out (by simp)
            have HUU := hid (And.intro hu1 hu2)
            clear hu1 hu2
            cases u
            · cases u2
              · have hxy : x = y := lessB_total HUU.out.1.symm HUU.out.2.symm
                subst hxy
                obtain ⟨p0, p1, p2⟩ := PX4.out
                obtain ⟨q0, q1, q2⟩ := PY4.out
                go_wp2
                go_ret
                exact ⟨rfl, D4.out⟩
              · go_wp2
                go_ret
                exact ⟨rfl, D4.out⟩
            · cases u2
              · go_wp2
                go_ret
                exact ⟨rfl, D4.out⟩
              · exfalso
                have h1 := HUU.out.1
                have h2 := HUU.out.2
                rw [lessB_asymm h1.symm] at h2
                cases h2
    · have dk0 : decide ((0 : Int) < (xs.length : Int)) = false := by simp; exact List.eq_nil_of_length_eq_zero (by omega)
      go_wp2
      go_loopw [146] (fun i wr => ∃ k : Nat, k ≤ xs.length ∧ i = .int .i64 k ∧ WkReads wr (.slice a5 xs.length c5) xs ∧ WkReads wr v6 (makeL xs).1 ∧ WkReads wr (.slice a14 xs.length c14) (sortL xs) ∧ Below w.heap.size w wr) (fun i _ => xs.length - (intOf i).toNat)
      case atStart => exact ⟨0, Nat.zero_le _, rfl, R5.out, R6.out, R14.out, B.out⟩
      case round =>
        obtain ⟨k, hk, rfl, r5, r6, r14, bel⟩ := hrel
        replace R5 := hid r5
        replace R6 := hid r6
        replace R14 := hid r14
        have B := hid bel
        clear r5 r6 r14 bel
        by_cases hlt : k < xs.length
        · exact absurd hlt (by omega)
        · have CM := hid (HC1.out.later B.out)
          go_wp2_with fail
          refine (drawLess_any _ _ CM.out).mono ?_
          rintro e y1 ⟨x, y, rfl, c1⟩
          have D1 : Hid (Below w.heap.size w y1) := B.out.trans (c1.mono B.out.size)
          clear c1 CM
          obtain ⟨Y, hY⟩ : ∃ Y, Y = (y1.alloc (.cells #[.int .i64 x.1, .int .i64 x.2.1, .int .i64 x.2.2] 48)).alloc (.cells #[.int .i64 y.1, .int .i64 y.2.1, .int .i64 y.2.2] 48) := ⟨_, rfl⟩
          have hsY : y1.heap.size + 2 = Y.heap.size := by rw [hY]; simp
          have DY : Hid (Below w.heap.size w Y) := by rw [hY]; exact (D1.out.alloc D1.out.size _).alloc (by have := D1.out.size; simp; omega) _
          have PX : Hid (WkCells Y y1.heap.size 0 x) := by
            rw [hY]
            exact (alloc3 y1 x).1.below ((Below.refl (y1.heap.size + 1) _).alloc (by simp) _) (by omega)
          have PY : Hid (WkCells Y (y1.heap.size + 1) 0 y) := by
            have := (alloc3 (y1.alloc (.cells #[.int .i64 x.1, .int .i64 x.2.1, .int .i64 x.2.2] 48)) y).1
            rw [hY]
            simp only [World.size_alloc] at this
            exact this
          have HYY := hid hY
          obtain ⟨tt, htt⟩ : ∃ t, (wkB x && wkB y) = t := ⟨_, rfl⟩
          obtain ⟨u, hu⟩ : ∃ u, lessR x y = u := ⟨_, rfl⟩
          obtain ⟨u2, hu2⟩ : ∃ u, lessR y x = u := ⟨_, rfl⟩
          have LI : Hid (∀ wq, Calls Try.prog 32 #[.agg #[.int .i64 x.1, .int .i64 x.2.1, .int .i64 x.2.2], .agg #[.int .i64 y.1, .int .i64 y.2.1, .int .i64 y.2.2]] wq fun e w' => e = .returned (.tuple #[.bool u, .bool tt]) ∧ Below wq.heap.size wq w') := fun wq => by rw [← hu, ← htt]; exact iLessWork_any x y wq
          have LS : Hid (∀ wq, Calls Try.prog 47 #[.agg #[.int .i64 x.1, .int .i64 x.2.1, .int .i64 x.2.2], .agg #[.int .i64 y.1, .int .i64 y.2.1, .int .i64 y.2.2]] wq fun e w' => e = .returned (.tuple #[.bool u, .bool tt]) ∧ Below wq.heap.size wq w') := fun wq => by rw [← hu, ← htt]; exact sLessWork_any x y wq
          have LO : Hid (∀ wq, Calls Try.prog 32 #[.agg #[.int .i64 y.1, .int .i64 y.2.1, .int .i64 y.2.2], .agg #[.int .i64 x.1, .int .i64 x.2.1, .int .i64 x.2.2]] wq fun e w' => e = .returned (.tuple #[.bool u2, .bool tt]) ∧ Below wq.heap.size wq w') := fun wq => by rw [← hu2, ← htt, Bool.and_comm (wkB x)]; exact iLessWork_any y x wq
          have HTU : Hid (tt = true → (u = lessB x y ∧ u2 = lessB y x)) := fun e => by
            rw [e] at htt
            have h2 := htt
            rw [Bool.and_comm] at h2
            rw [← hu, ← hu2]
            unfold lessR
            rw [htt, h2]
            exact ⟨rfl, rfl⟩
          have du : (u != u) = false := by simp
          have dt : (tt != tt) = false := by simp
          obtain ⟨p0, p1, p2⟩ := PX.out
          obtain ⟨q0, q1, q2⟩ := PY.out
          clear hY htt hu hu2
          go_wp2_with fail
          rw [← HYY.out]
          refine (LI.out _).mono ?_
          rintro e y2 ⟨rfl, c2⟩
          have D2 : Hid (Below w.heap.size w y2) := DY.out.trans (c2.mono DY.out.size)
          have PX2 := hid (PX.out.below c2 PX.out.lt)
          have PY2 := hid (PY.out.below c2 PY.out.lt)
          clear c2 p0 p1 p2 q0 q1 q2
          obtain ⟨p0, p1, p2⟩ := PX2.out
          obtain ⟨q0, q1, q2⟩ := PY2.out
          go_wp2_with fail
          refine (LS.out _).mono ?_
          rintro e y3 ⟨rfl, c3⟩
          have D3 : Hid (Below w.heap.size w y3) := D2.out.trans (c3.mono D2.out.size)
          have PX3 := hid (PX2.out.below c3 PX2.out.lt)
          have PY3 := hid (PY2.out.below c3 PY2.out.lt)
          clear c3 p0 p1 p2 q0 q1 q2
          obtain ⟨p0, p1, p2⟩ := PX3.out
          obtain ⟨q0, q1, q2⟩ := PY3.out
          cases tt
          · go_wp2
            go_ret
            exact ⟨rfl, D3.out⟩
          · go_wp2_with fail
            refine (LO.out _).mono ?_
            rintro e y4 ⟨rfl, c4⟩
            have D4 : Hid (Below w.heap.size w y4) := D3.out.trans (c4.mono D3.out.size)
            have PX4 := hid (PX3.out.below c4 PX3.out.lt)
            have PY4 := hid (PY3.out.below c4 PY3.out.lt)
            clear c4 p0 p1 p2 q0 q1 q2
            obtain ⟨hu1, hu2⟩ : u = lessB x y ∧ u2 = lessB y x := HTU.out (by simp)
            have HUU := hid (And.intro hu1 hu2)
            clear hu1 hu2
            cases u
            · cases u2
              · have hxy : x = y := lessB_total HUU.out.1.symm HUU.out.2.symm
                subst hxy
                obtain ⟨p0, p1, p2⟩ := PX4.out
                obtain ⟨q0, q1, q2⟩ := PY4.out
                go_wp2
                go_ret
                exact ⟨rfl, D4.out⟩
              · go_wp2
                go_ret
                exact ⟨rfl, D4.out⟩
            · cases u2
              · go_wp2
                go_ret
                exact ⟨rfl, D4.out⟩
              · exfalso
                have h1 := HUU.out.1
                have h2 := HUU.out.2
                rw [lessB_asymm h1.symm] at h2
                cases h2
end Go.Proofs.Ytndbdioignmaeaa
