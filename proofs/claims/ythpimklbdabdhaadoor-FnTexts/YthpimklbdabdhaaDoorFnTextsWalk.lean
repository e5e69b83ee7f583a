/-
  The law FnTexts answers true at every input.
-/
import Derived.Test.YthpimklbdabdhaaDoorDrawTexts
import Derived.Test.YthpimklbdabdhaaDoorTextRound
import Derived.Test.YthpimklbdabdhaaDoorPutListCases
import Derived.Test.YthpimklbdabdhaaDoorSGetList
import Derived.Test.YthpimklbdabdhaaDoorGetList
import Derived.Test.YthpimklbdabdhaaDoorGetText
import Derived.Test.YthpimklbdabdhaaDoorSameInts
import Derived.Test.YthpimklbdabdhaaDoorLaid
import Derived.OpenShut
namespace Go.Proofs.YthpimklbdabdhaaDoor
open Go.RowKit

theorem code_of_row {w : World} {a : Option Addr} {len cap : Nat} {zs : List Int} (h : IsRow .u8 w a len cap zs) (hl : len ≤ 1048576) : CodeOk w.heap.size w (.slice a len cap) := by
  rcases h with ⟨rfl, rfl, rfl, rfl⟩ | ⟨x, rfl, hlc, hcm, hz, hcell, hwf⟩
  · exact ⟨none, 0, 0, rfl, by omega, .inl rfl⟩
  · refine ⟨some x, len, cap, rfl, hl, ?_⟩
    by_cases h0 : len = 0
    · exact .inl h0
    · right
      obtain ⟨b, off, spot⟩ := x
      have hspot : spot = none := by simpa [Addr.add] using World.cell?_spot (hcell 0 (by omega))
      subst hspot
      have hc : ∀ i, i < len → w.cell? ⟨b, off + i, none⟩ = some (.int .u8 (zs.getD i 0)) := fun i hi => by
        have := hcell i (by omega)
        rcases i with _ | i <;> simpa [Addr.add] using this
      refine ⟨b, off, rfl, lt_of_cell (hc 0 (by omega)), fun i hi => ?_⟩
      have hr := range_u8 hwf i
      refine ⟨(zs.getD i 0).toNat, ?_, ?_⟩
      · rw [List.getD_eq_getElem?_getD]; omega
      · rw [hc i hi, List.getD_eq_getElem?_getD]
        congr 2
        omega

set_option maxHeartbeats 8000000 in
set_option maxRecDepth 100000 in
theorem FnTexts_walk (a0 : Option Addr) (len0 cap0 : Nat) (z0 : List Int) (a1 : Option Addr) (len1 cap1 : Nat) (z1 : List Int) (w : World) (hT : Tab w) (hr0 : IsRow .u8 w a0 len0 cap0 z0) (hr1 : IsRow .u8 w a1 len1 cap1 z1)
    (b0 : cap0 * 1 ≤ 140737488351232) (b1 : cap1 * 1 ≤ 140737488351232) :
    Calls Tryd.prog 4 #[.slice a0 len0 cap0, .slice a1 len1 cap1] w fun e w' => e = .returned (.bool true) ∧ Below w.heap.size w w' := by
  have l0 : len0 ≤ cap0 := by rcases hr0 with ⟨_, rfl, rfl, _⟩ | ⟨x, _, h, _⟩ <;> omega
  have l1 : len1 ≤ cap1 := by rcases hr1 with ⟨_, rfl, rfl, _⟩ | ⟨x, _, h, _⟩ <;> omega
  have hw0 := hT.lt
  have HT := hid hT
  by_cases hl : (1048576 : Int) < (len0 : Int) + (len1 : Int)
  · clear hr0 hr1 hT
    go_enter Tryd.func4, Tryd.ntmps4
    go_wp2
    go_ret
    exact ⟨rfl, Below.refl _ _⟩
  have K0 := hid (code_of_row hr0 (by omega))
  have K1 := hid (code_of_row hr1 (by omega))
  clear hr0 hr1 hT
  go_enter Tryd.func4, Tryd.ntmps4
  go_wp2_with fail
  refine (drawPutList_any _ _ K0.out).mono ?_
  rintro e w1 ⟨vl, xs, hx61, rfl, o1, b1⟩
  have O1 := hid o1; have B1 := hid b1; have T1 := hid (HT.out.below b1 hw0); clear b1 o1
  by_cases hn : xs.length ≤ 60 ∧ allIn xs 0 1152921504606846975
  case' pos =>
    obtain ⟨h60, hall⟩ := hn
    have HA := hid hall
    have hlr : Hid (listR (catB xs) = some xs) := list_cat xs h60 (all_of_allIn hall)
    have hcs : (catB xs).size ≤ 480 := by rw [size_catB]; have := length_catL xs; omega
    clear hall
    go_wp2_with fail
    refine (putList_yes _ xs _ T1.out O1.out.reads h60 HA.out).mono ?_
    rintro e w2 ⟨rfl, b2⟩
    have R2 := hid (O1.out.reads.below b2)
    have B2 : Hid (Below w.heap.size w w2) := B1.out.trans (b2.mono B1.out.size)
    clear b2
    go_wp2_with fail
    refine (sputList_yes _ xs _ R2.out h60 HA.out).mono ?_
    rintro e w3 ⟨rfl, b3⟩
    have R3 := hid (R2.out.below b3)
    have B3 : Hid (Below w.heap.size w w3) := B2.out.trans (b3.mono B2.out.size)
    have T3 := hid (HT.out.below B3.out hw0)
    clear b3 R2 B2 T1 O1 B1
    have c4 : Hid (Calls Tryd.prog 19 #[.string (catB xs)] w3 fun e w' => ∃ v, e = .returned (.tuple #[v, .bool true]) ∧ Own w3.heap.size w' v xs ∧ Below w3.heap.size w3 w') := by
      have := getList_any (catB xs) w3 T3.out (by unfold maxLen; omega) (by omega)
      rw [hlr.out] at this
      exact this
    go_wp2_with fail
    refine c4.out.mono ?_
    rintro e w4 ⟨vb, rfl, o4, b4⟩
    have R4 := hid (R3.out.below b4); have O4 := hid o4
    have B4 : Hid (Below w.heap.size w w4) := B3.out.trans (b4.mono B3.out.size)
    clear b4 o4 R3 B3 T3 c4
    go_wp2_with fail
    refine (sameInts_same _ _ xs _ O4.out.reads R4.out).mono ?_
    rintro e w5 ⟨rfl, b5⟩
    have B5 : Hid (Below w.heap.size w w5) := B4.out.trans (b5.mono B4.out.size)
    clear b5 B4 R4 O4 HA hlr
  case' neg =>
    have HN := hid hn
    clear hn
    go_wp2_with fail
    refine (putList_no _ xs _ T1.out O1.out.reads HN.out).mono ?_
    rintro e w2 ⟨rfl, b2⟩
    have R2 := hid (O1.out.reads.below b2)
    have B2 : Hid (Below w.heap.size w w2) := B1.out.trans (b2.mono B1.out.size)
    clear b2
    go_wp2_with fail
    refine (sputList_no _ xs _ R2.out HN.out).mono ?_
    rintro e w5 ⟨rfl, hw⟩
    obtain rfl := hw.symm
    have B5 := B2; clear R2 B2 T1 O1 B1 HN hw
  all_goals
    go_wp2_with fail
    refine (drawGetList_any _ _ (K1.out.later B5.out)).mono ?_
    rintro e w6 ⟨t, ht, rfl, b6⟩
    have B6 : Hid (Below w.heap.size w w6) := B5.out.trans (b6.mono B5.out.size)
    have T6 := hid (HT.out.below B6.out hw0)
    clear b6 B5
    have htm : t.size ≤ maxLen := by unfold maxLen; omega
    have hfact : Hid (∀ L ok, (listR t).getD [] = L → (listR t).isSome = ok → ok = true → catB L = t ∧ L.length ≤ 60 ∧ allIn L 0 1152921504606846975) := by
      intro L ok hL hok h
      cases hr : listR t with
      | none => rw [hr] at hok; rw [← hok] at h; cases h
      | some l =>
        rw [hr] at hL
        have hL' : l = L := hL
        subst hL'
        obtain ⟨q1, q2, q3⟩ := cat_list t l hr
        exact ⟨q1, q2, allIn_of q3⟩
    have c7 : Hid (∀ W, Tab W → Calls Tryd.prog 19 #[.string t] W fun e w' => ∃ v, e = .returned (.tuple #[v, .bool (listR t).isSome]) ∧ Own W.heap.size w' v ((listR t).getD []) ∧ Below W.heap.size W w') := fun W hW => getList_any t W hW htm (by omega)
    have c8 : Hid (∀ W, Calls Tryd.prog 22 #[.string t] W fun e w' => ∃ v, e = .returned (.tuple #[v, .bool (listR t).isSome]) ∧ Own W.heap.size w' v ((listR t).getD []) ∧ Below W.heap.size W w') := fun W => sgetList_any t W htm (by omega)
    generalize hL : (listR t).getD [] = L at c7 c8
    generalize hok : (listR t).isSome = ok at c7 c8
    have HF := hid (hfact.out L ok hL hok)
    clear hL hok hfact
    go_wp2_with fail
    refine (c7.out _ T6.out).mono ?_
    rintro e w7 ⟨vm, rfl, o7, b7⟩
    have O7 := hid o7
    have B7 : Hid (Below w.heap.size w w7) := B6.out.trans (b7.mono B6.out.size)
    clear b7 o7 B6 T6
    go_wp2_with fail
    refine (c8.out _).mono ?_
    rintro e w8 ⟨vs, rfl, o8, b8⟩
    have O8 := hid o8
    have R8 := hid (O7.out.reads.below b8)
    have B8 : Hid (Below w.heap.size w w8) := B7.out.trans (b8.mono B7.out.size)
    clear b8 o8 B7 O7
    go_wp2_with fail
    refine (sameInts_same _ _ L _ R8.out O8.out.reads).mono ?_
    rintro e w9 ⟨rfl, b9⟩
    have R9 := hid (R8.out.below b9)
    have B9 : Hid (Below w.heap.size w w9) := B8.out.trans (b9.mono B8.out.size)
    have T9 := hid (HT.out.below B9.out hw0)
    clear b9 B8 R8 O8 c7 c8
    cases ok
    case' false =>
      clear R9 HF
    case' true =>
      obtain ⟨q1, q2, q3⟩ := HF.out rfl
      have HA := hid q3
      have c10 : Hid (Calls Tryd.prog 17 #[vm] w9 fun e w' => e = .returned (.tuple #[.string t, .bool true]) ∧ Below w9.heap.size w9 w') := by
        have := putList_yes vm L w9 T9.out R9.out q2 q3
        rw [q1] at this
        exact this
      clear q1 q2 q3 HF
      go_wp2_with fail
      refine c10.out.mono ?_
      rintro e w10 ⟨rfl, b10⟩
      have B10 : Hid (Below w.heap.size w w10) := B9.out.trans (b10.mono B9.out.size)
      clear b10 B9 T9 R9 HA c10
      have B9 := B10
      clear B10
  all_goals
    go_wp2_with fail
    refine (drawPutText_any _ _ (K0.out.later B9.out)).mono ?_
    rintro e w11 ⟨u, hu, rfl, b11⟩
    have B11 : Hid (Below w.heap.size w w11) := B9.out.trans (b11.mono B9.out.size)
    have T11 := hid (HT.out.below B11.out hw0)
    clear b11 B9
    by_cases hu2 : u.size ≤ 200
    case' neg =>
      have hu3 : (200 : Int) < (u.size : Int) := by omega
      go_wp2_with fail
      refine (putText_no u _ (by unfold maxLen; omega) hu3).mono ?_
      rintro e wx ⟨rfl, hw⟩
      obtain rfl := hw.symm
      go_wp2_with fail
      refine (sputText_no u _ (by unfold maxLen; omega) hu3).mono ?_
      rintro e wx ⟨rfl, hw⟩
      obtain rfl := hw.symm
      have B14 := B11; clear B11 T11 hu2 hu3
    case' pos =>
      have hnz : (numB u.size).size ≤ 8 := size_numB _
      have hpz : (numB u.size ++ u).size ≤ 208 := by rw [ByteArray.size_append]; omega
      go_wp2_with fail
      refine (putText_yes u _ T11.out hu2).mono ?_
      rintro e w12 ⟨rfl, b12⟩
      have B12 : Hid (Below w.heap.size w w12) := B11.out.trans (b12.mono B11.out.size)
      clear b12 B11 T11
      go_wp2_with fail
      refine (sputText_yes u _ hu2).mono ?_
      rintro e w13 ⟨rfl, b13⟩
      have B13 : Hid (Below w.heap.size w w13) := B12.out.trans (b13.mono B12.out.size)
      have T13 := hid (HT.out.below B13.out hw0)
      clear b13 B12
      have c14 : Hid (Calls Tryd.prog 26 #[.string (numB u.size ++ u ++ t), .int .i64 0] w13 fun e w' => e = .returned (.tuple #[.string u, .int .i64 ((numB u.size ++ u).size : Nat), .bool true]) ∧ Below w13.heap.size w13 w') := by
        obtain ⟨q1, q2, q3⟩ := text_back u t hu2
        have := getText_yes (numB u.size ++ u ++ t) 0 w13 T13.out (by unfold maxLen; rw [ByteArray.size_append]; omega) q1
        rw [q2, Nat.zero_add, q3] at this
        exact this
      go_wp2_with fail
      refine c14.out.mono ?_
      rintro e w14 ⟨rfl, b14⟩
      have B14 : Hid (Below w.heap.size w w14) := B13.out.trans (b14.mono B13.out.size)
      clear b14 B13 T13 c14 hu2
  all_goals
    go_wp2_with fail
    refine (drawGetText_any _ _ (K1.out.later B14.out)).mono ?_
    rintro e w15 ⟨y, k, hy, rfl, b15⟩
    have B15 : Hid (Below w.heap.size w w15) := B14.out.trans (b15.mono B14.out.size)
    have T15 := hid (HT.out.below B15.out hw0)
    have hym : y.size ≤ maxLen := by unfold maxLen; omega
    clear b15 B14
    by_cases hG : 0 ≤ k ∧ TextAt y k.toNat
    case' pos =>
      obtain ⟨kk, rfl⟩ := Int.eq_ofNat_of_zero_le hG.1
      have HG : Hid (TextAt y kk) := by show TextAt y kk; simpa using hG.2
      clear hG
      go_wp2_with fail
      refine (getText_yes y kk _ T15.out hym HG.out).mono ?_
      rintro e w16 ⟨rfl, b16⟩
      have B16 : Hid (Below w.heap.size w w16) := B15.out.trans (b16.mono B15.out.size)
      clear b16 B15
      go_wp2_with fail
      refine (sgetText_yes y kk _ hym HG.out).mono ?_
      rintro e wx ⟨rfl, hw⟩
      obtain rfl := hw.symm
      go_wp2
      go_ret
      exact ⟨by simp, B16.out⟩
    case' neg =>
      have HG := hid hG
      clear hG
      go_wp2_with fail
      refine (getText_no y k _ T15.out hym HG.out).mono ?_
      rintro e wx ⟨rfl, hw⟩
      obtain rfl := hw.symm
      go_wp2_with fail
      refine (sgetText_no y k _ hym HG.out).mono ?_
      rintro e wx ⟨rfl, hw⟩
      obtain rfl := hw.symm
      go_wp2
      go_ret
      exact ⟨by simp, B15.out⟩
end Go.Proofs.YthpimklbdabdhaaDoor
