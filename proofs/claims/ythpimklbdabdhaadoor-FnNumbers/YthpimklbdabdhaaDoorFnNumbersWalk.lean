/-
  The law FnNumbers answers true at every input.
-/
import Derived.Test.YthpimklbdabdhaaDoorDrawText
import Derived.Test.YthpimklbdabdhaaDoorRound
import Derived.Test.YthpimklbdabdhaaDoorGet
import Derived.Test.YthpimklbdabdhaaDoorSGetNumber
import Derived.Test.YthpimklbdabdhaaDoorSSize
import Derived.Test.YthpimklbdabdhaaDoorSPut
import Derived.Test.YthpimklbdabdhaaDoorSPutWide
import Derived.Test.YthpimklbdabdhaaDoorLaid
import Derived.OpenShut
namespace Go.Proofs.YthpimklbdabdhaaDoor
open Go.RowKit

theorem code_of_row {w : World} {a : Option Addr} {len cap : Nat} {zs : List Int} (h : IsRow .u8 w a len cap zs) (hl : len ≤ 1048576) : CodeOk w.heap.size w (.slice a len cap) := by
  rcases h with ⟨rfl, rfl, rfl, rfl⟩ | ⟨x, rfl, hlc, hcm, hz, hcell, hwf⟩
  · exact ⟨none, 0, 0, rfl, by omega, .inl rfl⟩
  · refine ⟨some x, len, cap, rfl, hl, ?_⟩
    by_cases h0 : len = 0
    · exact .inl h0
    · right
      obtain ⟨b, off, spot⟩ := x
      have hspot : spot = none := by simpa [Addr.add] using World.cell?_spot (hcell 0 (by omega))
      subst hspot
      have hc : ∀ i, i < len → w.cell? ⟨b, off + i, none⟩ = some (.int .u8 (zs.getD i 0)) := fun i hi => by
        have := hcell i (by omega)
        rcases i with _ | i <;> simpa [Addr.add] using this
      refine ⟨b, off, rfl, lt_of_cell (hc 0 (by omega)), fun i hi => ?_⟩
      have hr := range_u8 hwf i
      refine ⟨(zs.getD i 0).toNat, ?_, ?_⟩
      · rw [List.getD_eq_getElem?_getD]; omega
      · rw [hc i hi, List.getD_eq_getElem?_getD]
        congr 2
        omega
theorem CodeOk.later {w w' : World} {v : Value} (h : CodeOk w.heap.size w v) (hb : Below w.heap.size w w') : CodeOk w'.heap.size w' v := by
  obtain ⟨a, len, cap, rfl, hl, hx⟩ := h.below hb
  refine ⟨a, len, cap, rfl, hl, ?_⟩
  rcases hx with hx | ⟨cb, off, rfl, hlt, hc⟩
  · exact .inl hx
  · exact .inr ⟨cb, off, rfl, Nat.lt_of_lt_of_le hlt hb.size, hc⟩

/-- The text of a number in a size, read from its front. -/
theorem wide_read (n k : Int) (h0 : 0 ≤ n) (h1 : n ≤ 1152921504606846975) (hk : k = 1 ∨ k = 2 ∨ k = 4 ∨ k = 8) (hle : szI n ≤ k) :
    (gsz (wideB n k) 0 : Int) = k ∧ (gnum (wideB n k) 0 : Int) = n ∧ (wideB n k).size = k.toNat := by
  obtain ⟨m, rfl⟩ := Int.eq_ofNat_of_zero_le h0
  obtain ⟨s, rfl⟩ := Int.eq_ofNat_of_zero_le (show 0 ≤ k by omega)
  have hs : s = 1 ∨ s = 2 ∨ s = 4 ∨ s = 8 := by omega
  have hf := fits_of m s hs (by omega) hle
  refine ⟨?_, ?_, size_wideB _ _⟩
  · show ((gsz ⟨(wideL m s).toArray⟩ 0 : Nat) : Int) = s; rw [gsz_wide m s hs hf]
  · show ((gnum ⟨(wideL m s).toArray⟩ 0 : Nat) : Int) = m; rw [gnum_wide m s hs hf]
theorem wide_good (n k : Int) (h0 : 0 ≤ n) (h1 : n ≤ 1152921504606846975) (hk : k = 1 ∨ k = 2 ∨ k = 4 ∨ k = 8) (hle : szI n ≤ k) : GoodAt (wideB n k) 0 ↔ szI n = k := by
  obtain ⟨a, b, c⟩ := wide_read n k h0 h1 hk hle
  unfold GoodAt
  rw [b, a, c]
  constructor
  · exact fun h => h.2.2.2
  · intro h
    exact ⟨by omega, by omega, by omega, h⟩
theorem get_wide (n k : Int) (w : World) (hT : Tab w) (h0 : 0 ≤ n) (h1 : n ≤ 1152921504606846975) (hk : k = 1 ∨ k = 2 ∨ k = 4 ∨ k = 8) (hle : szI n = k) :
    Calls Tryd.prog 10 #[.string (wideB n k), .int .i64 0] w fun e w' => e = .returned (.tuple #[.int .i64 n, .int .i64 k, .bool true]) ∧ w' = w := by
  obtain ⟨a, b, c⟩ := wide_read n k h0 h1 hk (by omega)
  have h := get_yes (wideB n k) 0 w hT (by unfold maxLen; omega) ((wide_good n k h0 h1 hk (by omega)).2 hle)
  rw [Nat.zero_add, a, b] at h
  exact h
theorem get_wide_no (n k : Int) (w : World) (hT : Tab w) (h0 : 0 ≤ n) (h1 : n ≤ 1152921504606846975) (hk : k = 1 ∨ k = 2 ∨ k = 4 ∨ k = 8) (hle : szI n < k) :
    Calls Tryd.prog 10 #[.string (wideB n k), .int .i64 0] w fun e w' => e = .returned (.tuple #[.int .i64 0, .int .i64 0, .bool false]) ∧ w' = w := by
  obtain ⟨a, b, c⟩ := wide_read n k h0 h1 hk (by omega)
  exact get_no (wideB n k) 0 w hT (by unfold maxLen; omega) (fun h => by have := (wide_good n k h0 h1 hk (by omega)).1 h.2; omega)

theorem get_num (n : Int) (w : World) (hT : Tab w) (h0 : 0 ≤ n) (h1 : n ≤ 1152921504606846975) :
    Calls Tryd.prog 10 #[.string (numB n), .int .i64 0] w fun e w' => e = .returned (.tuple #[.int .i64 n, .int .i64 (szI n), .bool true]) ∧ w' = w :=
  get_wide n (szI n) w hT h0 h1 (szI_is n) rfl
theorem slice_num (u : ByteArray) (k : Nat) (w : World) (h : GoodAt u k) :
    (Instr.slice 9 (.string u) (some (.int .i64 (k : Int))) (some (.int .i64 ((k : Int) + (gsz u k : Nat)))) none).run Tryd.prog w = .ok (.string (numB (gnum u k : Nat))) w := by
  have h1 := h.1
  have h2 := h.2.1
  have e := run_slice_string (P := Tryd.prog) w 9 u .i64 .i64 (k : Int) ((k : Int) + (gsz u k : Nat)) Tryd.underlying9 (by omega) (by omega) (by omega)
  rw [Int.toNat_natCast, show ((k : Int) + (gsz u k : Nat)).toNat = k + gsz u k by omega, read_back u k h] at e
  exact e

set_option maxHeartbeats 4000000 in
set_option maxRecDepth 100000 in
theorem FnNumbers_walk (a0 : Option Addr) (len0 cap0 : Nat) (z0 : List Int) (a1 : Option Addr) (len1 cap1 : Nat) (z1 : List Int) (w : World) (hT : Tab w) (hr0 : IsRow .u8 w a0 len0 cap0 z0) (hr1 : IsRow .u8 w a1 len1 cap1 z1)
    (b0 : cap0 * 1 ≤ 140737488351232) (b1 : cap1 * 1 ≤ 140737488351232) :
    Calls Tryd.prog 3 #[.slice a0 len0 cap0, .slice a1 len1 cap1] w fun e w' => e = .returned (.bool true) ∧ Below w.heap.size w w' := by
  have l0 : len0 ≤ cap0 := by rcases hr0 with ⟨_, rfl, rfl, _⟩ | ⟨x, _, h, _⟩ <;> omega
  have l1 : len1 ≤ cap1 := by rcases hr1 with ⟨_, rfl, rfl, _⟩ | ⟨x, _, h, _⟩ <;> omega
  have hw0 := hT.lt
  have HT := hid hT
  by_cases hl : (1048576 : Int) < (len0 : Int) + (len1 : Int)
  · clear hr0 hr1 hT
    go_enter Tryd.func3, Tryd.ntmps3
    go_wp2
    go_ret
    exact ⟨rfl, Below.refl _ _⟩
  have K0 := hid (code_of_row hr0 (by omega))
  have K1 := hid (code_of_row hr1 (by omega))
  clear hr0 hr1 hT
  go_enter Tryd.func3, Tryd.ntmps3
  go_wp2_with fail
  refine (drawPutNumber_any _ _ K0.out).mono ?_
  rintro e w1 ⟨n, rfl, b1⟩
  have B1 := hid b1; have T1 := hid (HT.out.below b1 hw0); clear b1
  by_cases hn : 0 ≤ n ∧ n ≤ 1152921504606846975
  case' pos =>
    obtain ⟨h0, h1⟩ := hn
    have hsz : ((numB n).size : Int) = szI n := by unfold numB; rw [size_wideB]; have := szI_le n; omega
    have hhalf := szI_half n h0
    have hs8 := szI_le n
    go_wp2_with fail
    refine (put_yes n _ T1.out h0 h1).mono ?_
    rintro e w2 ⟨rfl, b2⟩
    have B2 : Hid (Below w.heap.size w w2) := B1.out.trans (b2.mono B1.out.size)
    have T2 := hid (HT.out.below B2.out hw0); clear b2
    go_wp2_with fail
    refine (sput_yes n _ h0 h1).mono ?_
    rintro e w3 ⟨rfl, b3⟩
    have B3 : Hid (Below w.heap.size w w3) := B2.out.trans (b3.mono B2.out.size)
    have T3 := hid (HT.out.below B3.out hw0); clear b3
    go_wp2_with fail
    refine (size_yes n _ T3.out h0 h1).mono ?_
    rintro e w3' ⟨rfl, hw⟩
    obtain rfl := hw.symm
    go_wp2_with fail
    refine (ssize_yes n _ h0 h1).mono ?_
    rintro e w3' ⟨rfl, hw⟩
    obtain rfl := hw.symm
    go_wp2_with fail
    refine (get_num n _ T3.out h0 h1).mono ?_
    rintro e w3' ⟨rfl, hw⟩
    obtain rfl := hw.symm
    go_wp2_with fail
    refine (size_yes (n / 2) _ T3.out (by omega) (by omega)).mono ?_
    rintro e w3' ⟨rfl, hw⟩
    obtain rfl := hw.symm
    have T4 := T3; clear T3 T2 B2 hs8 hw
    clear B1 T1
  case' neg =>
    have HN : Hid (n < 0 ∨ 1152921504606846975 < n) := by show _ ∨ _; omega
    clear hn
    go_wp2_with fail
    refine (put_no n _ T1.out HN.out).mono ?_
    rintro e w3 ⟨rfl, hw⟩
    obtain rfl := hw.symm
    go_wp2_with fail
    refine (sput_no n _ HN.out).mono ?_
    rintro e w3 ⟨rfl, hw⟩
    obtain rfl := hw.symm
    go_wp2_with fail
    refine (size_no n _ T1.out HN.out).mono ?_
    rintro e w3 ⟨rfl, hw⟩
    obtain rfl := hw.symm
    go_wp2_with fail
    refine (ssize_no n _ HN.out).mono ?_
    rintro e w3 ⟨rfl, hw⟩
    obtain rfl := hw.symm
    have T4 := T1; have B3 := B1; clear T1 B1 HN hw
  all_goals
    go_wp2_with fail
    refine (drawPutWide_any _ _ (K1.out.later B3.out)).mono ?_
    rintro e w5 ⟨m, wd, rfl, b5⟩
    have B5 : Hid (Below w.heap.size w w5) := B3.out.trans (b5.mono B3.out.size)
    have T5 := hid (HT.out.below B5.out hw0)
    clear b5 T4 B3
    by_cases hm : 0 ≤ m ∧ m ≤ 1152921504606846975 ∧ (wd = 1 ∨ wd = 2 ∨ wd = 4 ∨ wd = 8) ∧ szI m ≤ wd
    case' neg =>
      have HM := hid hm
      clear hm
      go_wp2_with fail
      refine (putWide_no m wd _ T5.out HM.out).mono ?_
      rintro e w7 ⟨rfl, hw⟩
      obtain rfl := hw.symm
      go_wp2_with fail
      refine (sputWide_no m wd _ HM.out).mono ?_
      rintro e w7 ⟨rfl, hw⟩
      obtain rfl := hw.symm
      have T7 := T5; have B7 := B5; clear T5 B5 HM
    case' pos =>
      obtain ⟨m0, m1, hwd, hle⟩ := hm
      have hst : ((wideB m wd).size : Int) = wd := by rw [size_wideB]; omega
      have HW := hid hwd
      clear hwd
      go_wp2_with fail
      refine (putWide_int m wd _ T5.out m0 m1 HW.out hle).mono ?_
      rintro e w6 ⟨rfl, b6⟩
      have B6 : Hid (Below w.heap.size w w6) := B5.out.trans (b6.mono B5.out.size)
      clear b6 B5
      go_wp2_with fail
      refine (sputWide_yes m wd _ m0 m1 HW.out hle).mono ?_
      rintro e w7 ⟨rfl, b7⟩
      have B7 : Hid (Below w.heap.size w w7) := B6.out.trans (b7.mono B6.out.size)
      have T7 := hid (HT.out.below B7.out hw0)
      clear b7 B6 T5
      by_cases heq : szI m = wd
      case' pos =>
        have hbe : (szI m == wd) = true := by rw [beq_iff_eq]; exact heq
        have HE := hid heq
        clear heq
        go_wp2_with fail
        refine (get_wide m wd _ T7.out m0 m1 HW.out HE.out).mono ?_
        rintro e w8 ⟨rfl, hw⟩
        obtain rfl := hw.symm
        go_wp2_with fail
        refine (size_yes m _ T7.out m0 m1).mono ?_
        rintro e w8 ⟨rfl, hw⟩
        obtain rfl := hw.symm
        clear HE
      case' neg =>
        have hbe : (szI m == wd) = false := by rw [beq_eq_false_iff_ne]; exact heq
        go_wp2_with fail
        refine (get_wide_no m wd _ T7.out m0 m1 HW.out (by omega)).mono ?_
        rintro e w8 ⟨rfl, hw⟩
        obtain rfl := hw.symm
        go_wp2_with fail
        refine (size_yes m _ T7.out m0 m1).mono ?_
        rintro e w8 ⟨rfl, hw⟩
        obtain rfl := hw.symm
        clear heq
  all_goals
    go_wp2_with fail
    refine (drawGetNumber_any _ _ (K1.out.later B7.out)).mono ?_
    rintro e w9 ⟨u, k, hu, hk1, hk2, rfl, b9⟩
    have B9 : Hid (Below w.heap.size w w9) := B7.out.trans (b9.mono B7.out.size)
    have T9 := hid (HT.out.below B9.out hw0)
    have hum : u.size ≤ maxLen := by unfold maxLen; omega
    clear b9 T7 B7
    by_cases hG : 0 ≤ k ∧ GoodAt u k.toNat
    case' pos =>
      obtain ⟨kk, rfl⟩ := Int.eq_ofNat_of_zero_le hG.1
      have hG2 : GoodAt u kk := by simpa using hG.2
      have HG := hid hG2
      have hkk : kk < u.size := hG2.1
      have hz8 : gsz u kk ≤ 8 := by have := gsz_is u kk; omega
      have hn62 : gnum u kk ≤ 1152921504606846975 := hG2.2.2.1
      clear hG hG2
      go_wp2_with fail
      refine (get_yes u kk _ T9.out hum HG.out).mono ?_
      rintro e wx ⟨rfl, hw⟩
      obtain rfl := hw.symm
      go_wp2_with fail
      refine (sget_yes u kk _ hum HG.out).mono ?_
      rintro e wx ⟨rfl, hw⟩
      obtain rfl := hw.symm
      go_wp2_with fail
      refine (put_yes (gnum u kk : Nat) _ T9.out (by omega) (by omega)).mono ?_
      rintro e w10 ⟨rfl, b10⟩
      have hsl := slice_num u kk w10 HG.out
      have B10 : Hid (Below w.heap.size w w10) := B9.out.trans (b10.mono B9.out.size)
      clear b10 B9
      go_wp2
      go_ret
      exact ⟨by simp, B10.out⟩
    case' neg =>
      have HG := hid hG
      clear hG
      go_wp2_with fail
      refine (get_no u k _ T9.out hum HG.out).mono ?_
      rintro e wx ⟨rfl, hw⟩
      obtain rfl := hw.symm
      go_wp2_with fail
      refine (sget_no u k _ hum HG.out).mono ?_
      rintro e wx ⟨rfl, hw⟩
      obtain rfl := hw.symm
      go_wp2
      go_ret
      exact ⟨rfl, B9.out⟩
end Go.Proofs.YthpimklbdabdhaaDoor
