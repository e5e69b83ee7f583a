/-
  slices.insertionSortCmpFunc, slices.stableCmpFunc, slices.SortStableFunc over at most ten numbers that rise from nought: by a key, of alike ones the lesser first. Nothing but their row is written.
-/
import Derived.Test.YtflhlinkolbbiaeICmp6
import Derived.Test.YtflhlinkolbbiaeIRows
import Derived.Test.YtflhlinkolbbiaeSortMath6
import Derived.Deep.QuietTactic
import Derived.BigQuiet
namespace Go.Proofs.Ytflhlinkolbbiae
open Go.RowKit

theorem ofN_getD (a : List Nat) (i : Nat) : (ofN a).getD i 0 = ((a.getD i 0 : Nat) : Int) := by
  by_cases h : i < a.length
  · simp [ofN, List.getD_eq_getElem?_getD, h]
  · simp [ofN, List.getD_eq_getElem?_getD, h]
theorem ofN_set (a : List Nat) (i k : Nat) : (ofN a).set i (k : Nat) = ofN (a.set i k) := by simp [ofN, List.map_set]
abbrev At (g : Nat) : Nat → Prop := fun k => k = g
set_option maxRecDepth 100000 in
set_option maxHeartbeats 8000000 in
theorem isort_any (g n cap bk : Nat) (f : Nat → Int) (w : World) (hn : n ≤ 10) (ho : IRow w g n cap (ofN (List.range n))) (hk : KeyIn g w bk n f) :
    Calls Try.prog 129 #[.slice (some ⟨g, 0, none⟩) n cap, .int .i64 0, .int .i64 n, cmpV bk] w fun e w' => e = .returned (.tuple #[]) ∧ IRow w' g n cap (ofN (byEnd f n)) ∧ But (At g) w w' := by
  have HO := hid ho
  have HK := hid hk
  clear ho hk
  rcases Nat.eq_zero_or_pos n with hz | hz
  · have d0 : decide ((1 : Int) < (n : Int)) = false := by rw [decide_eq_false_iff_not]; omega
    have HE : Hid (byEnd f n = List.range n) := by show _ = _; rw [hz]; rfl
    clear hz
    go_enter Try.func129, Try.ntmps129
    go_wp2
    go_loopw [8] (fun iv wr => iv = .int .i64 1 ∧ w = wr) (fun _ _ => 0)
    case atStart => exact ⟨rfl, rfl⟩
    case round =>
      obtain ⟨rfl, rfl⟩ := hrel
      go_wp2
      go_end0
      exact ⟨rfl, by rw [HE.out]; exact HO.out, But.refl _ _⟩
  · have HZ := hid hz
    go_enter Try.func129, Try.ntmps129
    go_wp2
    go_loopw [8] (fun iv wr => ∃ i : Nat, 1 ≤ i ∧ i ≤ n ∧ iv = .int .i64 i ∧ IRow wr g n cap (ofN (outL f n i)) ∧ But (At g) w wr) (fun iv _ => n - (intOf iv).toNat)
    case atStart => exact ⟨1, Nat.le_refl _, HZ.out, rfl, by rw [outL_start f HZ.out]; exact HO.out, But.refl _ _⟩
    case round =>
      obtain ⟨i, h1, hle, rfl, hrow, hbut⟩ := hrel
      have HR := hid hrow
      have HB := hid hbut
      clear hrow hbut
      by_cases hlt : i < n
      · have HR2 : Hid (IRow wr g n cap (ofN (inL f n i i))) := by show IRow _ _ _ _ _; rw [← outL_one f hlt]; exact HR.out
        clear HR
        have d1 : decide ((i : Int) < (n : Int)) = true := by simpa using hlt
        go_wp2
        go_loopw [9] (fun jv w2 => ∃ j : Nat, j ≤ i ∧ jv = .int .i64 j ∧ IRow w2 g n cap (ofN (inL f n i j)) ∧ (j < i → f i < f ((byEnd f i).getD j 0)) ∧ But (At g) w w2) (fun jv _ => (intOf jv).toNat)
        case atStart => exact ⟨i, Nat.le_refl _, rfl, HR2.out, fun h => absurd h (by omega), HB.out⟩
        case round =>
          obtain ⟨j, hji, rfl, hrow, hgt, hbut⟩ := hrel
          have HJ := hid hrow
          have HB2 := hid hbut
          have HG := hid hgt
          clear hrow hbut hgt HR2 HB
          by_cases hj : 0 < j
          · obtain ⟨j1, hj1⟩ : ∃ j1, j1 = j - 1 := ⟨_, rfl⟩
            have hw1 : IntKind.i64.wrap ((j : Int) - 1) = (j1 : Int) := by rw [IntKind.wrap_i64]; omega
            have hw2 : (j : Int) - 1 = (j1 : Int) := by omega
            obtain ⟨p, hp⟩ : ∃ p, p = (byEnd f i).getD (j - 1) 0 := ⟨_, rfl⟩
            have hpn : p < n := by rw [hp]; exact inL_lt f hlt _ (by omega)
            have hjn : j < n := by omega
            have hj1n : j1 < n := by omega
            have cj : wr.cell? ⟨g, j, none⟩ = some (.int .i64 (i : Nat)) := by have := HJ.out.cell hjn; rw [ofN_getD, inL_at f hji] at this; exact this
            have cp : wr.cell? ⟨g, j1, none⟩ = some (.int .i64 (p : Nat)) := by have := HJ.out.cell hj1n; rw [ofN_getD, hj1, inL_prev f hj hji, ← hp, ← hj1] at this; exact this
            have d2 : decide ((0 : Int) < (j : Int)) = true := by rw [decide_eq_true_eq]; omega
            have n0 : (0 : Int) ≤ (j : Int) := by omega
            have n1 : (j : Int) < (n : Int) := by omega
            have n2 : (0 : Int) ≤ (j1 : Int) := by omega
            have n3 : (j1 : Int) < (n : Int) := by omega
            have HC : Hid (∀ q, Calls Try.prog 124 #[.int .i64 (i : Nat), .int .i64 (p : Nat), .pointer (some ⟨bk, 0, none⟩)] (wr.drewN q) fun e w' => e = .returned (.int .i64 (cmpI5 (f i) (f p))) ∧ ∃ q', w' = (wr.drewN q).drewN q') := fun q => HK.out _ (HB2.out.drewN q) i p hlt hpn
            have hcmp := cmpI5_lt (f i) (f p)
            generalize cmpI5 (f i) (f p) = cv at HC hcmp
            have hw3 : IntKind.i64.wrap (j1 : Int) = (j1 : Int) := by rw [IntKind.wrap_i64]; omega
            have HP := hid hp
            have HJ1 : Hid (j = j1 + 1) := by show _ = _; omega
            clear hp hj1
            by_cases hcc : f i < f p
            · have d3 : decide (cv < 0) = true := by rw [hcmp]; simpa using hcc
              clear hcmp
              go_wp2_with fail
              go_quiet (exact Calls.quiet_of (HC.out _))
              have HN : Hid (IRow ((wr.setCell ⟨g, j, none⟩ (.int .i64 (p : Nat))).setCell ⟨g, j1, none⟩ (.int .i64 (i : Nat))) g n cap (ofN (inL f n i j1))) := by
                have := (HJ.out.set j (p : Nat)).set j1 (i : Nat)
                rw [ofN_set, ofN_set, HP.out, show j1 = j - 1 by have := HJ1.out; omega, inL_swap f hj hji] at this
                rw [HP.out, show j1 = j - 1 by have := HJ1.out; omega]
                exact this
              have HB3 : Hid (But (At g) w ((wr.setCell ⟨g, j, none⟩ (.int .i64 (p : Nat))).setCell ⟨g, j1, none⟩ (.int .i64 (i : Nat)))) := (HB2.out.setCell (p := ⟨g, j, none⟩) rfl _).setCell (p := ⟨g, j1, none⟩) rfl _
              have HG2 : Hid (f i < f ((byEnd f i).getD j1 0)) := by show _ < _; rw [show j1 = j - 1 by have := HJ1.out; omega, ← HP.out]; exact hcc
              have fj : wr.frozen? ⟨g, j, none⟩ = false := HJ.out.free j
              have fj1 : wr.frozen? ⟨g, j1, none⟩ = false := HJ.out.free j1
              have hne : j ≠ j1 := by have := HJ1.out; omega
              have hne' : j1 ≠ j := by have := HJ1.out; omega
              go_wp2_with fail
              go_big_region
              go_wp2
              go_roundw
              case rel => exact ⟨j1, by have := HJ1.out; omega, by go_num, HN.out.at rfl, fun _ => HG2.out, HB3.out.drewN _⟩
              case measure => simp [intOf]; have := HJ1.out; omega
            · have d3 : decide (cv < 0) = false := by rw [hcmp]; simpa using hcc
              clear hcmp
              go_wp2_with fail
              go_quiet (exact Calls.quiet_of (HC.out _))
              have HD : Hid (inL f n i j = outL f n (i + 1)) := inL_done f hji HG.out fun _ => by rw [← HP.out]; omega
              go_wp2
              go_roundw
              case rel => exact ⟨i + 1, by omega, by omega, by go_num, by rw [← HD.out]; exact HJ.out.at rfl, HB2.out.drewN _⟩
              case measure => simp [intOf]; omega
          · have HD : Hid (inL f n i j = outL f n (i + 1)) := inL_done f hji HG.out fun h => absurd h hj
            have d2 : decide ((0 : Int) < (j : Int)) = false := by rw [decide_eq_false_iff_not]; omega
            go_wp2_with fail
            go_quiet (fail)
            go_wp2
            go_roundw
            case rel => exact ⟨i + 1, by omega, by omega, by go_num, by rw [← HD.out]; exact HJ.out.at rfl, HB2.out.drewN _⟩
            case measure => simp [intOf]; omega
      · obtain rfl : i = n := by omega
        have HE : Hid (IRow wr g i cap (ofN (byEnd f i))) := by have := HR.out; rw [outL_end] at this; exact this
        go_wp2
        go_end0
        exact ⟨rfl, HE.out, HB.out⟩
end Go.Proofs.Ytflhlinkolbbiae
