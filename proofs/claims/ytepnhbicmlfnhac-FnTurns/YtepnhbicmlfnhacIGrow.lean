/-
  slices.Grow of no numbers: room in memory of its own. Nothing old is written.
  slices.Concat of rows of numbers: all of them, in memory of its own. Nothing old is written.
-/
import Derived.Test.YtepnhbicmlfnhacKIntRows
import Derived.Lib.AppendZerosOnto
import Derived.Lib.SliceRun
import Derived.Test.YtepnhbicmlfnhacKAppN
import Derived.Test.YtepnhbicmlfnhacQForm
import Derived.Lib.SlFresh
namespace Go.Proofs.Ytepnhbicmlfnhac
open Go.RowKit

theorem grow_none (w : World) : Calls Try.prog 114 #[.slice none 0 0, .int .i64 0] w fun e w' => e = .returned (.slice none 0 0) ∧ w' = w := by
  go_enter Try.func114, Try.ntmps114
  go_wp2
  go_ret
  exact ⟨rfl, rfl⟩
set_option maxRecDepth 100000 in
set_option maxHeartbeats 4000000 in
theorem grow_some (n : Nat) (w : World) (h0 : 0 < n) (hn : n ≤ 1000) : Calls Try.prog 114 #[.slice none 0 0, .int .i64 (n : Nat)] w fun e w' => ∃ G, e = .returned (.slice (some ⟨w.heap.size, 0, none⟩) 0 G) ∧ w'.ownsRow w.heap.size 3 1 (.slice (some ⟨w.heap.size, 0, none⟩) 0 G) 0 [] ∧ n ≤ G ∧ Below w.heap.size w w' := by
  obtain ⟨i0, hi, hz0, hz1, hz2⟩ := info_parts info_int
  have hold : (Builtin.firstCells i0.size 0 (.slice none 0 0)).run Try.prog w.drew = .ok ([] : List Value).toArray w.drew := rfl
  have hrz : ∀ ty, (Builtin.append_ #[23, 3] ty #[.slice none 0 0, .int .i64 (n : Nat)]).run Try.prog w =
      .ok (.slice (some ⟨w.heap.size, 0, none⟩) n (grownCap w n 0 3)) (w.drew.alloc (.cells (([] : List Value).toArray ++ Builtin.zeroCells (Value.int .i64 0).cells n ++ Builtin.zeroCells (Value.int .i64 0).cells (grownCap w n 0 3 - n)) 3)) := fun ty => by
    have h := Lib.run_append_grow_zeros w 23 3 ty 3 i0 (.int .i64 0) .i64 .i64 Try.underlying23 Try.underlying3 hi hz0 none 0 0 [] hold n h0 (by omega) (by omega) (by omega) (by rw [hz2]; omega) (by rw [Nat.zero_add]; exact growslice_fits (by omega) (by rw [hz2]; omega))
    rw [Nat.zero_add] at h
    exact h
  have hG1 : n ≤ grownCap w n 0 3 := grownCap_ge w _ _ _
  have hG2 : grownCap w n 0 3 ≤ maxLen := grownCap_le_maxLen w n 0 3 (by unfold maxLen; omega)
  obtain ⟨G, hG⟩ : ∃ G, G = grownCap w n 0 3 := ⟨_, rfl⟩
  rw [← hG] at hrz hG1 hG2
  have HOwn : Hid ((w.drew.alloc (.cells (([] : List Value).toArray ++ Builtin.zeroCells (Value.int .i64 0).cells n ++ Builtin.zeroCells (Value.int .i64 0).cells (G - n)) 3)).ownsRow w.heap.size 3 1 (.slice (some ⟨w.heap.size, 0, none⟩) 0 G) 0 []) :=
    World.ownsRow_made w.drew _ G (Nat.le_refl _) hG2 (by simp [Builtin.zeroCells, Value.cells]; omega)
  have HB : Hid (Below w.heap.size w (w.drew.alloc (.cells (([] : List Value).toArray ++ Builtin.zeroCells (Value.int .i64 0).cells n ++ Builtin.zeroCells (Value.int .i64 0).cells (G - n)) 3))) := ((Below.refl _ _).drew).alloc (Nat.le_refl _) _
  generalize w.drew.alloc (.cells (([] : List Value).toArray ++ Builtin.zeroCells (Value.int .i64 0).cells n ++ Builtin.zeroCells (Value.int .i64 0).cells (G - n)) 3) = wz at hrz HOwn HB
  have h1 : decide ((n : Int) < 0) = false := by rw [decide_eq_false_iff_not]; omega
  have h4 : decide ((0 : Int) < (n : Int)) = true := by rw [decide_eq_true_eq]; omega
  have hw : IntKind.i64.wrap (n : Int) = (n : Int) := by rw [IntKind.wrap_i64]; omega
  have hG63 : G ≤ 9223372036854775807 := by unfold maxLen at hG2; omega
  have HG1 := hid hG1
  clear hold hG hG2
  go_enter Try.func114, Try.ntmps114
  go_wp2_with (at_builtin; refine Lib.wpList_append_run _ rfl _ _ _ _ rfl _ _ rfl rfl _ _ (hrz _) ?_)
  all_goals go_ret
  all_goals exact ⟨G, rfl, HOwn.out, HG1.out, HB.out⟩
end Go.Proofs.Ytepnhbicmlfnhac
namespace Go.Proofs.Ytepnhbicmlfnhac
open Go.RowKit

theorem grow8_any (n : Nat) (w : World) (hn : n ≤ 1000) : Calls Try.prog 114 #[.slice none 0 0, .int .i64 (n : Nat)] w fun e w' => ∃ v, e = .returned v ∧ w'.ownsRow w.heap.size 3 1 v 0 [] ∧ Below w.heap.size w w' := by
  rcases Nat.eq_zero_or_pos n with rfl | h0
  · refine (show Calls Try.prog 114 #[.slice none 0 0, .int .i64 ((0 : Nat) : Int)] w _ from grow_none w).mono ?_
    rintro e w' ⟨rfl, rfl⟩
    exact ⟨_, rfl, World.ownsRow_nil _ _ _ _, Below.refl _ _⟩
  · refine (grow_some n w h0 hn).mono ?_
    rintro e w' ⟨G, rfl, ho, _, hb⟩
    exact ⟨_, rfl, ho, hb⟩
/-- The numbers of the first k rows. -/
def catL (xss : List (List Int)) (k : Nat) : List Int := (xss.take k).flatten
theorem catL_succ (xss : List (List Int)) (k : Nat) (h : k < xss.length) : catL xss (k + 1) = catL xss k ++ xss.getD k [] := by
  unfold catL
  rw [List.take_succ_eq_append_getElem h, List.flatten_append]
  simp [List.getD_eq_getElem?_getD, h]
theorem length_catL (xss : List (List Int)) : ∀ k, k ≤ xss.length → (catL xss k).length = preL xss k
  | 0, _ => by simp [catL, preL_zero]
  | k + 1, h => by rw [catL_succ xss k (by omega), List.length_append, length_catL xss k (by omega), preL_succ xss k (by omega)]
set_option maxRecDepth 100000 in
set_option maxHeartbeats 8000000 in
theorem concat_rows (v : Value) (xss : List (List Int)) (w : World) (hr : QReads w v xss) (hl : preL xss xss.length ≤ 1000) (hn : xss.length ≤ 1000) :
    Calls Try.prog 91 #[v] w fun e w' => ∃ u, e = .returned u ∧ KOwn w.heap.size w'.heap.size w' u (catL xss xss.length) ∧ Below w.heap.size w w' := by
  have HR := hid hr
  obtain ⟨a, cap, rfl, _, _⟩ := hr
  have HL := hid hl
  clear hl
  go_enter Try.func91, Try.ntmps91
  go_wp2
  go_loopw [3, 11] (fun s i wr => ∃ k : Nat, k ≤ xss.length ∧ i = .int .i64 k ∧ s = .int .i64 (preL xss k : Nat) ∧ w = wr) (fun _ i _ => xss.length - (intOf i).toNat)
  case atStart => exact ⟨0, by omega, rfl, by rw [preL_zero]; rfl, rfl⟩
  case round =>
    obtain ⟨k, hk, rfl, rfl, rfl⟩ := hrel
    by_cases hlt : k < xss.length
    · obtain ⟨g, o, cap', e, hc⟩ := HR.out.cells k hlt
      cases e
      obtain ⟨u, cu, hu⟩ := hc k hlt
      have hs1 := preL_succ xss k hlt
      have hs2 := preL_le xss (k + 1) xss.length (by omega) (Nat.le_refl _)
      have hL := HL.out
      obtain ⟨au, ku, rfl, _, _⟩ := hu
      obtain ⟨m, hm⟩ : ∃ m, m = (xss.getD k []).length := ⟨_, rfl⟩
      rw [← hm] at cu hs1
      obtain ⟨p, hp⟩ : ∃ p, p = preL xss k := ⟨_, rfl⟩
      obtain ⟨p', hp'⟩ : ∃ p', p' = preL xss (k + 1) := ⟨_, rfl⟩
      rw [← hp', ← hp] at hs1
      rw [← hp'] at hs2
      rw [← hp]
      have HP' := hid hp'
      have hw1 : IntKind.i64.wrap ((p : Int) + (m : Int)) = (p' : Int) := by rw [IntKind.wrap_i64]; omega
      have hd : decide ((p' : Int) < 0) = false := by rw [decide_eq_false_iff_not]; omega
      have n0 : (0 : Int) ≤ (k : Int) := by omega
      have n1 : (k : Int) < (xss.length : Int) := by omega
      clear hc hm hp hp' hs1 hs2 hL
      go_wp2
      go_roundw
      case rel => exact ⟨k + 1, by omega, by go_num, by rw [← HP'.out], by first | rfl | trivial⟩
      case measure => simp [intOf]; omega
    · obtain rfl : k = xss.length := by omega
      obtain ⟨p, hp⟩ : ∃ p, p = preL xss xss.length := ⟨_, rfl⟩
      have hpl : p ≤ 1000 := by rw [hp]; exact HL.out
      rw [← hp]
      have HP := hid hp
      clear hp
      go_wp2_with fail
      refine (grow8_any p _ hpl).mono ?_
      rintro e w3 ⟨v3, rfl, hown, hb3⟩
      have O3 := hid hown
      have B3 := hid hb3
      clear hown hb3
      go_wp2
      go_loopw [6, 27] (fun s i wr => ∃ k : Nat, k ≤ xss.length ∧ i = .int .i64 k ∧ wr.ownsRow w.heap.size 3 1 s (catL xss k).length (kflat (catL xss k)) ∧ Below w.heap.size w wr) (fun _ i _ => xss.length - (intOf i).toNat)
      case atStart => exact ⟨0, by omega, rfl, O3.out, B3.out⟩
      case round =>
        obtain ⟨k, hk, rfl, hown, hbel⟩ := hrel
        have HO := hid hown
        have HBE := hid hbel
        have hsz := hbel.size
        clear hown hbel O3 B3
        by_cases hlt : k < xss.length
        · obtain ⟨g, o, cap', e, hc⟩ := (HR.out.below HBE.out).cells k hlt
          cases e
          obtain ⟨u, cu, hu⟩ := hc k hlt
          have h1 := catL_succ xss k hlt
          have h2 := length_catL xss (k + 1) (by omega)
          have h3 := preL_le xss (k + 1) xss.length (by omega) (Nat.le_refl _)
          have h4 := HL.out
          rw [h1, List.length_append] at h2
          obtain ⟨v', w', hrun, hown, hgr, hat⟩ := append_reads wr w.heap.size u6 (catL xss k).length (catL xss k) HO.out u (xss.getD k []) hu (by omega) hsz 23
          have O4 : Hid (w'.ownsRow w.heap.size 3 1 v' (catL xss (k + 1)).length (kflat (catL xss (k + 1)))) := by
            rw [h1, List.length_append]
            exact hown
          have B4 : Hid (Below w.heap.size w w') := HBE.out.grown hgr hsz (fun m hm => by have := HO.out.lt m hm; omega)
          have n0 : (0 : Int) ≤ (k : Int) := by omega
          have n1 : (k : Int) < (xss.length : Int) := by omega
          obtain ⟨au, ku, rfl, _, _⟩ := hu
          clear hown hgr hat h1 h2 h3 h4 hc
          generalize (xss.getD k []).length = m at hrun cu
          go_wp2_with (at_builtin; refine Lib.wpList_append_run_sl _ rfl _ _ 23 rfl _ _ rfl rfl hrun ?_)
          go_roundw
          case rel => exact ⟨k + 1, by omega, by go_num, O4.out, B4.out⟩
          case measure => simp [intOf]; omega
        · obtain rfl : k = xss.length := by omega
          have h2 := length_catL xss xss.length (by omega)
          have h4 := HL.out
          have HK := hid (KOwn.of_owns HO.out (by omega))
          clear h2 h4
          go_wp2
          go_ret
          exact ⟨_, rfl, HK.out, HBE.out⟩
end Go.Proofs.Ytepnhbicmlfnhac
