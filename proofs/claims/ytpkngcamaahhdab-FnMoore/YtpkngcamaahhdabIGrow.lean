/-
  slices.Grow of no numbers: room in memory of its own. Nothing old is written.
  slices.Concat of two lists of numbers: both, in memory of its own. Nothing old is written.
-/
import Derived.Test.YtpkngcamaahhdabKIntRows
import Derived.Lib.AppendZerosOnto
import Derived.Lib.SliceRun
import Derived.Test.YtpkngcamaahhdabKAppN
import Derived.Test.YtpkngcamaahhdabMooreMath
import Derived.Lib.SlFresh
namespace Go.Proofs.Ytpkngcamaahhdab
open Go.RowKit

theorem grow_none (w : World) : Calls Try.prog 99 #[.slice none 0 0, .int .i64 0] w fun e w' => e = .returned (.slice none 0 0) ∧ w' = w := by
  go_enter Try.func99, Try.ntmps99
  go_wp2
  go_ret
  exact ⟨rfl, rfl⟩
set_option maxRecDepth 100000 in
set_option maxHeartbeats 4000000 in
theorem grow_some (n : Nat) (w : World) (h0 : 0 < n) (hn : n ≤ 1000) : Calls Try.prog 99 #[.slice none 0 0, .int .i64 (n : Nat)] w fun e w' => ∃ G, e = .returned (.slice (some ⟨w.heap.size, 0, none⟩) 0 G) ∧ w'.ownsRow w.heap.size 3 1 (.slice (some ⟨w.heap.size, 0, none⟩) 0 G) 0 [] ∧ n ≤ G ∧ Below w.heap.size w w' := by
  obtain ⟨i0, hi, hz0, hz1, hz2⟩ := info_parts info_int
  have hold : (Builtin.firstCells i0.size 0 (.slice none 0 0)).run Try.prog w.drew = .ok ([] : List Value).toArray w.drew := rfl
  have hrz : ∀ ty, (Builtin.append_ #[42, 3] ty #[.slice none 0 0, .int .i64 (n : Nat)]).run Try.prog w =
      .ok (.slice (some ⟨w.heap.size, 0, none⟩) n (grownCap w n 0 3)) (w.drew.alloc (.cells (([] : List Value).toArray ++ Builtin.zeroCells (Value.int .i64 0).cells n ++ Builtin.zeroCells (Value.int .i64 0).cells (grownCap w n 0 3 - n)) 3)) := fun ty => by
    have h := Lib.run_append_grow_zeros w 42 3 ty 3 i0 (.int .i64 0) .i64 .i64 Try.underlying42 Try.underlying3 hi hz0 none 0 0 [] hold n h0 (by omega) (by omega) (by omega) (by rw [hz2]; omega) (by rw [Nat.zero_add]; exact growslice_fits (by omega) (by rw [hz2]; omega))
    rw [Nat.zero_add] at h
    exact h
  have hG1 : n ≤ grownCap w n 0 3 := grownCap_ge w _ _ _
  have hG2 : grownCap w n 0 3 ≤ maxLen := grownCap_le_maxLen w n 0 3 (by unfold maxLen; omega)
  obtain ⟨G, hG⟩ : ∃ G, G = grownCap w n 0 3 := ⟨_, rfl⟩
  rw [← hG] at hrz hG1 hG2
  have HOwn : Hid ((w.drew.alloc (.cells (([] : List Value).toArray ++ Builtin.zeroCells (Value.int .i64 0).cells n ++ Builtin.zeroCells (Value.int .i64 0).cells (G - n)) 3)).ownsRow w.heap.size 3 1 (.slice (some ⟨w.heap.size, 0, none⟩) 0 G) 0 []) :=
    World.ownsRow_made w.drew _ G (Nat.le_refl _) hG2 (by simp [Builtin.zeroCells, Value.cells]; omega)
  have HB : Hid (Below w.heap.size w (w.drew.alloc (.cells (([] : List Value).toArray ++ Builtin.zeroCells (Value.int .i64 0).cells n ++ Builtin.zeroCells (Value.int .i64 0).cells (G - n)) 3))) := ((Below.refl _ _).drew).alloc (Nat.le_refl _) _
  generalize w.drew.alloc (.cells (([] : List Value).toArray ++ Builtin.zeroCells (Value.int .i64 0).cells n ++ Builtin.zeroCells (Value.int .i64 0).cells (G - n)) 3) = wz at hrz HOwn HB
  have h1 : decide ((n : Int) < 0) = false := by rw [decide_eq_false_iff_not]; omega
  have h4 : decide ((0 : Int) < (n : Int)) = true := by rw [decide_eq_true_eq]; omega
  have hw : IntKind.i64.wrap (n : Int) = (n : Int) := by rw [IntKind.wrap_i64]; omega
  have hG63 : G ≤ 9223372036854775807 := by unfold maxLen at hG2; omega
  have HG1 := hid hG1
  clear hold hG hG2
  go_enter Try.func99, Try.ntmps99
  go_wp2_with (at_builtin; refine Lib.wpList_append_run _ rfl _ _ _ _ rfl _ _ rfl rfl _ _ (hrz _) ?_)
  all_goals go_ret
  all_goals exact ⟨G, rfl, HOwn.out, HG1.out, HB.out⟩
end Go.Proofs.Ytpkngcamaahhdab
namespace Go.Proofs.Ytpkngcamaahhdab
open Go.RowKit

theorem grow_any (n : Nat) (w : World) (hn : n ≤ 1000) : Calls Try.prog 99 #[.slice none 0 0, .int .i64 (n : Nat)] w fun e w' => ∃ v, e = .returned v ∧ w'.ownsRow w.heap.size 3 1 v 0 [] ∧ Below w.heap.size w w' := by
  rcases Nat.eq_zero_or_pos n with rfl | h0
  · refine (show Calls Try.prog 99 #[.slice none 0 0, .int .i64 ((0 : Nat) : Int)] w _ from grow_none w).mono ?_
    rintro e w' ⟨rfl, rfl⟩
    exact ⟨_, rfl, World.ownsRow_nil _ _ _ _, Below.refl _ _⟩
  · refine (grow_some n w h0 hn).mono ?_
    rintro e w' ⟨G, rfl, ho, _, hb⟩
    exact ⟨_, rfl, ho, hb⟩
/-- How many of both there are in the first k lists, and which. -/
def catN (A B : List Nat) : Nat → List Nat
  | 0 => []
  | 1 => A
  | _ => A ++ B
theorem ofN_app (A B : List Nat) : ofN (A ++ B) = ofN A ++ ofN B := by simp [ofN]
set_option maxRecDepth 100000 in
set_option maxHeartbeats 8000000 in
theorem iconcat_any (b c2 : Nat) (va vb : Value) (A B : List Nat) (w : World) (ha : KReads w va (ofN A)) (hb : KReads w vb (ofN B)) (c0 : w.cell? ⟨b, 0, none⟩ = some va) (c1 : w.cell? ⟨b, 1, none⟩ = some vb) (hl : A.length + B.length ≤ 100) :
    Calls Try.prog 85 #[.slice (some ⟨b, 0, none⟩) 2 c2] w fun e w' => ∃ u, e = .returned u ∧ KOwn w.heap.size w'.heap.size w' u (ofN (A ++ B)) ∧ Below w.heap.size w w' := by
  have HA := hid ha
  have HB := hid hb
  have hbw : b < w.heap.size := lt_of_cell c0
  obtain ⟨aa, capa, rfl, _, _⟩ := ha
  obtain ⟨ab, capb, rfl, _, _⟩ := hb
  rw [show (ofN A).length = A.length by rw [ofN, List.length_map]] at c0 HA
  rw [show (ofN B).length = B.length by rw [ofN, List.length_map]] at c1 HB
  obtain ⟨la, hla⟩ : ∃ n, n = A.length := ⟨_, rfl⟩
  obtain ⟨lb, hlb⟩ : ∃ n, n = B.length := ⟨_, rfl⟩
  rw [← hla] at c0 HA hl
  rw [← hlb] at c1 HB hl
  have HLA := hid hla
  have HLB := hid hlb
  clear hla hlb
  have C0 := hid c0
  have C1 := hid c1
  have e1 : decide ((la : Int) < 0) = false := by rw [decide_eq_false_iff_not]; omega
  have e2 : decide ((la : Int) + (lb : Int) < 0) = false := by rw [decide_eq_false_iff_not]; omega
  have w1 : IntKind.i64.wrap (la : Int) = (la : Int) := by rw [IntKind.wrap_i64]; omega
  have w2 : IntKind.i64.wrap ((la : Int) + (lb : Int)) = (la : Int) + (lb : Int) := by rw [IntKind.wrap_i64]; omega
  go_enter Try.func85, Try.ntmps85
  go_wp2
  go_loopw [3, 11] (fun s i wr => ((i = .int .i64 0 ∧ s = .int .i64 0) ∨ (i = .int .i64 1 ∧ s = .int .i64 la) ∨ (i = .int .i64 2 ∧ s = .int .i64 ((la + lb : Nat) : Int))) ∧ w = wr) (fun _ i _ => 2 - (intOf i).toNat)
  case atStart => exact ⟨.inl ⟨rfl, rfl⟩, rfl⟩
  case round =>
    obtain ⟨hcase, rfl⟩ := hrel
    rcases hcase with ⟨rfl, rfl⟩ | ⟨rfl, rfl⟩ | ⟨rfl, rfl⟩
    · go_wp2
      go_roundw
      case rel => exact ⟨.inr (.inl ⟨rfl, by first | rfl | simp⟩), by first | rfl | trivial⟩
      case measure => simp [intOf]
    · go_wp2
      go_roundw
      case rel => exact ⟨.inr (.inr ⟨rfl, by first | rfl | simp⟩), by first | rfl | trivial⟩
      case measure => simp [intOf]
    · clear e1 e2 w1 w2 c0 c1
      go_wp2_with fail
      refine (grow_any (la + lb) _ (by omega)).mono ?_
      rintro e w3 ⟨vg, rfl, hown, hb3⟩
      have O3 := hid hown
      have B3 := hid hb3
      clear hown hb3
      go_wp2
      go_loopw [6, 27] (fun s i wr => ∃ k : Nat, k ≤ 2 ∧ i = .int .i64 k ∧ wr.ownsRow w.heap.size 3 1 s (catN A B k).length (kflat (ofN (catN A B k))) ∧ Below w.heap.size w wr) (fun _ i _ => 2 - (intOf i).toNat)
      case atStart => exact ⟨0, by omega, rfl, O3.out, B3.out⟩
      case round =>
        obtain ⟨k, hk, rfl, hown, hbel⟩ := hrel
        have HO := hid hown
        have HBE := hid hbel
        have hsz := hbel.size
        clear hown hbel O3 B3
        rcases (by omega : k = 0 ∨ k = 1 ∨ k = 2) with rfl | rfl | rfl
        · have c0 : wr.cell? ⟨b, 0, none⟩ = some (.slice aa la capa) := (HBE.out.cell (p := ⟨b, 0, none⟩) hbw).trans C0.out
          obtain ⟨v', w', hrun, hown, hgr, hat⟩ := append_reads wr w.heap.size u6 0 [] HO.out (.slice aa la capa) (ofN A) (HA.out.below HBE.out) (by rw [ofN, List.length_map, ← HLA.out]; omega) hsz 42
          have O4 : Hid (w'.ownsRow w.heap.size 3 1 v' (catN A B 1).length (kflat (ofN (catN A B 1)))) := by
            rw [ofN, List.length_map, Nat.zero_add] at hown
            exact hown
          have B4 : Hid (Below w.heap.size w w') := HBE.out.grown hgr hsz (fun m hm => by have := HO.out.lt m hm; omega)
          clear hown hgr hat
          go_wp2_with (at_builtin; refine Lib.wpList_append_run_sl _ rfl _ _ 42 rfl _ _ rfl rfl hrun ?_)
          go_roundw
          case rel => exact ⟨1, by omega, by go_num, O4.out, B4.out⟩
          case measure => simp [intOf]
        · have c1 : wr.cell? ⟨b, 1, none⟩ = some (.slice ab lb capb) := (HBE.out.cell (p := ⟨b, 1, none⟩) hbw).trans C1.out
          obtain ⟨v', w', hrun, hown, hgr, hat⟩ := append_reads wr w.heap.size u6 A.length (ofN A) HO.out (.slice ab lb capb) (ofN B) (HB.out.below HBE.out) (by rw [ofN, List.length_map, ← HLA.out, ← HLB.out]; omega) hsz 42
          have O4 : Hid (w'.ownsRow w.heap.size 3 1 v' (catN A B 2).length (kflat (ofN (catN A B 2)))) := by
            rw [ofN, ofN, List.length_map, ← List.map_append, ← List.length_append] at hown
            exact hown
          have B4 : Hid (Below w.heap.size w w') := HBE.out.grown hgr hsz (fun m hm => by have := HO.out.lt m hm; omega)
          clear hown hgr hat
          go_wp2_with (at_builtin; refine Lib.wpList_append_run_sl _ rfl _ _ 42 rfl _ _ rfl rfl hrun ?_)
          go_roundw
          case rel => exact ⟨2, by omega, by go_num, O4.out, B4.out⟩
          case measure => simp [intOf]
        · go_wp2
          go_ret
          refine ⟨_, rfl, KOwn.of_owns HO.out ?_, HBE.out⟩
          rw [ofN, List.length_map]
          show (A ++ B).length ≤ _
          rw [List.length_append, ← HLA.out, ← HLB.out]
          omega
end Go.Proofs.Ytpkngcamaahhdab
