/-
  slices.Concat of two lists of texts: both, in memory of its own. Nothing old is written.
-/
import Derived.Test.YtijojdempijhbadIGrowX
import Derived.Test.YtijojdempijhbadXApp
import Derived.Lib.SlFresh
namespace Go.Proofs.Ytijojdempijhbad
open Go.RowKit

theorem growX_any (n : Nat) (w : World) (hn : n ≤ 1000) : Calls Try.prog 179 #[.slice none 0 0, .int .i64 (n : Nat)] w fun e w' => ∃ v, e = .returned v ∧ w'.ownsRow w.heap.size 9 1 v 0 [] ∧ Below w.heap.size w w' := by
  rcases Nat.eq_zero_or_pos n with rfl | h0
  · refine (show Calls Try.prog 179 #[.slice none 0 0, .int .i64 ((0 : Nat) : Int)] w _ from growX_none w).mono ?_
    rintro e w' ⟨rfl, rfl⟩
    exact ⟨_, rfl, World.ownsRow_nil _ _ _ _, Below.refl _ _⟩
  · refine (growX_some n w h0 hn).mono ?_
    rintro e w' ⟨G, rfl, ho, _, hb⟩
    exact ⟨_, rfl, ho, hb⟩
/-- How many of both there are in the first k lists, and which. -/
def catX (A B : List XEl) : Nat → List XEl
  | 0 => []
  | 1 => A
  | _ => A ++ B
set_option maxRecDepth 100000 in
set_option maxHeartbeats 8000000 in
theorem iconcatX_any (b c2 : Nat) (va vb : Value) (A B : List XEl) (w : World) (ha : XReads w va A) (hb : XReads w vb B) (c0 : w.cell? ⟨b, 0, none⟩ = some va) (c1 : w.cell? ⟨b, 1, none⟩ = some vb) (hl : A.length + B.length ≤ 100) :
    Calls Try.prog 150 #[.slice (some ⟨b, 0, none⟩) 2 c2] w fun e w' => ∃ u, e = .returned u ∧ XOwn w.heap.size w'.heap.size w' u (A ++ B) ∧ Below w.heap.size w w' := by
  have HA := hid ha
  have HB := hid hb
  have hbw : b < w.heap.size := lt_of_cell c0
  obtain ⟨aa, capa, rfl, _, _⟩ := ha
  obtain ⟨ab, capb, rfl, _, _⟩ := hb
  obtain ⟨la, hla⟩ : ∃ n, n = A.length := ⟨_, rfl⟩
  obtain ⟨lb, hlb⟩ : ∃ n, n = B.length := ⟨_, rfl⟩
  rw [← hla] at c0 HA hl
  rw [← hlb] at c1 HB hl
  have HLA := hid hla
  have HLB := hid hlb
  clear hla hlb
  have C0 := hid c0
  have C1 := hid c1
  have e1 : decide ((la : Int) < 0) = false := by rw [decide_eq_false_iff_not]; omega
  have e2 : decide ((la : Int) + (lb : Int) < 0) = false := by rw [decide_eq_false_iff_not]; omega
  have w1 : IntKind.i64.wrap (la : Int) = (la : Int) := by rw [IntKind.wrap_i64]; omega
  have w2 : IntKind.i64.wrap ((la : Int) + (lb : Int)) = (la : Int) + (lb : Int) := by rw [IntKind.wrap_i64]; omega
  go_enter Try.func150, Try.ntmps150
  go_wp2
  go_loopw [3, 11] (fun s i wr => ((i = .int .i64 0 ∧ s = .int .i64 0) ∨ (i = .int .i64 1 ∧ s = .int .i64 la) ∨ (i = .int .i64 2 ∧ s = .int .i64 ((la + lb : Nat) : Int))) ∧ w = wr) (fun _ i _ => 2 - (intOf i).toNat)
  case atStart => exact ⟨.inl ⟨rfl, rfl⟩, rfl⟩
  case round =>
    obtain ⟨hcase, rfl⟩ := hrel
    rcases hcase with ⟨rfl, rfl⟩ | ⟨rfl, rfl⟩ | ⟨rfl, rfl⟩
    · go_wp2
      go_roundw
      case rel => exact ⟨.inr (.inl ⟨rfl, by first | rfl | simp⟩), by first | rfl | trivial⟩
      case measure => simp [intOf]
    · go_wp2
      go_roundw
      case rel => exact ⟨.inr (.inr ⟨rfl, by first | rfl | simp⟩), by first | rfl | trivial⟩
      case measure => simp [intOf]
    · clear e1 e2 w1 w2 c0 c1
      go_wp2_with fail
      refine (growX_any (la + lb) _ (by omega)).mono ?_
      rintro e w3 ⟨vg, rfl, hown, hb3⟩
      have O3 := hid hown
      have B3 := hid hb3
      clear hown hb3
      go_wp2
      go_loopw [6, 27] (fun s i wr => ∃ k : Nat, k ≤ 2 ∧ i = .int .i64 k ∧ wr.ownsRow w.heap.size 9 1 s (catX A B k).length (xflat (catX A B k)) ∧ Below w.heap.size w wr) (fun _ i _ => 2 - (intOf i).toNat)
      case atStart => exact ⟨0, by omega, rfl, O3.out, B3.out⟩
      case round =>
        obtain ⟨k, hk, rfl, hown, hbel⟩ := hrel
        have HO := hid hown
        have HBE := hid hbel
        have hsz := hbel.size
        clear hown hbel O3 B3
        rcases (by omega : k = 0 ∨ k = 1 ∨ k = 2) with rfl | rfl | rfl
        · have c0 : wr.cell? ⟨b, 0, none⟩ = some (.slice aa la capa) := (HBE.out.cell (p := ⟨b, 0, none⟩) hbw).trans C0.out
          obtain ⟨v', w', hrun, hown, hgr, hat⟩ := append_xreads wr w.heap.size u6 0 [] HO.out (.slice aa la capa) A (HA.out.below HBE.out) (by rw [← HLA.out]; omega) hsz 75
          have O4 : Hid (w'.ownsRow w.heap.size 9 1 v' (catX A B 1).length (xflat (catX A B 1))) := by
            rw [Nat.zero_add] at hown
            exact hown
          have B4 : Hid (Below w.heap.size w w') := HBE.out.grown hgr hsz (fun m hm => by have := HO.out.lt m hm; omega)
          clear hown hgr hat
          go_wp2_with (at_builtin; refine Lib.wpList_append_run_sl _ rfl _ _ 75 rfl _ _ rfl rfl hrun ?_)
          go_roundw
          case rel => exact ⟨1, by omega, by go_num, O4.out, B4.out⟩
          case measure => simp [intOf]
        · have c1 : wr.cell? ⟨b, 1, none⟩ = some (.slice ab lb capb) := (HBE.out.cell (p := ⟨b, 1, none⟩) hbw).trans C1.out
          obtain ⟨v', w', hrun, hown, hgr, hat⟩ := append_xreads wr w.heap.size u6 A.length A HO.out (.slice ab lb capb) B (HB.out.below HBE.out) (by rw [← HLA.out, ← HLB.out]; omega) hsz 75
          have O4 : Hid (w'.ownsRow w.heap.size 9 1 v' (catX A B 2).length (xflat (catX A B 2))) := by
            rw [← List.length_append] at hown
            exact hown
          have B4 : Hid (Below w.heap.size w w') := HBE.out.grown hgr hsz (fun m hm => by have := HO.out.lt m hm; omega)
          clear hown hgr hat
          go_wp2_with (at_builtin; refine Lib.wpList_append_run_sl _ rfl _ _ 75 rfl _ _ rfl rfl hrun ?_)
          go_roundw
          case rel => exact ⟨2, by omega, by go_num, O4.out, B4.out⟩
          case measure => simp [intOf]
        · go_wp2
          go_ret
          refine ⟨_, rfl, XOwn.of_owns HO.out ?_, HBE.out⟩
          rw [List.length_append, ← HLA.out, ← HLB.out]
          omega
end Go.Proofs.Ytijojdempijhbad
