/-
  slices.stableCmpFunc, slices.SortStableFunc over at most ten numbers that rise from nought. Nothing but their row is written.
  impl.longestFirst: the chores' numbers from the longest on, in memory of its own. Nothing old is written.
-/
import Derived.Test.YtflhlinkolbbiaeISort6
import Derived.Test.YtflhlinkolbbiaeGiveFns
import Derived.Test.YtflhlinkolbbiaeINums6
namespace Go.Proofs.Ytflhlinkolbbiae
open Go.RowKit

set_option maxRecDepth 100000 in
set_option maxHeartbeats 8000000 in
theorem stable_any (g n cap bk : Nat) (f : Nat → Int) (w : World) (hn : n ≤ 10) (ho : IRow w g n cap (ofN (List.range n))) (hk : KeyIn g w bk n f) :
    Calls Try.prog 123 #[.slice (some ⟨g, 0, none⟩) n cap, .int .i64 n, cmpV bk] w fun e w' => e = .returned (.tuple #[]) ∧ IRow w' g n cap (ofN (byEnd f n)) ∧ But (At g) w w' := by
  have HO := hid ho
  have HK := hid hk
  clear ho hk
  have d0 : decide ((20 : Int) ≤ (n : Int)) = false := by rw [decide_eq_false_iff_not]; omega
  have d1 : decide ((20 : Int) < (n : Int)) = false := by rw [decide_eq_false_iff_not]; omega
  go_enter Try.func123, Try.ntmps123
  go_wp2
  go_loopw [7, 8] (fun a b wr => a = .int .i64 0 ∧ b = .int .i64 20 ∧ w = wr) (fun _ _ _ => 0)
  case atStart => exact ⟨rfl, rfl, rfl⟩
  case round =>
    obtain ⟨rfl, rfl, rfl⟩ := hrel
    go_wp2_with fail
    refine (isort_any g n cap bk f _ hn HO.out HK.out).mono ?_
    rintro e w1 ⟨rfl, hr1, b1⟩
    have R1 := hid hr1
    have B1 := hid b1
    clear hr1 b1
    go_wp2
    go_loopw [6] (fun a wr => a = .int .i64 20 ∧ w1 = wr) (fun _ _ => 0)
    case atStart => exact ⟨rfl, rfl⟩
    case round =>
      obtain ⟨rfl, rfl⟩ := hrel
      go_wp2
      go_end0
      exact ⟨rfl, R1.out, B1.out⟩
set_option maxHeartbeats 2000000 in
theorem sortStable_any (g n cap bk : Nat) (f : Nat → Int) (w : World) (hn : n ≤ 10) (ho : IRow w g n cap (ofN (List.range n))) (hk : KeyIn g w bk n f) :
    Calls Try.prog 111 #[.slice (some ⟨g, 0, none⟩) n cap, cmpV bk] w fun e w' => e = .returned (.tuple #[]) ∧ IRow w' g n cap (ofN (byEnd f n)) ∧ But (At g) w w' := by
  have HO := hid ho
  have HK := hid hk
  clear ho hk
  go_enter Try.func111, Try.ntmps111
  go_wp2_with fail
  refine (stable_any g n cap bk f _ hn HO.out HK.out).mono ?_
  rintro e w1 ⟨rfl, hr1, b1⟩
  have R1 := hid hr1
  have B1 := hid b1
  clear hr1 b1
  go_wp2
  go_end0
  exact ⟨rfl, R1.out, B1.out⟩
end Go.Proofs.Ytflhlinkolbbiae
namespace Go.Proofs.Ytflhlinkolbbiae
open Go.RowKit

set_option maxRecDepth 100000 in
set_option maxHeartbeats 8000000 in
theorem ilongF_any (v : Value) (ls : List Nat) (H : Nat) (hc : Chores ls H) (w : World) (hr : KReads w v (ofN ls)) :
    Calls Try.prog 80 #[v] w fun e w' => ∃ u0, e = .returned u0 ∧ KOwn w.heap.size w'.heap.size w' u0 (ofN (longK ls)) ∧ Below w.heap.size w w' := by
  have HR := hid hr
  have h8 := hc.few
  have HSm : Hid (∀ k, k < ls.length → ls.getD k 0 ≤ 50) := fun k hk => (hc.size k hk).2
  have HLK : Hid (longK ls = byEnd (keyL ls) ls.length) := rfl
  obtain ⟨a, cap, rfl, _, _⟩ := hr
  have hl : (ofN ls).length = ls.length := List.length_map ..
  have HL := hid hl
  rw [hl] at HR ⊢
  clear hc hl
  have cg : (w.alloc (.cells #[.slice a ls.length cap] 48)).cell? ⟨w.heap.size, 0, none⟩ = some (.slice a ls.length cap) := cell_of_row _ _ _ _ _ (0, 0) (heap_alloc_new w _)
  have BG : Hid (Below w.heap.size w (w.alloc (.cells #[.slice a ls.length cap] 48))) := (Below.refl _ _).alloc (Nat.le_refl _) _
  have CG := hid cg
  go_enter Try.func80, Try.ntmps80
  go_wp2_with fail
  refine (inums_any ls.length _ (by omega)).mono ?_
  rintro e w1 ⟨rfl, hrow, hsz, b1⟩
  have B1 : Hid (Below w.heap.size w w1) := BG.out.trans (b1.mono BG.out.size)
  have c1 : w1.cell? ⟨w.heap.size, 0, none⟩ = some (.slice a ls.length cap) := (b1.cell (p := ⟨w.heap.size, 0, none⟩) (by simp)).trans CG.out
  have C1 := hid c1
  rw [World.size_alloc] at hrow hsz
  have R1 := hid hrow
  have Z1 := hid hsz
  clear hrow hsz b1 cg c1
  go_wp2_with fail
  refine (comparing_any _ _ _).mono ?_
  rintro e w2 ⟨rfl, hw2⟩
  have B2 : Hid (Below w1.heap.size w1 w2) := by rw [hw2]; exact (Below.refl _ _).alloc (Nat.le_refl _) _
  have C2 : Hid (w2.cell? ⟨w1.heap.size, 0, none⟩ = some (.func (.func 113) #[] #[.pointer (some ⟨w.heap.size, 0, none⟩)])) := by
    show _ = _
    rw [hw2]
    exact cell_of_row _ _ _ _ _ (0, 0) (heap_alloc_new w1 _)
  have hz := Z1.out
  have L2 : Hid (Below w.heap.size w w2) := B1.out.trans (B2.out.mono (by omega))
  have R2 : Hid (IRow w2 (w.heap.size + 1) ls.length ls.length (ofN (List.range ls.length))) := R1.out.whole B2.out
  have HKey : Hid (KeyIn (w.heap.size + 1) w2 w1.heap.size ls.length (keyL ls)) :=
    keyInC (w.heap.size + 1) w1.heap.size w.heap.size a ls.length cap ls HSm.out w2 HL.out (by omega) (by omega) C2.out ((B2.out.cell (p := ⟨w.heap.size, 0, none⟩) (by show w.heap.size < _; omega)).trans C1.out)
      (fun w' hb => HR.out.below (L2.out.trans (hb.to (by have := L2.out.size; omega) (fun k hk => by omega))))
  clear hw2 hz
  go_wp2_with fail
  refine (sortStable_any (w.heap.size + 1) ls.length ls.length w1.heap.size (keyL ls) _ (by omega) R2.out HKey.out).mono ?_
  rintro e w3 ⟨rfl, hr3, b3⟩
  have O3 : Hid (KOwn w.heap.size w3.heap.size w3 (.slice (some ⟨w.heap.size + 1, 0, none⟩) ls.length ls.length) (ofN (longK ls))) := by rw [HLK.out]; exact hr3.own (by omega) (by omega) hr3.caps.2.2
  have B3 : Hid (Below w.heap.size w w3) := L2.out.trans (b3.to (by have := L2.out.size; omega) (fun k hk => by omega))
  clear hr3 b3
  go_wp2
  go_ret
  exact ⟨_, rfl, O3.out, B3.out⟩
end Go.Proofs.Ytflhlinkolbbiae
