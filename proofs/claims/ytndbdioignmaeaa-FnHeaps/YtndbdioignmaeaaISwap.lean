/-
  impl's method swap of a list of work: two change places. Nothing else is written.
-/
import Derived.Test.YtndbdioignmaeaaWkForm
import Derived.Deep.RegionHeld3
import Derived.Test.YtndbdioignmaeaaBut
namespace Go.Proofs.Ytndbdioignmaeaa
open Go.RowKit

abbrev swapV (v : Value) : Value := .func (.func 99) #[v] #[]
set_option maxHeartbeats 2000000 in
theorem wswap_any (g n cap : Nat) (xs : List WkEl) (i j : Nat) (w : World) (ho : WkOwn g (g + 1) w (.slice (some ⟨g, 0, none⟩) n cap) xs) (hn : xs.length = n) (hi' : i < n) (hj : j < n) :
    Calls Try.prog 99 #[.slice (some ⟨g, 0, none⟩) n cap, .int .i64 i, .int .i64 j] w fun e w' => e = .returned (.tuple #[]) ∧ WkOwn g (g + 1) w' (.slice (some ⟨g, 0, none⟩) n cap) (swapL xs i j) ∧ But (fun k => k = g) w w' := by
  obtain ⟨x, hx0⟩ : ∃ x, x = xs.getD i (0, 0, 0) := ⟨_, rfl⟩
  obtain ⟨y, hy0⟩ : ∃ y, y = xs.getD j (0, 0, 0) := ⟨_, rfl⟩
  have hsw := ho.swap hn i j x y hx0 hy0 hi' hj
  obtain ⟨sw, ⟨⟨f0, f1, f2⟩, ⟨x0, x1, x2⟩, y0, y1, y2⟩, ⟨f3, f4, f5⟩, z, z0, z1, z2⟩ := hsw
  have SW := hid sw
  have n0 : (0 : Int) ≤ (i : Int) := by omega
  have n1 : (i : Int) < (n : Int) := by omega
  have n2 : (0 : Int) ≤ (j : Int) := by omega
  have n3 : (j : Int) < (n : Int) := by omega
  clear sw ho hn hx0 hy0
  go_enter Try.func99, Try.ntmps99
  go_wp2_with fail
  go_region
  go_end0
  exact ⟨rfl, SW.out.below (Below.refl _ _).drew, (but_put3 (P := fun k => k = g) (but_put3 (P := fun k => k = g) (But.refl _ _) rfl _ _) rfl _ _).drew⟩
end Go.Proofs.Ytndbdioignmaeaa
