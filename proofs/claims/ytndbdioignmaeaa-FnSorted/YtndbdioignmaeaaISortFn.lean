/-
  impl.SortWork: all of a list of work, from the least on, in memory of its own. Nothing old is written.
-/
import Derived.Test.YtndbdioignmaeaaIMoved
import Derived.Test.YtndbdioignmaeaaIOrder
import Derived.Test.YtndbdioignmaeaaWClone
import Derived.Test.YtndbdioignmaeaaPushMath
namespace Go.Proofs.Ytndbdioignmaeaa
open Go.RowKit

theorem moved_none (a : Option Addr) (cap : Nat) (w : World) :
    Calls Try.prog 91 #[.slice a 0 cap, .func (.func 80) #[] #[], .func (.func 72) #[] #[]] w fun e w' => e = .returned (.slice none 0 0) ∧ Below w.heap.size w w' := by
  go_enter Try.func91, Try.ntmps91
  go_wp2
  go_rounds 1
  go_ret
  exact ⟨rfl, by go_grown⟩
set_option maxHeartbeats 2000000 in
theorem iSortWork_any (v : Value) (xs : List WkEl) (w : World) (hr : WkReads w v xs) :
    Calls Try.prog 44 #[v] w fun e w' => ∃ v', e = .returned (.tuple #[v', .bool (goodW xs)]) ∧ WkOwn w.heap.size w'.heap.size w' v' (sortY xs) ∧ Below w.heap.size w w' := by
  have HR := hid hr
  clear hr
  unfold sortY
  cases hg : goodW xs with
  | false =>
    go_enter Try.func44, Try.ntmps44
    go_wp2_with fail
    refine (igoodWorks_eq v xs false hg _ HR.out).mono ?_
    rintro e w1 ⟨rfl, b1⟩
    have B1 := hid b1
    clear b1
    go_wp2
    go_ret2
    exact ⟨_, rfl, wkown_nil _ _ _ _ _, B1.out⟩
  | true =>
    have hl := goodW_len hg
    rw [if_pos rfl]
    go_enter Try.func44, Try.ntmps44
    go_wp2_with fail
    refine (igoodWorks_eq v xs true hg _ HR.out).mono ?_
    rintro e w1 ⟨rfl, b1⟩
    have B1 := hid b1
    clear b1
    go_wp2_with fail
    refine (wclone_any v xs _ (HR.out.below B1.out) (by omega)).mono ?_
    rintro e w2 ⟨v2, rfl, b2, h2⟩
    have B2 : Hid (Below w.heap.size w w2) := B1.out.trans (b2.mono B1.out.size)
    have hs1 : w.heap.size ≤ w1.heap.size := B1.out.size
    have hs2 : w1.heap.size ≤ w2.heap.size := b2.size
    clear b2 B1
    rcases h2 with ⟨h0, a, rfl⟩ | ⟨h0, h2⟩
    · have HY : Hid (sortL xs = []) := by show _ = _; rw [h0]; rfl
      clear h0
      go_wp2_with fail
      refine (order_none a 0 _).mono ?_
      rintro e w' ⟨rfl, hw⟩; obtain rfl := hw.symm
      go_wp2_with fail
      refine (moved_none a 0 _).mono ?_
      rintro e w4 ⟨rfl, b4⟩
      have B4 : Hid (Below w.heap.size w w4) := B2.out.trans (b4.mono B2.out.size)
      clear b4
      go_wp2
      go_ret2
      exact ⟨_, rfl, by rw [HY.out]; exact wkown_nil _ _ _ _ _, B4.out⟩
    · obtain ⟨g, cap, rfl, hgb, o2⟩ := WkOwn.nonempty h2 (by omega) h0 (Nat.le_refl _)
      have O2 := hid o2
      have hpos : 0 < xs.length := List.length_pos_iff.2 h0
      clear h2 o2 h0
      go_wp2_with fail
      refine (order_any g xs.length cap xs _ O2.out rfl hl hpos).mono ?_
      rintro e w3 ⟨rfl, o3, b3⟩
      have hs3 : w2.heap.size ≤ w3.heap.size := b3.size
      have O3 := hid o3
      have B3 : Hid (Below w.heap.size w w3) := B2.out.trans (b3.to B2.out.size (fun k hk => by omega))
      clear o3 b3
      go_wp2_with fail
      refine (moved_any g xs.length cap (makeL xs).1 _ O3.out (makeL_len xs) hl (by omega) (makeL_heap xs)).mono ?_
      rintro e w4 ⟨v4, rfl, o4, b4⟩
      have O4 := hid (o4.mono (lo' := w.heap.size) (by omega) (Nat.le_refl _))
      have B4 : Hid (Below w.heap.size w w4) := B3.out.trans (b4.to B3.out.size (fun k hk => by omega))
      clear o4 b4
      go_wp2
      go_ret2
      exact ⟨_, rfl, O4.out, B4.out⟩
end Go.Proofs.Ytndbdioignmaeaa
