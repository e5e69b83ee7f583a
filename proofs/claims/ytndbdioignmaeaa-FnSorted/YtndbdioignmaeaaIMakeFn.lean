/-
  impl.MakeHeap: a heap of a list of work. Nothing old is written.
-/
import Derived.Test.YtndbdioignmaeaaIOrder
import Derived.Test.YtndbdioignmaeaaWClone
import Derived.Test.YtndbdioignmaeaaMakeMath
namespace Go.Proofs.Ytndbdioignmaeaa
open Go.RowKit

set_option maxHeartbeats 1000000 in
theorem iMakeHeap_any (v : Value) (xs : List WkEl) (w : World) (hr : WkReads w v xs) :
    Calls Try.prog 40 #[v] w fun e w' => ∃ v', e = .returned (.tuple #[v', .bool (goodW xs)]) ∧ WkOwn w.heap.size w'.heap.size w' v' (makeY xs) ∧ Below w.heap.size w w' := by
  have HR := hid hr
  clear hr
  unfold makeY
  cases hg : goodW xs with
  | false =>
    go_enter Try.func40, Try.ntmps40
    go_wp2_with fail
    refine (igoodWorks_eq v xs false hg _ HR.out).mono ?_
    rintro e w1 ⟨rfl, b1⟩
    have B1 := hid b1
    clear b1
    go_wp2
    go_ret2
    exact ⟨_, rfl, wkown_nil _ _ _ _ _, B1.out⟩
  | true =>
    have hl := goodW_len hg
    go_enter Try.func40, Try.ntmps40
    go_wp2_with fail
    refine (igoodWorks_eq v xs true hg _ HR.out).mono ?_
    rintro e w1 ⟨rfl, b1⟩
    have B1 := hid b1
    clear b1
    go_wp2_with fail
    refine (wclone_any v xs _ (HR.out.below B1.out) (by omega)).mono ?_
    rintro e w2 ⟨v2, rfl, b2, h2⟩
    have B2 : Hid (Below w.heap.size w w2) := B1.out.trans (b2.mono B1.out.size)
    have hs1 : w.heap.size ≤ w1.heap.size := B1.out.size
    clear b2 B1
    rcases h2 with ⟨h0, a, rfl⟩ | ⟨h0, h2⟩
    · have HY : Hid ((makeL xs).1 = []) := by show _ = _; rw [h0]; rfl
      clear h0
      go_wp2_with fail
      refine (order_none a 0 _).mono ?_
      rintro e w' ⟨rfl, hw⟩; obtain rfl := hw.symm
      go_wp2
      go_ret2
      exact ⟨_, rfl, by rw [HY.out]; exact wkown_nil _ _ _ _ _, B2.out⟩
    · obtain ⟨g, cap, rfl, hgb, o2⟩ := WkOwn.nonempty h2 (by omega) h0 (Nat.le_refl _)
      have O2 := hid o2
      have hpos : 0 < xs.length := List.length_pos_iff.2 h0
      clear h2 o2 h0
      go_wp2_with fail
      refine (order_any g xs.length cap xs _ O2.out rfl hl hpos).mono ?_
      rintro e w3 ⟨rfl, o3, b3⟩
      have O3 := hid (o3.mono (lo' := w.heap.size) (hi' := w3.heap.size) (by omega) (by have := b3.size; omega))
      have B3 : Hid (Below w.heap.size w w3) := B2.out.trans (b3.to B2.out.size (fun k hk => by omega))
      clear o3 b3
      go_wp2
      go_ret2
      exact ⟨_, rfl, O3.out, B3.out⟩

end Go.Proofs.Ytndbdioignmaeaa
