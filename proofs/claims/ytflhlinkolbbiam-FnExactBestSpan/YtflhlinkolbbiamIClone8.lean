/-
  slices.Clone of numbers: the same numbers in memory of its own. Nothing old is written.
-/
import Derived.Test.YtflhlinkolbbiamKApp5
import Derived.Test.YtflhlinkolbbiamKAppd
import Derived.Lib.SlFresh
namespace Go.Proofs.Ytflhlinkolbbiam
open Go.RowKit

set_option maxHeartbeats 1000000 in
theorem kclone_any (v : Value) (xs : List Int) (w : World) (hr : KReads w v xs) (hx : xs.length ≤ 1000) :
    Calls Try.prog 53 #[v] w fun e w' => ∃ u, e = .returned u ∧ KOwn w.heap.size w'.heap.size w' u xs ∧ KApp w.heap.size w'.heap.size w' u xs ∧ Below w.heap.size w w' := by
  have HR := hid hr
  obtain ⟨a, cap, rfl, hl, hxa⟩ := hr
  have hE : ∀ (a : Option Addr) (n c : Nat) (w' : World), (binOp .eql 22 (.slice a n c) (.slice none 0 0)).run Try.prog w' = .ok (.bool a.isNone) w' := fun a n c w' => Lib.run_eql_slice_nil w' 22 _ a n c 0 0 Try.underlying22
  cases a with
  | none =>
    have h0 : xs = [] := by
      rcases hxa with h | ⟨b, off, e, _⟩
      · exact h
      · cases e
    subst h0
    have hE1 := hE none 0 cap
    simp only [Option.isNone_none] at hE1
    clear hE hxa
    go_enter Try.func53, Try.ntmps53
    go_wp2
    go_ret
    exact ⟨_, rfl, kown_nil _ _ _ _ _, .inl ⟨rfl, _, rfl⟩, Below.refl _ _⟩
  | some a =>
    have b0 : Below w.heap.size w (w.alloc (.cells #[] 3)) := (Below.refl _ _).alloc (Nat.le_refl _) _
    obtain ⟨v', w', hrun, hown, hgr, hat⟩ := append_reads (w.alloc (.cells #[] 3)) w.heap.size (.slice (some ⟨w.heap.size, 0, none⟩) 0 0) 0 [] (World.ownsRow_lit w #[] 0 (Nat.le_refl _) (by decide) rfl) (.slice (some a) xs.length cap) xs (HR.out.below b0) (by omega) (by simp) 22
    have HKA : Hid (KApp w.heap.size w'.heap.size w' v' xs) := by
      rw [Nat.zero_add, List.nil_append] at hown
      exact KApp.of_owns hown rfl
    have HK : Hid (KOwn w.heap.size w'.heap.size w' v' xs) := by
      rw [Nat.zero_add, List.nil_append] at hown
      exact KOwn.of_owns hown (by omega)
    have HB : Hid (Below w.heap.size w w') := b0.grown hgr (by simp) (fun m hm => by cases hm; exact Nat.le_refl _)
    obtain ⟨n, hn⟩ : ∃ n, n = xs.length := ⟨_, rfl⟩
    rw [← hn] at hrun ⊢
    have hE1 := hE (some a) n cap
    simp only [Option.isNone_some] at hE1
    clear hE hxa hown hgr hat b0 hl hx hn
    go_enter Try.func53, Try.ntmps53
    go_wp2_with (at_builtin; refine Lib.wpList_append_run_sl _ rfl _ _ 22 rfl _ _ rfl rfl hrun ?_)
    go_ret
    exact ⟨_, rfl, HK.out, HKA.out, HB.out⟩
end Go.Proofs.Ytflhlinkolbbiam
