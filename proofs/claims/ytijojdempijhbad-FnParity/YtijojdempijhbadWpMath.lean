/-
  Pieces with their parity behind: plain words.
  impl.WithParity: pieces with their parity behind, in memory of their own, or the zero answer; nothing old is written.
-/
import Derived.Test.YtijojdempijhbadPiMath
import Derived.Test.YtijojdempijhbadIEachX
import Derived.Test.YtijojdempijhbadIParity
namespace Go.Proofs.Ytijojdempijhbad

def wpB (xs : List XEl) : Bool := goodP xs && decide (xs.length ≠ 8)
def wpL (xs : List XEl) : List XEl := if wpB xs then xs ++ [parT xs] else []
theorem wpL_len (xs : List XEl) : (wpL xs).length ≤ 1048576 := by
  unfold wpL
  cases h : wpB xs
  · simp
  · simp only [if_true, List.length_append, List.length_singleton]
    unfold wpB at h
    rw [Bool.and_eq_true] at h
    obtain ⟨_, _, _, _, h4, _⟩ := goodP_parts h.1
    omega
end Go.Proofs.Ytijojdempijhbad
namespace Go.Proofs.Ytijojdempijhbad
open Go.RowKit

set_option maxRecDepth 100000 in
set_option maxHeartbeats 4000000 in
theorem iwithpar_any (v : Value) (xs : List XEl) (Y : List XEl) (t : Bool) (hY : wpL xs = Y) (ht : wpB xs = t) (w : World) (hr : XReads w v xs) :
    Calls Try.prog 56 #[v] w fun e w' => ∃ u0, e = .returned (.tuple #[u0, .bool t]) ∧ XOwn w.heap.size w'.heap.size w' u0 Y ∧ Below w.heap.size w w' := by
  have HR := hid hr
  have HY := hid hY
  have Ht := hid ht
  obtain ⟨a, cap, rfl, hll, _⟩ := hr
  obtain ⟨T, hT⟩ : ∃ T, parT xs = T := ⟨_, rfl⟩
  have HT := hid hT
  obtain ⟨g, hg⟩ : ∃ g, goodP xs = g := ⟨_, rfl⟩
  have HG := hid hg
  clear hY ht hT hg
  cases t
  · have HE : Hid (Y = []) := by show _ = _; rw [← HY.out]; unfold wpL; rw [Ht.out]; rfl
    have H8 : Hid (g = true → xs.length = 8) := fun h => by
      have := Ht.out
      unfold wpB at this
      rw [HG.out, h] at this
      simpa using this
    cases g
    · go_enter Try.func56, Try.ntmps56
      go_wp2_with fail
      refine (iparity_any _ xs T false HT.out HG.out _ HR.out).mono ?_
      rintro e w1 ⟨rfl, b1⟩
      go_wp2
      go_ret2
      exact ⟨_, rfl, by rw [HE.out]; exact xown_nil _ _ _ _ _, b1⟩
    · have h8 : ((xs.length : Int) == 8) = true := by have := H8.out rfl; rw [beq_iff_eq]; omega
      go_enter Try.func56, Try.ntmps56
      go_wp2_with fail
      refine (iparity_any _ xs T true HT.out HG.out _ HR.out).mono ?_
      rintro e w1 ⟨rfl, b1⟩
      go_wp2
      go_ret2
      exact ⟨_, rfl, by rw [HE.out]; exact xown_nil _ _ _ _ _, b1⟩
  have hgg : goodP xs = true := by have := Ht.out; unfold wpB at this; rw [Bool.and_eq_true] at this; exact this.1
  have h8' : xs.length ≠ 8 := by have := Ht.out; unfold wpB at this; rw [Bool.and_eq_true] at this; simpa using this.2
  obtain rfl : true = g := by rw [← HG.out, hgg]
  obtain ⟨n, h1, h2, h3, h4, hs⟩ := goodP_parts hgg
  have HE : Hid (Y = xs ++ [T]) := by show _ = _; rw [← HY.out, ← HT.out]; unfold wpL; rw [Ht.out]; rfl
  have HN : Hid (∀ s ∈ xs, s.size ≤ 1000) := fun s hs' => by rw [hs s hs']; omega
  have h8 : ((xs.length : Int) == 8) = false := by rw [← Bool.not_eq_true, beq_iff_eq]; omega
  clear hgg h8' h1 hs HY
  go_enter Try.func56, Try.ntmps56
  go_wp2_with fail
  refine (iparity_any _ xs T true HT.out HG.out _ HR.out).mono ?_
  rintro e w1 ⟨rfl, b1⟩
  have B1 := hid b1
  clear b1
  go_wp2_with fail
  refine (ieachX_any _ xs _ (HR.out.below B1.out) (by omega) HN.out).mono ?_
  rintro e w2 ⟨u, rfl, o2, b2⟩
  have O2 := hid o2
  have B2 := hid b2
  have hs1 := B1.out.size
  have hs2 := B2.out.size
  clear o2 b2
  go_wp2_with (at_builtin; refine wpList_append_xreads _ rfl _ _ rfl w1.heap.size _ _ _ rfl (O2.out.alloc _) _ [T] rfl (xreads_one _ _) (by simp; omega) (by simp; omega) ?_)
  intro v' w3 hown hgrow _
  have HO : Hid (XOwn w.heap.size w3.heap.size w3 v' Y) := by
    show XOwn _ _ _ _ _
    rw [HE.out]
    exact (XOwn.of_owns hown (by simp; omega)).mono hs1 (Nat.le_refl _)
  have HB : Hid (Below w.heap.size w w3) := ((B1.out.trans (B2.out.mono hs1)).alloc (by omega) _).grown hgrow (by simp; omega) (by intro k hk; have := (O2.out.lt k hk).1; omega)
  clear hown hgrow
  go_wp2
  go_ret2
  exact ⟨_, rfl, HO.out, HB.out⟩
end Go.Proofs.Ytijojdempijhbad
