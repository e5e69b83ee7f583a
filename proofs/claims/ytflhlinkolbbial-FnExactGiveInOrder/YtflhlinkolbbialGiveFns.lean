/-
  What GiveInOrder and GiveLongest answer: plain arithmetic, no program.
-/
import Derived.Test.YtflhlinkolbbialHandFns
namespace Go.Proofs.Ytflhlinkolbbial
open Go.RowKit

/-- What is given by an order. -/
def givesN (ls : List Nat) (H : Nat) (ks : List Nat) : List Nat := (giveP ls H ks ks.length).2
theorem gives_given (ls : List Nat) {H : Nat} (hH : 1 ≤ H) (ks : List Nat) : Given ls (givesN ls H ks) H := ⟨giveP_len2 ls H ks _, fun k _ => giveP_lt ls hH ks _ k⟩
/-- The key by which the longest come first. -/
def keyL (ls : List Nat) (k : Nat) : Int := -((ls.getD k 0 : Nat) : Int)
def longK (ls : List Nat) : List Nat := byEnd (keyL ls) ls.length
theorem longK_len (ls : List Nat) : (longK ls).length = ls.length := byEnd_len _ _
theorem longK_perm (ls : List Nat) : (longK ls).Perm (List.range ls.length) := byEnd_perm _ _
theorem longK_lt (ls : List Nat) : ∀ k, k ∈ longK ls → k < ls.length := fun _ hk => List.mem_range.1 ((longK_perm ls).mem_iff.1 hk)
/-- From the longest on. -/
theorem longK_down (ls : List Nat) : ∀ a k b, longK ls = a ++ k :: b → ∀ x, x ∈ a → ls.getD k 0 ≤ ls.getD x 0 := by
  intro a k b e x hx
  have := byEnd_ends (keyL ls) ls.length
  rw [show byEnd (keyL ls) ls.length = a ++ k :: b from e, List.pairwise_append] at this
  have := this.2.2 x hx k (List.mem_cons_self ..)
  unfold keyL at this
  omega
theorem rangeK_lt (n : Nat) : ∀ k, k ∈ List.range n → k < n := fun _ hk => List.mem_range.1 hk
/-- What is told, of chores in Int. -/
def giL (f : List Nat → List Nat) (xs : List Int) (h : Int) : List Int := if chB xs h = true then ofN (givesN (xs.map Int.toNat) h.toNat (f (xs.map Int.toNat))) else []
def giN (f : List Nat → List Nat) (xs : List Int) (h : Int) : Int := if chB xs h = true then ((spanN (xs.map Int.toNat) (givesN (xs.map Int.toNat) h.toNat (f (xs.map Int.toNat))) h.toNat : Nat) : Int) else 0
theorem toNat_ofN' (ls : List Nat) : (ofN ls).map Int.toNat = ls := by
  induction ls with
  | nil => rfl
  | cons x ls ih => simp only [ofN, List.map_cons, List.map_map] at ih ⊢; rw [ih]; simp
theorem giL_yes (f : List Nat → List Nat) {ls : List Nat} {H : Nat} (hc : Chores ls H) : giL f (ofN ls) (H : Nat) = ofN (givesN ls H (f ls)) := by
  unfold giL
  rw [if_pos (chores_good hc), toNat_ofN', Int.toNat_natCast]
theorem giN_yes (f : List Nat → List Nat) {ls : List Nat} {H : Nat} (hc : Chores ls H) : giN f (ofN ls) (H : Nat) = ((spanN ls (givesN ls H (f ls)) H : Nat) : Int) := by
  unfold giN
  rw [if_pos (chores_good hc), toNat_ofN', Int.toNat_natCast]
theorem giL_no (f : List Nat → List Nat) {xs : List Int} {h : Int} (hc : chB xs h = false) : giL f xs h = [] := by unfold giL; rw [hc]; rfl
theorem giN_no (f : List Nat → List Nat) {xs : List Int} {h : Int} (hc : chB xs h = false) : giN f xs h = 0 := by unfold giN; rw [hc]; rfl
theorem giL_len (f : List Nat → List Nat) (xs : List Int) (h : Int) : (giL f xs h).length ≤ 1048576 := by
  cases hc : chB xs h with
  | false => rw [giL_no f hc]; simp
  | true =>
    obtain ⟨ls, H, rfl, rfl, hg⟩ := chores_of hc
    rw [giL_yes f hg, List.length_map, (gives_given ls hg.h0 (f ls)).len]
    have := hg.few
    omega
def rangeF (ls : List Nat) : List Nat := List.range ls.length
end Go.Proofs.Ytflhlinkolbbial
