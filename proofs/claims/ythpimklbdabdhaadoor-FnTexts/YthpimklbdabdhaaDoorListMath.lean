/-
  The numbers of a text, one behind the other: plain arithmetic, no program.
-/
import Derived.Test.YthpimklbdabdhaaDoorGetMath
namespace Go.Proofs.YthpimklbdabdhaaDoor
open Go.RowKit

def goodB (s : ByteArray) (k : Nat) : Bool := decide (k < s.size) && decide (gsz s k ≤ s.size - k) && decide (gnum s k ≤ 1152921504606846975) && decide (szI (gnum s k) = gsz s k)
theorem goodB_iff (s : ByteArray) (k : Nat) : goodB s k = true ↔ GoodAt s k := by
  unfold goodB GoodAt
  simp only [Bool.and_eq_true, decide_eq_true_eq, and_assoc]
theorem gsz_pos (s : ByteArray) (k : Nat) : 1 ≤ gsz s k := by have := gsz_is s k; omega

/-- The numbers from place k on, none where they are not such; at most f steps. -/
def restF (s : ByteArray) : Nat → Nat → Option (List Int)
  | 0, k => if k < s.size then none else some []
  | f + 1, k => if k < s.size then (if goodB s k = true then (restF s f (k + gsz s k)).map (fun l => ((gnum s k : Nat) : Int) :: l) else none) else some []
/-- The same, with as many steps as there are bytes. -/
def restL (s : ByteArray) (k : Nat) : Option (List Int) := restF s (s.size - k) k

theorem restF_enough (s : ByteArray) : ∀ f k, s.size - k ≤ f → restF s f k = restL s k := by
  intro f
  induction f using Nat.strongRecOn with
  | _ f ih =>
    intro k hk
    by_cases hlt : k < s.size
    · obtain ⟨f', rfl⟩ : ∃ f', f = f' + 1 := ⟨f - 1, by omega⟩
      obtain ⟨d, hd⟩ : ∃ d, s.size - k = d + 1 := ⟨s.size - k - 1, by omega⟩
      have hp := gsz_pos s k
      unfold restL
      rw [hd]
      simp only [restF, hlt, if_true]
      rw [ih f' (by omega) (k + gsz s k) (by omega)]
      by_cases he : d = f'
      · subst he
        rw [ih d (by omega) (k + gsz s k) (by omega)]
      · rw [ih d (by omega) (k + gsz s k) (by omega)]
    · unfold restL
      cases f <;> cases s.size - k <;> simp [restF, hlt]
theorem restL_end (s : ByteArray) (k : Nat) (h : ¬ k < s.size) : restL s k = some [] := by
  unfold restL
  cases s.size - k <;> simp [restF, h]
theorem restL_bad (s : ByteArray) (k : Nat) (h : k < s.size) (hg : ¬ GoodAt s k) : restL s k = none := by
  obtain ⟨d, hd⟩ : ∃ d, s.size - k = d + 1 := ⟨s.size - k - 1, by omega⟩
  unfold restL
  rw [hd]
  simp only [restF, h, if_true]
  rw [if_neg (fun e => hg ((goodB_iff s k).1 e))]
theorem restL_good (s : ByteArray) (k : Nat) (hg : GoodAt s k) : restL s k = (restL s (k + gsz s k)).map (fun l => ((gnum s k : Nat) : Int) :: l) := by
  have h := hg.1
  have hp := gsz_pos s k
  obtain ⟨d, hd⟩ : ∃ d, s.size - k = d + 1 := ⟨s.size - k - 1, by omega⟩
  rw [← restF_enough s d (k + gsz s k) (by omega)]
  unfold restL
  rw [hd]
  simp only [restF, h, if_true]
  rw [if_pos ((goodB_iff s k).2 hg)]

/-- What has been read so far, and what is still to be read, are the whole. -/
def Sofar (s : ByteArray) (k : Nat) (acc : List Int) : Prop := restL s 0 = (restL s k).map (acc ++ ·) ∧ acc.length ≤ k ∧ k ≤ s.size
theorem Sofar.start (s : ByteArray) : Sofar s 0 [] := ⟨by simp, by simp, Nat.zero_le _⟩
theorem Sofar.step {s : ByteArray} {k : Nat} {acc : List Int} (h : Sofar s k acc) (hg : GoodAt s k) : Sofar s (k + gsz s k) (acc ++ [((gnum s k : Nat) : Int)]) := by
  obtain ⟨h1, h2, h3⟩ := h
  have hp := gsz_pos s k
  refine ⟨?_, by simp; omega, by have := hg.1; have := hg.2.1; omega⟩
  rw [h1, restL_good s k hg, Option.map_map]
  congr 1
  funext l
  simp
theorem Sofar.done {s : ByteArray} {k : Nat} {acc : List Int} (h : Sofar s k acc) (hk : ¬ k < s.size) : restL s 0 = some acc := by
  rw [h.1, restL_end s k hk]; simp
theorem Sofar.bad {s : ByteArray} {k : Nat} {acc : List Int} (h : Sofar s k acc) (hk : k < s.size) (hg : ¬ GoodAt s k) : restL s 0 = none := by
  rw [h.1, restL_bad s k hk hg]; rfl

/-- What GetList tells. -/
def listR (s : ByteArray) : Option (List Int) := (restL s 0).bind fun l => if l.length ≤ 60 then some l else none
theorem Sofar.full {s : ByteArray} {k : Nat} {acc : List Int} (h : Sofar s k acc) (hg : GoodAt s k) (h60 : acc.length = 60) : listR s = none := by
  unfold listR
  rw [(h.step hg).1]
  cases restL s (k + gsz s k) with
  | none => rfl
  | some l => simp [h60]
end Go.Proofs.YthpimklbdabdhaaDoor
