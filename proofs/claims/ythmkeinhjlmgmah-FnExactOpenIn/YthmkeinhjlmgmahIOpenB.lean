/-
  impl.openBelow: letters below many that are in neither set. Nothing old is written.
  Letters neither heard of nor lost: rising, and which they are. Plain arithmetic.
-/
import Derived.Test.YthmkeinhjlmgmahIRows
import Derived.Test.YthmkeinhjlmgmahIWithout
import Derived.Test.YthmkeinhjlmgmahFlowFns
namespace Go.Proofs.Ythmkeinhjlmgmah
open Go.RowKit

/-- From nought on, below n. -/
def upTo (n : Nat) (x : Int) : Bool := decide (0 ≤ x ∧ x < (n : Int))
theorem range_has (n : Nat) (x : Int) : (fromN n).contains x = upTo n x := by
  unfold upTo fromN
  rw [List.contains_eq_mem, decide_eq_decide, List.mem_map]
  constructor
  · rintro ⟨i, hi, rfl⟩
    rw [List.mem_range] at hi
    omega
  · intro h
    exact ⟨x.toNat, by rw [List.mem_range]; omega, by omega⟩
set_option maxRecDepth 100000 in
set_option maxHeartbeats 4000000 in
theorem iopenB_any (n : Nat) (b c m k : Nat) (f g : Int → Bool) (w : World) (hn : n ≤ 60) (hf : MSet w b m f) (hg : MSet w c k g) :
    Calls Try.prog 59 #[.int .i64 (n : Nat), .map (some b), .map (some c)] w fun e w' => ∃ d, e = .returned (.map (some d)) ∧ MSet w' d n (fun x => upTo n x && !f x && !g x) ∧ w.heap.size ≤ d ∧ Below w.heap.size w w' := by
  have HF := hid hf
  have HG := hid hg
  clear hf hg
  go_enter Try.func59, Try.ntmps59
  go_wp2_with fail
  refine (inums11_any n _ (by omega)).mono ?_
  rintro e w1 ⟨rfl, r1, s1, b1⟩
  have HR1 := hid (r1.reads (by omega))
  have HB1 := hid b1
  clear r1 s1 b1
  go_wp2_with fail
  refine (isetof_any _ _ _ HR1.out (fun x hx => by unfold fromN at hx; obtain ⟨i, hi, rfl⟩ := List.mem_map.1 hx; rw [List.mem_range] at hi; exact inW_small (by omega) (by omega)) (by simp [fromN]; omega)).mono ?_
  rintro e w2 ⟨rfl, m2, b2⟩
  have HM2 : Hid (MSet w2 w1.heap.size n (fun x => upTo n x)) := (m2.mono (by simp [fromN])).congr (fun x => range_has n x)
  have HB2 := hid (HB1.out.trans (b2.mono HB1.out.size))
  clear m2 b2 HR1
  go_wp2_with fail
  refine (iwithout_any _ b _ _ _ _ _ HM2.out (HF.out.below HB2.out) (by omega)).mono ?_
  rintro e w3 ⟨rfl, m3, b3⟩
  have HM3 := hid m3
  have HB3 := hid (HB2.out.trans (b3.mono HB2.out.size))
  clear m3 b3 HM2
  go_wp2_with fail
  refine (iwithout_any _ c _ _ _ _ _ HM3.out (HG.out.below HB3.out) (by omega)).mono ?_
  rintro e w4 ⟨rfl, m4, b4⟩
  have HM4 := hid m4
  have HB4 := hid (HB3.out.trans (b4.mono HB3.out.size))
  have hs3 := HB3.out.size
  clear m4 b4 HM3
  go_wp2
  go_ret
  exact ⟨_, rfl, HM4.out, hs3, HB4.out⟩
end Go.Proofs.Ythmkeinhjlmgmah
namespace Go.Proofs.Ythmkeinhjlmgmah

theorem openU_mem (h : List Sp) (l : List Int) : ∀ n x, x ∈ openU h l n ↔ (upTo n x && !hasL h x && !l.contains x) = true
  | 0, x => by
    constructor
    · intro hx; cases hx
    · intro hx
      simp only [Bool.and_eq_true, upTo, decide_eq_true_eq] at hx
      omega
  | n + 1, x => by
    have ih := openU_mem h l n x
    show x ∈ openU h l n ++ _ ↔ _
    rw [List.mem_append, ih]
    simp only [upTo, Bool.and_eq_true, decide_eq_true_eq, Bool.not_eq_true']
    by_cases e : x = (n : Int)
    · subst e
      cases h1 : hasL h (n : Int) <;> cases h2 : l.contains (n : Int) <;> simp <;> omega
    · have hne : ¬ x ∈ (bif hasL h (n : Int) || l.contains (n : Int) then [] else [(n : Int)]) := by
        cases hasL h (n : Int) || l.contains (n : Int)
        · simpa using e
        · simp
      constructor
      · rintro (hx | hx)
        · exact ⟨⟨by omega, hx.1.2⟩, hx.2⟩
        · exact absurd hx hne
      · rintro ⟨⟨h1, h2⟩, h3⟩
        exact .inl ⟨⟨by omega, h2⟩, h3⟩
theorem openU_rising (h : List Sp) (l : List Int) : ∀ n, (openU h l n).Pairwise (· < ·)
  | 0 => List.Pairwise.nil
  | n + 1 => by
    show (openU h l n ++ _).Pairwise _
    rw [List.pairwise_append]
    refine ⟨openU_rising h l n, ?_, fun a ha b hb => ?_⟩
    · cases hasL h (n : Int) || l.contains (n : Int) <;> simp
    · have h1 := (openU_mem h l n a).1 ha
      simp only [upTo, Bool.and_eq_true, decide_eq_true_eq] at h1
      have h2 : b = (n : Int) := by
        revert hb
        cases hasL h (n : Int) || l.contains (n : Int)
        · intro hb; simpa using hb
        · intro hb; simp at hb
      omega
end Go.Proofs.Ythmkeinhjlmgmah
