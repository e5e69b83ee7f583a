/-
  Flows and buckets as the program's lists have them: plain words.
  Senders in plain words: letters sent, heard of, lost.
  impl.openBelow: letters below many that are in neither set. Nothing old is written.
  Letters neither heard of nor lost: rising, and which they are. Plain arithmetic.
-/
import Derived.Test.YthmkeinhjlmgmahFlowMath
import Derived.Test.YthmkeinhjlmgmahSpanMath
import Derived.Test.YthmkeinhjlmgmahKSpanSf
import Derived.Test.YthmkeinhjlmgmahIRows
import Derived.Test.YthmkeinhjlmgmahIPutS
namespace Go.Proofs.Ythmkeinhjlmgmah

def rateB (r d : Int) : Bool := decide (1 ≤ r ∧ r ≤ 20) && decide (1 ≤ d ∧ d ≤ 60)
def flowB (xs : List Int) : Bool := decide (xs.length ≤ 40) && xs.all fun k => decide (0 ≤ k ∧ k ≤ 60)
/-- A list as a flow: nought behind its end. -/
def fl (xs : List Int) (t : Nat) : Int := xs.getD t 0
theorem flowB_len {xs : List Int} (h : flowB xs = true) : xs.length ≤ 40 := by
  unfold flowB at h
  rw [Bool.and_eq_true, decide_eq_true_eq] at h
  exact h.1
theorem flowB_in {xs : List Int} (h : flowB xs = true) (t : Nat) : 0 ≤ fl xs t ∧ fl xs t ≤ 60 := by
  unfold flowB at h
  rw [Bool.and_eq_true, List.all_eq_true] at h
  unfold fl
  by_cases ht : t < xs.length
  · have := h.2 (xs.getD t 0) (by rw [List.getD_eq_getElem?_getD, List.getElem?_eq_getElem ht]; exact List.getElem_mem _)
    rw [decide_eq_true_eq] at this
    exact this
  · rw [List.getD_eq_getElem?_getD, List.getElem?_eq_none (by omega)]
    decide
theorem rateB_in {r d : Int} (h : rateB r d = true) : (1 ≤ r ∧ r ≤ 20) ∧ (1 ≤ d ∧ d ≤ 60) := by
  unfold rateB at h
  rw [Bool.and_eq_true, decide_eq_true_eq, decide_eq_true_eq] at h
  exact h
/-- So many of what goes, and of what waits. -/
def goL (g : Nat → Int) (n : Nat) : List Int := (List.range n).map g
theorem goL_len (g : Nat → Int) (n : Nat) : (goL g n).length = n := by simp [goL]
theorem goL_succ (g : Nat → Int) (n : Nat) : goL g (n + 1) = goL g n ++ [g n] := by simp [goL, List.range_succ]
theorem goL_get {g : Nat → Int} {n i : Nat} (h : i < n) : (goL g n).getD i 0 = g i := by simp [goL, List.getD_eq_getElem?_getD, h]
theorem psum_in {f : Nat → Int} {b : Int} (h : ∀ i, 0 ≤ f i ∧ f i ≤ b) : ∀ n : Nat, 0 ≤ psum f n ∧ psum f n ≤ b * n
  | 0 => by simp [psum]
  | n + 1 => by
    have h1 := psum_in h n
    have h2 := h n
    simp only [psum]
    rw [show ((n + 1 : Nat) : Int) = (n : Int) + 1 by omega, Int.mul_add, Int.mul_one]
    omega
end Go.Proofs.Ythmkeinhjlmgmah
namespace Go.Proofs.Ythmkeinhjlmgmah

/-- Letters that rise, all below many: the first k. -/
def risU (l : List Int) (many : Int) : Nat → Bool
  | 0 => true
  | k + 1 => risU l many k && (decide (0 ≤ fl l k ∧ fl l k ≤ many - 1) && (decide (k = 0) || decide (fl l (k - 1) < fl l k)))
def risB (l : List Int) (many : Int) : Bool := risU l many l.length
theorem risU_no {l : List Int} {many : Int} {k : Nat} (h : risU l many k = false) : ∀ j, k ≤ j → risU l many j = false
  | 0, hj => by obtain rfl : k = 0 := by omega
                exact h
  | j + 1, hj => by
    by_cases e : k = j + 1
    · rw [← e]; exact h
    · simp only [risU]; rw [risU_no h j (by omega)]; rfl
def lastTo (l : List Sp) : Int := (l.getD (l.length - 1) (0, 0)).2
def belB (l : List Sp) (many : Int) : Bool := goodL l && (decide (l.length = 0) || decide (lastTo l ≤ many))
/-- None of the first k is heard of. -/
def noneU (h : List Sp) (l : List Int) : Nat → Bool
  | 0 => true
  | k + 1 => noneU h l k && !hasL h (fl l k)
theorem noneU_no {h : List Sp} {l : List Int} {k : Nat} (e : noneU h l k = false) : ∀ j, k ≤ j → noneU h l j = false
  | 0, hj => by obtain rfl : k = 0 := by omega
                exact e
  | j + 1, hj => by
    by_cases e' : k = j + 1
    · rw [← e']; exact e
    · simp only [noneU]; rw [noneU_no e j (by omega)]; rfl
def goodSd (D : SdD) : Bool := decide (0 ≤ D.f0 ∧ D.f0 ≤ 60) && (belB D.f1 D.f0 && (risB D.f2 D.f0 && noneU D.f1 D.f2 D.f2.length))
def zeroSd : SdD := ⟨0, [], []⟩
def newSdB (n : Int) : Bool := decide (0 ≤ n ∧ n ≤ 60)
def newSd (n : Int) : SdD := bif newSdB n then ⟨n, [], []⟩ else zeroSd
/-- Those neither heard of nor lost, of the first n. -/
def openU (h : List Sp) (l : List Int) : Nat → List Int
  | 0 => []
  | n + 1 => openU h l n ++ (bif hasL h n || l.contains (n : Int) then [] else [(n : Int)])
theorem openU_len (h : List Sp) (l : List Int) : ∀ n, (openU h l n).length ≤ n
  | 0 => by simp [openU]
  | n + 1 => by
    have := openU_len h l n
    simp only [openU, List.length_append]
    cases (hasL h n || l.contains (n : Int)) <;> simp <;> omega
def openL (D : SdD) : List Int := bif goodSd D then openU D.f1 D.f2 D.f0.toNat else []
/-- An order of unlike letters below many: the first k. -/
def oruU (l : List Int) (many : Int) : Nat → Bool
  | 0 => true
  | k + 1 => oruU l many k && (decide (0 ≤ fl l k ∧ fl l k ≤ many - 1) && !(l.take k).contains (fl l k))
def oruB (l : List Int) (many : Int) : Bool := oruU l many l.length
theorem oruU_no {l : List Int} {many : Int} {k : Nat} (h : oruU l many k = false) : ∀ j, k ≤ j → oruU l many j = false
  | 0, hj => by obtain rfl : k = 0 := by omega
                exact h
  | j + 1, hj => by
    by_cases e : k = j + 1
    · rw [← e]; exact h
    · simp only [oruU]; rw [oruU_no h j (by omega)]; rfl
theorem oruU_at {l : List Int} {many : Int} : ∀ k, oruU l many k = true → ∀ i, i < k → 0 ≤ fl l i ∧ fl l i ≤ many - 1
  | 0, _, i, hi => by omega
  | k + 1, h, i, hi => by
    simp only [oruU, Bool.and_eq_true, decide_eq_true_eq] at h
    by_cases e : i = k
    · subst e; exact h.2.1
    · exact oruU_at k h.1 i (by omega)
/-- The greatest so far, and the most by which one was late. -/
def topU (l : List Int) : Nat → Int
  | 0 => -1
  | k + 1 => max (topU l k) (fl l k)
def mostU (l : List Int) : Nat → Int
  | 0 => 0
  | k + 1 => max (mostU l k) (topU l k - fl l k)
theorem topU_in {l : List Int} : ∀ k, (∀ i, i < k → 0 ≤ fl l i ∧ fl l i ≤ 59) → (-1 ≤ topU l k ∧ topU l k ≤ 59) ∧ (0 ≤ mostU l k ∧ mostU l k ≤ 60)
  | 0, _ => by simp [topU, mostU]
  | k + 1, h => by
    have ih := topU_in k fun i hi => h i (by omega)
    have := h k (by omega)
    simp only [topU, mostU]
    omega
def lateN (l : List Int) : Int := bif oruB l 60 then mostU l l.length else 0
/-- Spans of the first k. -/
def acksU (l : List Int) : Nat → List Sp
  | 0 => []
  | k + 1 => addL (acksU l k) (fl l k, fl l k + 1)
end Go.Proofs.Ythmkeinhjlmgmah
namespace Go.Proofs.Ythmkeinhjlmgmah
open Go.RowKit

/-- From nought on, below n. -/
def upTo (n : Nat) (x : Int) : Bool := decide (0 ≤ x ∧ x < (n : Int))
theorem range_has (n : Nat) (x : Int) : (fromN n).contains x = upTo n x := by
  unfold upTo fromN
  rw [List.contains_eq_mem, decide_eq_decide, List.mem_map]
  constructor
  · rintro ⟨i, hi, rfl⟩
    rw [List.mem_range] at hi
    omega
  · intro h
    exact ⟨x.toNat, by rw [List.mem_range]; omega, by omega⟩
set_option maxRecDepth 100000 in
set_option maxHeartbeats 4000000 in
theorem iopenB_any (n : Nat) (b c m k : Nat) (f g : Int → Bool) (w : World) (hn : n ≤ 60) (hf : MSet w b m f) (hg : MSet w c k g) :
    Calls Try.prog 59 #[.int .i64 (n : Nat), .map (some b), .map (some c)] w fun e w' => ∃ d, e = .returned (.map (some d)) ∧ MSet w' d n (fun x => upTo n x && !f x && !g x) ∧ w.heap.size ≤ d ∧ Below w.heap.size w w' := by
  have HF := hid hf
  have HG := hid hg
  clear hf hg
  go_enter Try.func59, Try.ntmps59
  go_wp2_with fail
  refine (inums11_any n _ (by omega)).mono ?_
  rintro e w1 ⟨rfl, r1, s1, b1⟩
  have HR1 := hid (r1.reads (by omega))
  have HB1 := hid b1
  clear r1 s1 b1
  go_wp2_with fail
  refine (isetof_any _ _ _ HR1.out (fun x hx => by unfold fromN at hx; obtain ⟨i, hi, rfl⟩ := List.mem_map.1 hx; rw [List.mem_range] at hi; exact inW_small (by omega) (by omega)) (by simp [fromN]; omega)).mono ?_
  rintro e w2 ⟨rfl, m2, b2⟩
  have HM2 : Hid (MSet w2 w1.heap.size n (fun x => upTo n x)) := (m2.mono (by simp [fromN])).congr (fun x => range_has n x)
  have HB2 := hid (HB1.out.trans (b2.mono HB1.out.size))
  clear m2 b2 HR1
  go_wp2_with fail
  refine (iwithout_any _ b _ _ _ _ _ HM2.out (HF.out.below HB2.out) (by omega)).mono ?_
  rintro e w3 ⟨rfl, m3, b3⟩
  have HM3 := hid m3
  have HB3 := hid (HB2.out.trans (b3.mono HB2.out.size))
  clear m3 b3 HM2
  go_wp2_with fail
  refine (iwithout_any _ c _ _ _ _ _ HM3.out (HG.out.below HB3.out) (by omega)).mono ?_
  rintro e w4 ⟨rfl, m4, b4⟩
  have HM4 := hid m4
  have HB4 := hid (HB3.out.trans (b4.mono HB3.out.size))
  have hs3 := HB3.out.size
  clear m4 b4 HM3
  go_wp2
  go_ret
  exact ⟨_, rfl, HM4.out, hs3, HB4.out⟩
end Go.Proofs.Ythmkeinhjlmgmah
namespace Go.Proofs.Ythmkeinhjlmgmah

theorem openU_mem (h : List Sp) (l : List Int) : ∀ n x, x ∈ openU h l n ↔ (upTo n x && !hasL h x && !l.contains x) = true
  | 0, x => by
    constructor
    · intro hx; cases hx
    · intro hx
      simp only [Bool.and_eq_true, upTo, decide_eq_true_eq] at hx
      omega
  | n + 1, x => by
    have ih := openU_mem h l n x
    show x ∈ openU h l n ++ _ ↔ _
    rw [List.mem_append, ih]
    simp only [upTo, Bool.and_eq_true, decide_eq_true_eq, Bool.not_eq_true']
    by_cases e : x = (n : Int)
    · subst e
      cases h1 : hasL h (n : Int) <;> cases h2 : l.contains (n : Int) <;> simp <;> omega
    · have hne : ¬ x ∈ (bif hasL h (n : Int) || l.contains (n : Int) then [] else [(n : Int)]) := by
        cases hasL h (n : Int) || l.contains (n : Int)
        · simpa using e
        · simp
      constructor
      · rintro (hx | hx)
        · exact ⟨⟨by omega, hx.1.2⟩, hx.2⟩
        · exact absurd hx hne
      · rintro ⟨⟨h1, h2⟩, h3⟩
        exact .inl ⟨⟨by omega, h2⟩, h3⟩
theorem openU_rising (h : List Sp) (l : List Int) : ∀ n, (openU h l n).Pairwise (· < ·)
  | 0 => List.Pairwise.nil
  | n + 1 => by
    show (openU h l n ++ _).Pairwise _
    rw [List.pairwise_append]
    refine ⟨openU_rising h l n, ?_, fun a ha b hb => ?_⟩
    · cases hasL h (n : Int) || l.contains (n : Int) <;> simp
    · have h1 := (openU_mem h l n a).1 ha
      simp only [upTo, Bool.and_eq_true, decide_eq_true_eq] at h1
      have h2 : b = (n : Int) := by
        revert hb
        cases hasL h (n : Int) || l.contains (n : Int)
        · intro hb; simpa using hb
        · intro hb; simp at hb
      omega
end Go.Proofs.Ythmkeinhjlmgmah
