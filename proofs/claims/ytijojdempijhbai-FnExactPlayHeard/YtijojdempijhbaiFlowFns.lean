/-
  Flows and buckets as the program's lists have them: plain words.
  Senders in plain words: letters sent, heard of, lost.
  The two ways of saying what spans lie where, one out of the other. Plain facts on the memory.
  impl.endOf, impl.spansBelow: whether spans are good and below many. Nothing old is written.
  Spans of letters that come one by one. Plain arithmetic.
-/
import Derived.Test.YtijojdempijhbaiFlowMath
import Derived.Test.YtijojdempijhbaiSpanMath
import Derived.Test.YtijojdempijhbaiKSpanSf
import Derived.Test.YtijojdempijhbaiSpans
import Derived.Test.YtijojdempijhbaiKSpanRows
import Derived.Test.YtijojdempijhbaiSpanOk
namespace Go.Proofs.Ytijojdempijhbai

def rateB (r d : Int) : Bool := decide (1 ≤ r ∧ r ≤ 20) && decide (1 ≤ d ∧ d ≤ 60)
def flowB (xs : List Int) : Bool := decide (xs.length ≤ 40) && xs.all fun k => decide (0 ≤ k ∧ k ≤ 60)
/-- A list as a flow: nought behind its end. -/
def fl (xs : List Int) (t : Nat) : Int := xs.getD t 0
theorem flowB_len {xs : List Int} (h : flowB xs = true) : xs.length ≤ 40 := by
  unfold flowB at h
  rw [Bool.and_eq_true, decide_eq_true_eq] at h
  exact h.1
theorem flowB_in {xs : List Int} (h : flowB xs = true) (t : Nat) : 0 ≤ fl xs t ∧ fl xs t ≤ 60 := by
  unfold flowB at h
  rw [Bool.and_eq_true, List.all_eq_true] at h
  unfold fl
  by_cases ht : t < xs.length
  · have := h.2 (xs.getD t 0) (by rw [List.getD_eq_getElem?_getD, List.getElem?_eq_getElem ht]; exact List.getElem_mem _)
    rw [decide_eq_true_eq] at this
    exact this
  · rw [List.getD_eq_getElem?_getD, List.getElem?_eq_none (by omega)]
    decide
theorem rateB_in {r d : Int} (h : rateB r d = true) : (1 ≤ r ∧ r ≤ 20) ∧ (1 ≤ d ∧ d ≤ 60) := by
  unfold rateB at h
  rw [Bool.and_eq_true, decide_eq_true_eq, decide_eq_true_eq] at h
  exact h
/-- So many of what goes, and of what waits. -/
def goL (g : Nat → Int) (n : Nat) : List Int := (List.range n).map g
theorem goL_len (g : Nat → Int) (n : Nat) : (goL g n).length = n := by simp [goL]
theorem goL_succ (g : Nat → Int) (n : Nat) : goL g (n + 1) = goL g n ++ [g n] := by simp [goL, List.range_succ]
theorem goL_get {g : Nat → Int} {n i : Nat} (h : i < n) : (goL g n).getD i 0 = g i := by simp [goL, List.getD_eq_getElem?_getD, h]
theorem psum_in {f : Nat → Int} {b : Int} (h : ∀ i, 0 ≤ f i ∧ f i ≤ b) : ∀ n : Nat, 0 ≤ psum f n ∧ psum f n ≤ b * n
  | 0 => by simp [psum]
  | n + 1 => by
    have h1 := psum_in h n
    have h2 := h n
    simp only [psum]
    rw [show ((n + 1 : Nat) : Int) = (n : Int) + 1 by omega, Int.mul_add, Int.mul_one]
    omega
end Go.Proofs.Ytijojdempijhbai
namespace Go.Proofs.Ytijojdempijhbai

/-- Letters that rise, all below many: the first k. -/
def risU (l : List Int) (many : Int) : Nat → Bool
  | 0 => true
  | k + 1 => risU l many k && (decide (0 ≤ fl l k ∧ fl l k ≤ many - 1) && (decide (k = 0) || decide (fl l (k - 1) < fl l k)))
def risB (l : List Int) (many : Int) : Bool := risU l many l.length
theorem risU_no {l : List Int} {many : Int} {k : Nat} (h : risU l many k = false) : ∀ j, k ≤ j → risU l many j = false
  | 0, hj => by obtain rfl : k = 0 := by omega
                exact h
  | j + 1, hj => by
    by_cases e : k = j + 1
    · rw [← e]; exact h
    · simp only [risU]; rw [risU_no h j (by omega)]; rfl
def lastTo (l : List Sp) : Int := (l.getD (l.length - 1) (0, 0)).2
def belB (l : List Sp) (many : Int) : Bool := goodL l && (decide (l.length = 0) || decide (lastTo l ≤ many))
/-- None of the first k is heard of. -/
def noneU (h : List Sp) (l : List Int) : Nat → Bool
  | 0 => true
  | k + 1 => noneU h l k && !hasL h (fl l k)
theorem noneU_no {h : List Sp} {l : List Int} {k : Nat} (e : noneU h l k = false) : ∀ j, k ≤ j → noneU h l j = false
  | 0, hj => by obtain rfl : k = 0 := by omega
                exact e
  | j + 1, hj => by
    by_cases e' : k = j + 1
    · rw [← e']; exact e
    · simp only [noneU]; rw [noneU_no e j (by omega)]; rfl
def goodSd (D : SdD) : Bool := decide (0 ≤ D.f0 ∧ D.f0 ≤ 60) && (belB D.f1 D.f0 && (risB D.f2 D.f0 && noneU D.f1 D.f2 D.f2.length))
def zeroSd : SdD := ⟨0, [], []⟩
def newSdB (n : Int) : Bool := decide (0 ≤ n ∧ n ≤ 60)
def newSd (n : Int) : SdD := bif newSdB n then ⟨n, [], []⟩ else zeroSd
/-- Those neither heard of nor lost, of the first n. -/
def openU (h : List Sp) (l : List Int) : Nat → List Int
  | 0 => []
  | n + 1 => openU h l n ++ (bif hasL h n || l.contains (n : Int) then [] else [(n : Int)])
theorem openU_len (h : List Sp) (l : List Int) : ∀ n, (openU h l n).length ≤ n
  | 0 => by simp [openU]
  | n + 1 => by
    have := openU_len h l n
    simp only [openU, List.length_append]
    cases (hasL h n || l.contains (n : Int)) <;> simp <;> omega
def openL (D : SdD) : List Int := bif goodSd D then openU D.f1 D.f2 D.f0.toNat else []
/-- An order of unlike letters below many: the first k. -/
def oruU (l : List Int) (many : Int) : Nat → Bool
  | 0 => true
  | k + 1 => oruU l many k && (decide (0 ≤ fl l k ∧ fl l k ≤ many - 1) && !(l.take k).contains (fl l k))
def oruB (l : List Int) (many : Int) : Bool := oruU l many l.length
theorem oruU_no {l : List Int} {many : Int} {k : Nat} (h : oruU l many k = false) : ∀ j, k ≤ j → oruU l many j = false
  | 0, hj => by obtain rfl : k = 0 := by omega
                exact h
  | j + 1, hj => by
    by_cases e : k = j + 1
    · rw [← e]; exact h
    · simp only [oruU]; rw [oruU_no h j (by omega)]; rfl
theorem oruU_at {l : List Int} {many : Int} : ∀ k, oruU l many k = true → ∀ i, i < k → 0 ≤ fl l i ∧ fl l i ≤ many - 1
  | 0, _, i, hi => by omega
  | k + 1, h, i, hi => by
    simp only [oruU, Bool.and_eq_true, decide_eq_true_eq] at h
    by_cases e : i = k
    · subst e; exact h.2.1
    · exact oruU_at k h.1 i (by omega)
/-- The greatest so far, and the most by which one was late. -/
def topU (l : List Int) : Nat → Int
  | 0 => -1
  | k + 1 => max (topU l k) (fl l k)
def mostU (l : List Int) : Nat → Int
  | 0 => 0
  | k + 1 => max (mostU l k) (topU l k - fl l k)
theorem topU_in {l : List Int} : ∀ k, (∀ i, i < k → 0 ≤ fl l i ∧ fl l i ≤ 59) → (-1 ≤ topU l k ∧ topU l k ≤ 59) ∧ (0 ≤ mostU l k ∧ mostU l k ≤ 60)
  | 0, _ => by simp [topU, mostU]
  | k + 1, h => by
    have ih := topU_in k fun i hi => h i (by omega)
    have := h k (by omega)
    simp only [topU, mostU]
    omega
def lateN (l : List Int) : Int := bif oruB l 60 then mostU l l.length else 0
/-- Spans of the first k. -/
def acksU (l : List Int) : Nat → List Sp
  | 0 => []
  | k + 1 => addL (acksU l k) (fl l k, fl l k + 1)
end Go.Proofs.Ytijojdempijhbai
namespace Go.Proofs.Ytijojdempijhbai
open Go.RowKit

theorem SpReads.s {w : World} {v : Value} {xs : List Sp} (h : SpReads w v xs) : SReads w v xs := h
theorem SOwn.k {base : Nat} {w : World} {v : Value} {xs : List Sp} (h : SOwn base w v xs) : SpOwn base w.heap.size w v xs := by
  obtain ⟨hl, h⟩ := h
  rcases h with ⟨a, rfl, rfl⟩ | ⟨g, cap, rfl, hg, hf⟩
  · exact ⟨hl, .inl ⟨a, 0, rfl, rfl⟩⟩
  · by_cases h0 : xs = []
    · subst h0
      exact ⟨hl, .inl ⟨_, cap, rfl, rfl⟩⟩
    · exact ⟨hl, .inr ⟨g, cap, rfl, ⟨hg.1, lt_of_cell (hf 0 (List.length_pos_iff.2 h0)).1.1, hg.2⟩, hf⟩⟩
end Go.Proofs.Ytijojdempijhbai
namespace Go.Proofs.Ytijojdempijhbai
open Go.RowKit

def endN (l : List Sp) : Int := bif decide (l.length = 0) then 0 else lastTo l
set_option maxRecDepth 100000 in
set_option maxHeartbeats 4000000 in
theorem iend_eq (v : Value) (xs : List Sp) (z : Int) (h : endN xs = z) (w : World) (hr : SpReads w v xs) :
    Calls Try.prog 79 #[v] w fun e w' => e = .returned (.int .i64 z) ∧ w' = w := by
  have HR := hid hr
  obtain ⟨a, cap, rfl, hl, _⟩ := hr
  by_cases h0 : xs.length = 0
  · have HV : Hid (z = 0) := by show _ = _; rw [← h]; unfold endN; rw [decide_eq_true h0]; rfl
    have hd : ((xs.length : Int) == 0) = true := by rw [beq_iff_eq]; omega
    clear h0 h
    go_enter Try.func79, Try.ntmps79
    go_wp2
    go_ret
    exact ⟨by rw [HV.out]; rfl, rfl⟩
  · have hd : ((xs.length : Int) == 0) = false := by rw [beq_eq_false_iff_ne]; omega
    obtain ⟨g, o, cap', e, hc⟩ := HR.out.cells 0 (by omega)
    cases e
    obtain ⟨k1, hk1⟩ : ∃ k1, k1 = xs.length - 1 := ⟨_, rfl⟩
    have hw1 : IntKind.i64.wrap ((xs.length : Int) - 1) = (k1 : Int) := by rw [hk1, IntKind.wrap_i64]; omega
    have hz : z = lastTo xs := by rw [← h]; unfold endN; rw [decide_eq_false h0]; rfl
    have cz : w.cell? ⟨g, o + k1 * 2 + 1, none⟩ = some (.int .i64 z) := by rw [hz, hk1]; exact (hc (xs.length - 1) (by omega)).2
    have i0 : (0 : Int) ≤ (k1 : Int) := by omega
    have i1 : (k1 : Int) < (xs.length : Int) := by omega
    clear hk1 hz hc h0 h
    go_enter Try.func79, Try.ntmps79
    go_wp2
    go_ret
    exact ⟨rfl, rfl⟩
set_option maxRecDepth 100000 in
set_option maxHeartbeats 4000000 in
theorem ibel_eq (v : Value) (xs : List Sp) (many : Int) (t : Bool) (h : belB xs many = t) (hm : 0 ≤ many) (w : World) (hr : SpReads w v xs) :
    Calls Try.prog 66 #[v, .int .i64 many] w fun e w' => e = .returned (.bool t) ∧ Below w.heap.size w w' := by
  have HT := hid h
  have HR := hid hr
  obtain ⟨a, cap, rfl, hl, _⟩ := hr
  clear h
  go_enter Try.func66, Try.ntmps66
  go_wp2_with fail
  refine (igood_any _ xs _ HR.out.s).mono ?_
  rintro e w1 ⟨rfl, b1⟩
  have HB := hid b1
  have HR1 := hid (HR.out.below b1)
  clear b1
  obtain ⟨g1, hg1⟩ : ∃ b, goodL xs = b := ⟨_, rfl⟩
  rw [hg1]
  have HG := hid hg1
  clear hg1
  cases g1
  · have HV : Hid (t = false) := by show _ = _; rw [← HT.out]; unfold belB; rw [HG.out]; rfl
    go_wp2
    go_ret
    exact ⟨by rw [HV.out]; rfl, HB.out⟩
  obtain ⟨z, hz⟩ : ∃ z, endN xs = z := ⟨_, rfl⟩
  have HZ := hid hz
  have HV : Hid (t = decide (z ≤ many)) := by
    show _ = _
    rw [← HT.out, ← hz]
    unfold belB endN
    rw [HG.out]
    by_cases h0 : xs.length = 0
    · rw [decide_eq_true h0]
      simp [hm]
    · rw [decide_eq_false h0]
      rfl
  clear hz
  go_wp2_with fail
  refine (iend_eq _ xs z HZ.out _ HR1.out).mono ?_
  rintro e w' ⟨rfl, hw⟩; obtain rfl := hw.symm
  go_wp2
  go_ret
  exact ⟨by rw [HV.out]; rfl, HB.out⟩
end Go.Proofs.Ytijojdempijhbai
namespace Go.Proofs.Ytijojdempijhbai

theorem chain_len {p : Int} {l : List Sp} (h : chainB p l = true) : (l.length : Int) ≤ lenL l := by
  induction l generalizing p with
  | nil => simp [lenL]
  | cons x l ih =>
    rw [chain_cons] at h
    have h1 := ih h.2.2
    have h2 := (spB_iff x).1 h.2.1
    simp only [lenL, List.length_cons]
    omega
theorem chain_few {l : List Sp} (h : chainB (-1) l = true) : l.length ≤ 1000000 := by
  have h1 := chain_len h
  have h2 := len_bounds h (by omega)
  omega
theorem acks_chain {xs : List Int} : ∀ k, (∀ i, i < k → 0 ≤ fl xs i ∧ fl xs i ≤ 59) → chainB (-1) (acksU xs k) = true
  | 0, _ => rfl
  | k + 1, h => by
    have h1 := h k (by omega)
    exact addL_chain (acks_chain k fun i hi => h i (by omega)) ((spB_iff _).2 ⟨h1.1, by show fl xs k < fl xs k + 1; omega, by show fl xs k + 1 ≤ 1000000; omega⟩) (by show -1 < fl xs k; omega)
def acksB (xs : List Int) : Bool := oruB xs 60 && decide ((acksU xs xs.length).length ≤ 20)
def acksY (xs : List Int) : List Sp := bif acksB xs then acksU xs xs.length else []
end Go.Proofs.Ytijojdempijhbai
