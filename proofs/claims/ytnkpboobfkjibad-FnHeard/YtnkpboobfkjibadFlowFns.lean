/-
  Flows and buckets as the program's lists have them: plain words.
  Numbers that rise below a bound, spans that end below one: plain words.
  impl.risingBelow: whether letters rise, all below many. Nothing is written.
  Senders in plain words: letters sent, heard of, lost.
  Numbers that rise below a bound: each is below it. Plain facts.
  Spans of letters that come one by one. Plain arithmetic.
-/
import Derived.Test.YtnkpboobfkjibadFlowMath
import Derived.Test.YtnkpboobfkjibadSpanMath
import Derived.Test.YtnkpboobfkjibadKIntRows
import Derived.Test.YtnkpboobfkjibadBoxL
namespace Go.Proofs.Ytnkpboobfkjibad

def rateB (r d : Int) : Bool := decide (1 ≤ r ∧ r ≤ 20) && decide (1 ≤ d ∧ d ≤ 60)
def flowB (xs : List Int) : Bool := decide (xs.length ≤ 40) && xs.all fun k => decide (0 ≤ k ∧ k ≤ 60)
/-- A list as a flow: nought behind its end. -/
def fl (xs : List Int) (t : Nat) : Int := xs.getD t 0
theorem flowB_len {xs : List Int} (h : flowB xs = true) : xs.length ≤ 40 := by
  unfold flowB at h
  rw [Bool.and_eq_true, decide_eq_true_eq] at h
  exact h.1
theorem flowB_in {xs : List Int} (h : flowB xs = true) (t : Nat) : 0 ≤ fl xs t ∧ fl xs t ≤ 60 := by
  unfold flowB at h
  rw [Bool.and_eq_true, List.all_eq_true] at h
  unfold fl
  by_cases ht : t < xs.length
  · have := h.2 (xs.getD t 0) (by rw [List.getD_eq_getElem?_getD, List.getElem?_eq_getElem ht]; exact List.getElem_mem _)
    rw [decide_eq_true_eq] at this
    exact this
  · rw [List.getD_eq_getElem?_getD, List.getElem?_eq_none (by omega)]
    decide
theorem rateB_in {r d : Int} (h : rateB r d = true) : (1 ≤ r ∧ r ≤ 20) ∧ (1 ≤ d ∧ d ≤ 60) := by
  unfold rateB at h
  rw [Bool.and_eq_true, decide_eq_true_eq, decide_eq_true_eq] at h
  exact h
/-- So many of what goes, and of what waits. -/
def goL (g : Nat → Int) (n : Nat) : List Int := (List.range n).map g
theorem goL_len (g : Nat → Int) (n : Nat) : (goL g n).length = n := by simp [goL]
theorem goL_succ (g : Nat → Int) (n : Nat) : goL g (n + 1) = goL g n ++ [g n] := by simp [goL, List.range_succ]
theorem goL_get {g : Nat → Int} {n i : Nat} (h : i < n) : (goL g n).getD i 0 = g i := by simp [goL, List.getD_eq_getElem?_getD, h]
theorem psum_in {f : Nat → Int} {b : Int} (h : ∀ i, 0 ≤ f i ∧ f i ≤ b) : ∀ n : Nat, 0 ≤ psum f n ∧ psum f n ≤ b * n
  | 0 => by simp [psum]
  | n + 1 => by
    have h1 := psum_in h n
    have h2 := h n
    simp only [psum]
    rw [show ((n + 1 : Nat) : Int) = (n : Int) + 1 by omega, Int.mul_add, Int.mul_one]
    omega
end Go.Proofs.Ytnkpboobfkjibad
namespace Go.Proofs.Ytnkpboobfkjibad

/-- Letters that rise, all below many: the first k. -/
def risU (l : List Int) (many : Int) : Nat → Bool
  | 0 => true
  | k + 1 => risU l many k && (decide (0 ≤ fl l k ∧ fl l k ≤ many - 1) && (decide (k = 0) || decide (fl l (k - 1) < fl l k)))
def risB (l : List Int) (many : Int) : Bool := risU l many l.length
theorem risU_no {l : List Int} {many : Int} {k : Nat} (h : risU l many k = false) : ∀ j, k ≤ j → risU l many j = false
  | 0, hj => by obtain rfl : k = 0 := by omega
                exact h
  | j + 1, hj => by
    by_cases e : k = j + 1
    · rw [← e]; exact h
    · simp only [risU]; rw [risU_no h j (by omega)]; rfl
def lastTo (l : List Sp) : Int := (l.getD (l.length - 1) (0, 0)).2
def belB (l : List Sp) (many : Int) : Bool := goodL l && (decide (l.length = 0) || decide (lastTo l ≤ many))
end Go.Proofs.Ytnkpboobfkjibad
namespace Go.Proofs.Ytnkpboobfkjibad
open Go.RowKit

set_option maxRecDepth 100000 in
set_option maxHeartbeats 4000000 in
theorem iris_eq (v : Value) (xs : List Int) (many : Int) (t : Bool) (h : risB xs many = t) (w : World) (hr : KReads w v xs) :
    Calls Try.prog 129 #[v, .int .i64 many] w fun e w' => e = .returned (.bool t) ∧ w' = w := by
  have HT := hid h
  have HR := hid hr
  obtain ⟨a, cap, rfl, hl, _⟩ := hr
  clear h
  go_enter Try.func129, Try.ntmps129
  go_wp2
  go_loopw [9] (fun i wr => ∃ k : Nat, k ≤ xs.length ∧ i = .int .i64 k ∧ risU xs many k = true ∧ w = wr) (fun i _ => xs.length - (intOf i).toNat)
  case atStart => exact ⟨0, Nat.zero_le _, rfl, rfl, rfl⟩
  case round =>
    obtain ⟨k, hk, rfl, hu, rfl⟩ := hrel
    have HU := hid hu
    clear hu
    by_cases hlt : k < xs.length
    · obtain ⟨g, o, cap', e, hc⟩ := HR.out.cells k hlt
      cases e
      obtain ⟨x, hx⟩ : ∃ x, x = fl xs k := ⟨_, rfl⟩
      have cx : w.cell? ⟨g, o + k, none⟩ = some (.int .i64 x) := by rw [hx]; exact hc k hlt
      obtain ⟨y, hy⟩ : ∃ y, y = fl xs (k - 1) := ⟨_, rfl⟩
      have HC : Hid (0 < k → w.cell? ⟨g, o + (k - 1), none⟩ = some (.int .i64 y)) := fun h => by rw [hy]; exact hc (k - 1) (by omega)
      obtain ⟨b1, hb1⟩ : ∃ b, decide (0 ≤ x ∧ x ≤ many - 1) = b := ⟨_, rfl⟩
      have HB1 := hid hb1
      have HS : Hid (risU xs many (k + 1) = (b1 && (decide (k = 0) || decide (y < x)))) := by
        show (risU xs many k && _) = _
        rw [HU.out, ← hx, ← hy, hb1]; rfl
      have HF : Hid (risU xs many (k + 1) = false → t = false) := fun h => by rw [← HT.out]; exact risU_no h _ (by omega)
      have m0 : (0 : Int) ≤ (k : Int) := by omega
      have n1 : (k : Int) < (xs.length : Int) := by omega
      clear hx hy hb1 hc
      by_cases hx0 : x < 0
      · have d0 : decide (x < 0) = true := by rw [decide_eq_true_eq]; exact hx0
        have HV : Hid (t = false) := HF.out (by rw [HS.out, ← HB1.out, decide_eq_false (by omega)]; rfl)
        clear hx0
        go_wp2
        go_ret
        exact ⟨by rw [HV.out]; rfl, rfl⟩
      have d0 : decide (x < 0) = false := by rw [decide_eq_false_iff_not]; exact hx0
      by_cases hx1 : many ≤ x
      · have d1 : decide (many ≤ x) = true := by rw [decide_eq_true_eq]; exact hx1
        have HV : Hid (t = false) := HF.out (by rw [HS.out, ← HB1.out, decide_eq_false (by omega)]; rfl)
        clear hx0 hx1
        go_wp2
        go_ret
        exact ⟨by rw [HV.out]; rfl, rfl⟩
      have d1 : decide (many ≤ x) = false := by rw [decide_eq_false_iff_not]; exact hx1
      obtain rfl : true = b1 := by rw [← HB1.out, decide_eq_true (by omega)]
      clear hx0 hx1
      by_cases hk0 : k = 0
      · subst hk0
        rw [Nat.add_zero] at cx
        have HN : Hid (risU xs many (0 + 1) = true) := HS.out
        go_wp2
        go_roundw
        case rel => exact ⟨1, by omega, by go_num, HN.out, by first | rfl | trivial⟩
        case measure => simp [intOf]; omega
      · have hk1 : decide ((0 : Int) < (k : Int)) = true := by rw [decide_eq_true_eq]; omega
        have hw2 : IntKind.i64.wrap ((k : Int) - 1) = ((k - 1 : Nat) : Int) := by rw [IntKind.wrap_i64]; omega
        have cy := HC.out (by omega)
        have i0 : (0 : Int) ≤ ((k - 1 : Nat) : Int) := by omega
        have i1 : ((k - 1 : Nat) : Int) < (xs.length : Int) := by omega
        by_cases hyx : y < x
        · have hd : decide (x ≤ y) = false := by rw [decide_eq_false_iff_not]; omega
          have HN : Hid (risU xs many (k + 1) = true) := by show _ = _; rw [HS.out, decide_eq_true hyx]; simp
          obtain ⟨k1, hk1'⟩ : ∃ k1, k1 = k - 1 := ⟨_, rfl⟩
          rw [← hk1'] at hw2 cy i0 i1
          clear hyx hk1'
          go_wp2
          go_roundw
          case rel => exact ⟨k + 1, by omega, by go_num, HN.out, by first | rfl | trivial⟩
          case measure => simp [intOf]; omega
        · have hd : decide (x ≤ y) = true := by rw [decide_eq_true_eq]; omega
          have HV : Hid (t = false) := HF.out (by rw [HS.out, decide_eq_false hyx, decide_eq_false hk0]; rfl)
          obtain ⟨k1, hk1'⟩ : ∃ k1, k1 = k - 1 := ⟨_, rfl⟩
          rw [← hk1'] at hw2 cy i0 i1
          clear hyx hk1'
          go_wp2
          go_ret
          exact ⟨by rw [HV.out]; rfl, rfl⟩
    · have HV : Hid (t = true) := by show _ = _; rw [← HT.out]; have h := HU.out; rw [show k = xs.length by omega] at h; exact h
      go_wp2
      go_ret
      exact ⟨by rw [HV.out]; rfl, rfl⟩
end Go.Proofs.Ytnkpboobfkjibad
namespace Go.Proofs.Ytnkpboobfkjibad

/-- None of the first k is heard of. -/
def noneU (h : List Sp) (l : List Int) : Nat → Bool
  | 0 => true
  | k + 1 => noneU h l k && !hasL h (fl l k)
theorem noneU_no {h : List Sp} {l : List Int} {k : Nat} (e : noneU h l k = false) : ∀ j, k ≤ j → noneU h l j = false
  | 0, hj => by obtain rfl : k = 0 := by omega
                exact e
  | j + 1, hj => by
    by_cases e' : k = j + 1
    · rw [← e']; exact e
    · simp only [noneU]; rw [noneU_no e j (by omega)]; rfl
def goodSd (D : SdD) : Bool := decide (0 ≤ D.f0 ∧ D.f0 ≤ 60) && (belB D.f1 D.f0 && (risB D.f2 D.f0 && noneU D.f1 D.f2 D.f2.length))
def zeroSd : SdD := ⟨0, [], []⟩
def newSdB (n : Int) : Bool := decide (0 ≤ n ∧ n ≤ 60)
def newSd (n : Int) : SdD := bif newSdB n then ⟨n, [], []⟩ else zeroSd
/-- Those neither heard of nor lost, of the first n. -/
def openU (h : List Sp) (l : List Int) : Nat → List Int
  | 0 => []
  | n + 1 => openU h l n ++ (bif hasL h n || l.contains (n : Int) then [] else [(n : Int)])
theorem openU_len (h : List Sp) (l : List Int) : ∀ n, (openU h l n).length ≤ n
  | 0 => by simp [openU]
  | n + 1 => by
    have := openU_len h l n
    simp only [openU, List.length_append]
    cases (hasL h n || l.contains (n : Int)) <;> simp <;> omega
def openL (D : SdD) : List Int := bif goodSd D then openU D.f1 D.f2 D.f0.toNat else []
/-- An order of unlike letters below many: the first k. -/
def oruU (l : List Int) (many : Int) : Nat → Bool
  | 0 => true
  | k + 1 => oruU l many k && (decide (0 ≤ fl l k ∧ fl l k ≤ many - 1) && !(l.take k).contains (fl l k))
def oruB (l : List Int) (many : Int) : Bool := oruU l many l.length
theorem oruU_no {l : List Int} {many : Int} {k : Nat} (h : oruU l many k = false) : ∀ j, k ≤ j → oruU l many j = false
  | 0, hj => by obtain rfl : k = 0 := by omega
                exact h
  | j + 1, hj => by
    by_cases e : k = j + 1
    · rw [← e]; exact h
    · simp only [oruU]; rw [oruU_no h j (by omega)]; rfl
theorem oruU_at {l : List Int} {many : Int} : ∀ k, oruU l many k = true → ∀ i, i < k → 0 ≤ fl l i ∧ fl l i ≤ many - 1
  | 0, _, i, hi => by omega
  | k + 1, h, i, hi => by
    simp only [oruU, Bool.and_eq_true, decide_eq_true_eq] at h
    by_cases e : i = k
    · subst e; exact h.2.1
    · exact oruU_at k h.1 i (by omega)
/-- The greatest so far, and the most by which one was late. -/
def topU (l : List Int) : Nat → Int
  | 0 => -1
  | k + 1 => max (topU l k) (fl l k)
def mostU (l : List Int) : Nat → Int
  | 0 => 0
  | k + 1 => max (mostU l k) (topU l k - fl l k)
theorem topU_in {l : List Int} : ∀ k, (∀ i, i < k → 0 ≤ fl l i ∧ fl l i ≤ 59) → (-1 ≤ topU l k ∧ topU l k ≤ 59) ∧ (0 ≤ mostU l k ∧ mostU l k ≤ 60)
  | 0, _ => by simp [topU, mostU]
  | k + 1, h => by
    have ih := topU_in k fun i hi => h i (by omega)
    have := h k (by omega)
    simp only [topU, mostU]
    omega
def lateN (l : List Int) : Int := bif oruB l 60 then mostU l l.length else 0
/-- Spans of the first k. -/
def acksU (l : List Int) : Nat → List Sp
  | 0 => []
  | k + 1 => addL (acksU l k) (fl l k, fl l k + 1)
end Go.Proofs.Ytnkpboobfkjibad
namespace Go.Proofs.Ytnkpboobfkjibad

theorem risU_in {l : List Int} {many : Int} : ∀ k, risU l many k = true → ∀ i, i < k → 0 ≤ fl l i ∧ fl l i ≤ many - 1
  | 0, _, i, hi => by omega
  | k + 1, h, i, hi => by
    have h' : (risU l many k && (decide (0 ≤ fl l k ∧ fl l k ≤ many - 1) && (decide (k = 0) || decide (fl l (k - 1) < fl l k)))) = true := h
    rw [Bool.and_eq_true, Bool.and_eq_true, decide_eq_true_eq] at h'
    by_cases e : i = k
    · subst e; exact h'.2.1
    · exact risU_in k h'.1 i (by omega)
theorem risB_mem {l : List Int} {many : Int} (h : risB l many = true) (x : Int) (hx : x ∈ l) : 0 ≤ x ∧ x ≤ many - 1 := by
  obtain ⟨i, hi, rfl⟩ := List.getElem_of_mem hx
  have := risU_in l.length h i hi
  rw [show fl l i = l[i] by show l.getD i 0 = _; simp [List.getD_eq_getElem?_getD, hi]] at this
  exact this
end Go.Proofs.Ytnkpboobfkjibad
namespace Go.Proofs.Ytnkpboobfkjibad

theorem chain_len {p : Int} {l : List Sp} (h : chainB p l = true) : (l.length : Int) ≤ lenL l := by
  induction l generalizing p with
  | nil => simp [lenL]
  | cons x l ih =>
    rw [chain_cons] at h
    have h1 := ih h.2.2
    have h2 := (spB_iff x).1 h.2.1
    simp only [lenL, List.length_cons]
    omega
theorem chain_few {l : List Sp} (h : chainB (-1) l = true) : l.length ≤ 1000000 := by
  have h1 := chain_len h
  have h2 := len_bounds h (by omega)
  omega
theorem acks_chain {xs : List Int} : ∀ k, (∀ i, i < k → 0 ≤ fl xs i ∧ fl xs i ≤ 59) → chainB (-1) (acksU xs k) = true
  | 0, _ => rfl
  | k + 1, h => by
    have h1 := h k (by omega)
    exact addL_chain (acks_chain k fun i hi => h i (by omega)) ((spB_iff _).2 ⟨h1.1, by show fl xs k < fl xs k + 1; omega, by show fl xs k + 1 ≤ 1000000; omega⟩) (by show -1 < fl xs k; omega)
def acksB (xs : List Int) : Bool := oruB xs 60 && decide ((acksU xs xs.length).length ≤ 20)
def acksY (xs : List Int) : List Sp := bif acksB xs then acksU xs xs.length else []
end Go.Proofs.Ytnkpboobfkjibad
