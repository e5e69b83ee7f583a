/-
  Pieces of one length, and all of them bit for bit unlike, together: plain words.
-/
import Derived.Test.YtnkpboobfkjibakXRows
import Derived.Test.YtnkpboobfkjibakPcRow
namespace Go.Proofs.Ytnkpboobfkjibak

def pieceOk (a s : XEl) : Bool := s.size == a.size && decide (s.size ≤ 16)
def goodP (xs : List XEl) : Bool := decide (1 ≤ xs.length ∧ xs.length ≤ 8) && xs.all (pieceOk (xs.getD 0 xz))
def okU (xs : List XEl) (k : Nat) : Bool := (xs.take k).all (pieceOk (xs.getD 0 xz))
theorem okU_succ (xs : List XEl) (k : Nat) (h : k < xs.length) : okU xs (k + 1) = (okU xs k && pieceOk (xs.getD 0 xz) (xs.getD k xz)) := by
  unfold okU
  rw [List.take_succ_eq_append_getElem h, List.all_append]
  simp [List.getD_eq_getElem?_getD, h]
theorem okU_all (xs : List XEl) : okU xs xs.length = xs.all (pieceOk (xs.getD 0 xz)) := by unfold okU; rw [List.take_length]
theorem all_bad (xs : List XEl) (k : Nat) (h : k < xs.length) (hb : pieceOk (xs.getD 0 xz) (xs.getD k xz) = false) : xs.all (pieceOk (xs.getD 0 xz)) = false := by
  rw [← Bool.not_eq_true, List.all_eq_true]
  intro hh
  have := hh (xs.getD k xz) (by simp [List.getD_eq_getElem?_getD, h])
  rw [hb] at this
  cases this
theorem goodP_bad (xs : List XEl) (k : Nat) (h : k < xs.length) (hb : pieceOk (xs.getD 0 xz) (xs.getD k xz) = false) : goodP xs = false := by
  unfold goodP
  rw [all_bad xs k h hb, Bool.and_false]
/-- What good pieces are. -/
theorem goodP_parts {xs : List XEl} (h : goodP xs = true) : ∃ n : Nat, (xs.getD 0 xz).size = n ∧ n ≤ 16 ∧ 1 ≤ xs.length ∧ xs.length ≤ 8 ∧ ∀ s ∈ xs, s.size = n := by
  simp only [goodP, Bool.and_eq_true, decide_eq_true_eq, List.all_eq_true] at h
  obtain ⟨⟨h1, h2⟩, h3⟩ := h
  have hp : ∀ s ∈ xs, s.size = (xs.getD 0 xz).size ∧ s.size ≤ 16 := fun s hs => by
    have := h3 s hs
    simp only [pieceOk, Bool.and_eq_true, decide_eq_true_eq, beq_iff_eq] at this
    exact this
  have h0 : xs.getD 0 xz ∈ xs := by simp [List.getD_eq_getElem?_getD, show 0 < xs.length by omega]
  exact ⟨_, rfl, (hp _ h0).2, h1, h2, fun s hs => (hp s hs).1⟩
theorem goodP_of {xs : List XEl} {n : Nat} (h1 : 1 ≤ xs.length) (h2 : xs.length ≤ 8) (hn : n ≤ 16) (h : ∀ s ∈ xs, s.size = n) : goodP xs = true := by
  have h0 : xs.getD 0 xz ∈ xs := by simp [List.getD_eq_getElem?_getD, show 0 < xs.length by omega]
  simp only [goodP, Bool.and_eq_true, decide_eq_true_eq, List.all_eq_true]
  refine ⟨⟨h1, h2⟩, fun s hs => ?_⟩
  simp only [pieceOk, Bool.and_eq_true, decide_eq_true_eq, beq_iff_eq]
  rw [h s hs, h _ h0]
  exact ⟨rfl, hn⟩
/-- All of them at one place, bit for bit unlike. -/
def xorB (xs : List XEl) (k : Nat) : UInt8 := xs.foldl (fun a s => a ^^^ bt s k) 0
theorem xorB_nil (k : Nat) : xorB [] k = 0 := rfl
theorem xorB_take (xs : List XEl) (k j : Nat) (h : k < xs.length) : xorB (xs.take (k + 1)) j = xorB (xs.take k) j ^^^ bt (xs.getD k xz) j := by
  unfold xorB
  rw [List.take_succ_eq_append_getElem h, List.foldl_append]
  simp [List.getD_eq_getElem?_getD, h]
def xorL (xs : List XEl) (n : Nat) : List UInt8 := (List.range n).map (xorB xs)
theorem length_xorL (xs : List XEl) (n : Nat) : (xorL xs n).length = n := by simp [xorL]
theorem xorL_get (xs : List XEl) (n j : Nat) (h : j < n) : (xorL xs n).getD j 0 = xorB xs j := by simp [xorL, List.getD_eq_getElem?_getD, h]
def parT (xs : List XEl) : ByteArray := if goodP xs then ⟨(xorL xs (xs.getD 0 xz).size).toArray⟩ else ByteArray.empty
theorem parT_no {xs : List XEl} (h : goodP xs = false) : parT xs = ByteArray.empty := by unfold parT; rw [h]; rfl
theorem parT_yes {xs : List XEl} {n : Nat} (h : goodP xs = true) (hn : (xs.getD 0 xz).size = n) : parT xs = ⟨(xorL xs n).toArray⟩ := by unfold parT; rw [h, hn]; rfl
end Go.Proofs.Ytnkpboobfkjibak
