/-
  Pieces without one of them, and what is made of all others (Hamming): plain words.
-/
import Derived.Test.YtijojdempijhbadWpMath
import Derived.Test.YtijojdempijhbadZeroMath
import Derived.Test.YtijojdempijhbadSplMath
namespace Go.Proofs.Ytijojdempijhbad

/-- All of them but the one at k. -/
def allBut (xs : List XEl) (k : Nat) : List XEl := xs.take k ++ xs.drop (k + 1)
def mendB (xs : List XEl) (k : Int) : Bool := goodP xs && decide (0 ≤ k ∧ k < xs.length)
def mendT (xs : List XEl) (k : Int) : ByteArray := if mendB xs k then ⟨(xorL (allBut xs k.toNat) (xs.getD 0 xz).size).toArray⟩ else ByteArray.empty
theorem mendT_no {xs : List XEl} {k : Int} (h : mendB xs k = false) : mendT xs k = ByteArray.empty := by unfold mendT; rw [h]; rfl
theorem mendB_parts {xs : List XEl} {k : Int} (h : mendB xs k = true) : goodP xs = true ∧ ∃ m : Nat, k = m ∧ m < xs.length := by
  unfold mendB at h
  rw [Bool.and_eq_true, decide_eq_true_eq] at h
  exact ⟨h.1, k.toNat, by omega, by omega⟩
theorem mendT_yes {xs : List XEl} {m n : Nat} (h : mendB xs (m : Int) = true) (hn : (xs.getD 0 xz).size = n) : mendT xs (m : Int) = ⟨(xorL (allBut xs m) n).toArray⟩ := by
  unfold mendT
  rw [if_pos h, hn]
  rfl
theorem allBut_len {xs : List XEl} {k : Nat} (h : k < xs.length) : (allBut xs k).length = xs.length - 1 := by
  unfold allBut
  rw [List.length_append, List.length_take, List.length_drop]
  omega
theorem allBut_mem {xs : List XEl} {k : Nat} {s : XEl} (h : s ∈ allBut xs k) : s ∈ xs := by
  unfold allBut at h
  rcases List.mem_append.1 h with h | h
  · exact List.mem_of_mem_take h
  · exact List.mem_of_mem_drop h
theorem xor_fold (ys : List XEl) (j : Nat) : ∀ a : UInt8, ys.foldl (fun a s => a ^^^ bt s j) a = a ^^^ xorB ys j := by
  induction ys with
  | nil => intro a; simp [xorB]
  | cons y ys ih =>
    intro a
    unfold xorB
    rw [List.foldl_cons, List.foldl_cons, ih, ih (0 ^^^ bt y j)]
    simp [UInt8.xor_assoc]
theorem xorB_append (xs ys : List XEl) (j : Nat) : xorB (xs ++ ys) j = xorB xs j ^^^ xorB ys j := by
  show (xs ++ ys).foldl (fun a s => a ^^^ bt s j) 0 = _
  rw [List.foldl_append]
  exact xor_fold ys j _
theorem xorB_one (s : XEl) (j : Nat) : xorB [s] j = bt s j := by simp [xorB]
/-- All together are all others and the one. -/
theorem xorB_but (xs : List XEl) (k j : Nat) (h : k < xs.length) : xorB xs j = xorB (allBut xs k) j ^^^ bt (xs.getD k xz) j := by
  have e : xs = xs.take k ++ ([xs.getD k xz] ++ xs.drop (k + 1)) := by
    have : xs.getD k xz = xs[k] := by simp [List.getD_eq_getElem?_getD, h]
    rw [this, List.singleton_append, ← List.drop_eq_getElem_cons h, List.take_append_drop]
  have e2 : xorB xs j = xorB (xs.take k) j ^^^ (bt (xs.getD k xz) j ^^^ xorB (xs.drop (k + 1)) j) := by
    rw [← xorB_one (xs.getD k xz) j, ← xorB_append, ← xorB_append, ← e]
  rw [e2]
  unfold allBut
  rw [xorB_append, UInt8.xor_assoc, UInt8.xor_comm (bt (xs.getD k xz) j)]
/-- Hamming: where all together are nought, each is all others together. -/
theorem ham (xs : List XEl) (n k : Nat) (h : k < xs.length) (hs : (xs.getD k xz).size = n) (h0 : ∀ j, j < n → xorB xs j = 0) : (⟨(xorL (allBut xs k) n).toArray⟩ : ByteArray) = xs.getD k xz := by
  symm
  refine text_ext _ _ (by rw [length_xorL]; exact hs) fun j hj => ?_
  rw [length_xorL] at hj
  rw [xorL_get _ _ _ hj]
  have h1 := h0 j hj
  rw [xorB_but xs k j h] at h1
  have h2 : xorB (allBut xs k) j = bt (xs.getD k xz) j := by
    have := congrArg (· ^^^ bt (xs.getD k xz) j) h1
    simpa [UInt8.xor_assoc] using this
  exact h2.symm
theorem wp_zero {xs : List XEl} (hg : goodP xs = true) {n : Nat} (hn : (xs.getD 0 xz).size = n) (j : Nat) (hj : j < n) : xorB (xs ++ [parT xs]) j = 0 := by
  rw [xorB_append, xorB_one, parT_yes hg hn, bt_list, xorL_get _ _ _ hj, UInt8.xor_self]
/-- Pieces with their parity behind: pieces, whole; each is made of all others. -/
theorem wp_parts {xs : List XEl} (h : wpB xs = true) : goodP (wpL xs) = true ∧ zeroB (parT (wpL xs)) = true ∧ (wpL xs).length = xs.length + 1 ∧ (wpL xs).getD xs.length xz = parT xs ∧ ∀ k, k < xs.length + 1 → mendB (wpL xs) (k : Int) = true ∧ mendT (wpL xs) (k : Int) = (wpL xs).getD k xz := by
  have h' := h
  unfold wpB at h'
  rw [Bool.and_eq_true, decide_eq_true_eq] at h'
  obtain ⟨hg, h8⟩ := h'
  obtain ⟨n, h1, h2, h3, h4, hs⟩ := goodP_parts hg
  have e : wpL xs = xs ++ [parT xs] := by unfold wpL; rw [if_pos h]
  have hps : (parT xs).size = n := by
    rw [parT_yes hg h1]
    show (xorL xs n).toArray.size = n
    rw [List.size_toArray, length_xorL]
  have hs' : ∀ s ∈ wpL xs, s.size = n := by
    intro s hm
    rw [e] at hm
    rcases List.mem_append.1 hm with hm | hm
    · exact hs s hm
    · rw [List.mem_singleton.1 hm]; exact hps
  have hl : (wpL xs).length = xs.length + 1 := by rw [e]; simp
  have hgw : goodP (wpL xs) = true := goodP_of (by omega) (by omega) h2 hs'
  have hn' : ((wpL xs).getD 0 xz).size = n := hs' _ (by simp [List.getD_eq_getElem?_getD, show 0 < (wpL xs).length by omega])
  have hz : ∀ j, j < n → xorB (wpL xs) j = 0 := fun j hj => by rw [e]; exact wp_zero hg h1 j hj
  refine ⟨hgw, ?_, hl, by rw [e]; simp [List.getD_eq_getElem?_getD], fun k hk => ?_⟩
  · rw [parT_yes hgw hn', zeroB_list, length_xorL, List.eq_replicate_iff]
    refine ⟨length_xorL _ _, fun b hb => ?_⟩
    obtain ⟨j, hj, rfl⟩ := List.mem_map.1 hb
    exact hz j (List.mem_range.1 hj)
  · have hb : mendB (wpL xs) (k : Int) = true := by
      unfold mendB
      rw [hgw, Bool.true_and, decide_eq_true_eq]
      omega
    refine ⟨hb, ?_⟩
    rw [mendT_yes hb hn']
    exact ham _ n k (by omega) (hs' _ (by simp [List.getD_eq_getElem?_getD, show k < (wpL xs).length by omega])) hz
end Go.Proofs.Ytijojdempijhbad
