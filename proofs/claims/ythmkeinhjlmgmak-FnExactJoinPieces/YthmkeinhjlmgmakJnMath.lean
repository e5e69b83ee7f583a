/-
  Pieces joined: plain words.
-/
import Derived.Test.YthmkeinhjlmgmakPiMath
import Derived.Test.YthmkeinhjlmgmakSplMath
namespace Go.Proofs.Ythmkeinhjlmgmak

def catL (xs : List XEl) : List UInt8 := xs.flatMap fun s => s.data.toList
theorem catL_nil : catL [] = [] := rfl
theorem catL_take (xs : List XEl) (k : Nat) (h : k < xs.length) : catL (xs.take (k + 1)) = catL (xs.take k) ++ (xs.getD k xz).data.toList := by
  unfold catL
  rw [List.take_succ_eq_append_getElem h, List.flatMap_append]
  simp [List.getD_eq_getElem?_getD, h]
theorem catL_len {xs : List XEl} {n : Nat} (h : ∀ s ∈ xs, s.size = n) : (catL xs).length = xs.length * n := by
  induction xs with
  | nil => simp [catL]
  | cons x xs ih =>
    have ih := ih fun s hs => h s (List.mem_cons_of_mem _ hs)
    have hx := h x (by simp)
    unfold catL at ih ⊢
    rw [List.flatMap_cons, List.length_append, ih, List.length_cons, Nat.add_mul, Nat.one_mul]
    have : x.data.toList.length = x.size := by simp
    omega
theorem catL_len_take {xs : List XEl} {n k : Nat} (h : ∀ s ∈ xs, s.size = n) (hk : k ≤ xs.length) : (catL (xs.take k)).length = k * n := by
  rw [catL_len fun s hs => h s (List.mem_of_mem_take hs), List.length_take, Nat.min_eq_left hk]
def joinB (xs : List XEl) (long : Int) : Bool := goodP xs && decide (0 ≤ long ∧ long ≤ (xs.length : Int) * ((xs.getD 0 xz).size : Int))
def joinT (xs : List XEl) (long : Int) : ByteArray := if joinB xs long then ⟨((catL xs).take long.toNat).toArray⟩ else ByteArray.empty
theorem extract_list (l : List UInt8) (k : Nat) (h : k ≤ l.length) : (⟨l.toArray⟩ : ByteArray).extract 0 k = ⟨(l.take k).toArray⟩ := by
  have hs : (⟨l.toArray⟩ : ByteArray).size = l.length := by show l.toArray.size = _; simp
  refine text_ext _ _ ?_ ?_
  · rw [ByteArray.size_extract, hs, List.length_take]; omega
  · intro j hj
    rw [List.length_take] at hj
    rw [bt_extract _ _ _ _ (by rw [hs]; exact h), if_pos (by omega), Nat.zero_add, bt_list]
    rw [List.getD_eq_getElem?_getD, List.getD_eq_getElem?_getD, List.getElem?_take, if_pos (by omega)]
end Go.Proofs.Ythmkeinhjlmgmak
