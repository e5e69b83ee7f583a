/-
  Pieces joined: plain words.
  What was split is joined again: plain words.
-/
import Derived.Test.YtijojdempijhbadPiMath
import Derived.Test.YtijojdempijhbadSplMath
namespace Go.Proofs.Ytijojdempijhbad

def catL (xs : List XEl) : List UInt8 := xs.flatMap fun s => s.data.toList
theorem catL_nil : catL [] = [] := rfl
theorem catL_take (xs : List XEl) (k : Nat) (h : k < xs.length) : catL (xs.take (k + 1)) = catL (xs.take k) ++ (xs.getD k xz).data.toList := by
  unfold catL
  rw [List.take_succ_eq_append_getElem h, List.flatMap_append]
  simp [List.getD_eq_getElem?_getD, h]
theorem catL_len {xs : List XEl} {n : Nat} (h : ∀ s ∈ xs, s.size = n) : (catL xs).length = xs.length * n := by
  induction xs with
  | nil => simp [catL]
  | cons x xs ih =>
    have ih := ih fun s hs => h s (List.mem_cons_of_mem _ hs)
    have hx := h x (by simp)
    unfold catL at ih ⊢
    rw [List.flatMap_cons, List.length_append, ih, List.length_cons, Nat.add_mul, Nat.one_mul]
    have : x.data.toList.length = x.size := by simp
    omega
theorem catL_len_take {xs : List XEl} {n k : Nat} (h : ∀ s ∈ xs, s.size = n) (hk : k ≤ xs.length) : (catL (xs.take k)).length = k * n := by
  rw [catL_len fun s hs => h s (List.mem_of_mem_take hs), List.length_take, Nat.min_eq_left hk]
def joinB (xs : List XEl) (long : Int) : Bool := goodP xs && decide (0 ≤ long ∧ long ≤ (xs.length : Int) * ((xs.getD 0 xz).size : Int))
def joinT (xs : List XEl) (long : Int) : ByteArray := if joinB xs long then ⟨((catL xs).take long.toNat).toArray⟩ else ByteArray.empty
theorem extract_list (l : List UInt8) (k : Nat) (h : k ≤ l.length) : (⟨l.toArray⟩ : ByteArray).extract 0 k = ⟨(l.take k).toArray⟩ := by
  have hs : (⟨l.toArray⟩ : ByteArray).size = l.length := by show l.toArray.size = _; simp
  refine text_ext _ _ ?_ ?_
  · rw [ByteArray.size_extract, hs, List.length_take]; omega
  · intro j hj
    rw [List.length_take] at hj
    rw [bt_extract _ _ _ _ (by rw [hs]; exact h), if_pos (by omega), Nat.zero_add, bt_list]
    rw [List.getD_eq_getElem?_getD, List.getD_eq_getElem?_getD, List.getElem?_take, if_pos (by omega)]
end Go.Proofs.Ytijojdempijhbad
namespace Go.Proofs.Ytijojdempijhbad

theorem catL_app (xs ys : List XEl) : catL (xs ++ ys) = catL xs ++ catL ys := by simp [catL]
theorem catL_spU_len (s : ByteArray) (l : Nat) : ∀ m, (catL (spU s l m)).length = m * l
  | 0 => by simp [catL, spU]
  | m + 1 => by
    rw [spU_succ, catL_app, List.length_append, catL_spU_len s l m]
    have : (catL [pcT s l m]).length = l := by simp [catL, pcT, length_pcL]
    rw [this, Nat.add_mul, Nat.one_mul]
theorem catL_spU (s : ByteArray) (l : Nat) : ∀ m j, j < m * l → (catL (spU s l m)).getD j 0 = bt s j
  | 0, j, h => by simp at h
  | m + 1, j, h => by
    rw [spU_succ, catL_app, List.getD_eq_getElem?_getD]
    by_cases hj : j < m * l
    · rw [List.getElem?_append_left (by rw [catL_spU_len]; exact hj), ← List.getD_eq_getElem?_getD, catL_spU s l m j hj]
    · rw [List.getElem?_append_right (by rw [catL_spU_len]; omega), catL_spU_len]
      have e : catL [pcT s l m] = pcL s l m := by simp [catL, pcT]
      rw [Nat.add_mul, Nat.one_mul] at h
      rw [e, ← List.getD_eq_getElem?_getD, pcL_get s l m _ (by omega)]
      congr 1
      omega
/-- What was split is joined again. -/
theorem join_split {s : ByteArray} {many : Int} (h : splB s many = true) : joinB (splL s many) (s.size : Int) = true ∧ joinT (splL s many) (s.size : Int) = s := by
  obtain ⟨m, l, rfl, h1, h2, h3, h4, h5, h6, h7, e⟩ := splB_parts h
  have hs : ∀ x ∈ spU s l m, x.size = l := by
    intro x hx
    obtain ⟨k, _, rfl⟩ := List.mem_map.1 hx
    show (pcL s l k).toArray.size = l
    rw [List.size_toArray, length_pcL]
  have hl := length_spU s l m
  have hg : goodP (spU s l m) = true := goodP_of (by omega) (by omega) h5 hs
  have h0 : ((spU s l m).getD 0 xz).size = l := hs _ (by simp [List.getD_eq_getElem?_getD, show 0 < (spU s l m).length by omega])
  have hb : joinB (spU s l m) (s.size : Int) = true := by
    unfold joinB
    rw [hg, Bool.true_and, decide_eq_true_eq, h0, hl]
    refine ⟨by omega, ?_⟩
    have : ((m * l : Nat) : Int) = (m : Int) * (l : Int) := by simp
    rw [← this]
    omega
  rw [e]
  refine ⟨hb, ?_⟩
  unfold joinT
  rw [if_pos hb]
  have ht : ((catL (spU s l m)).take s.size).length = s.size := by rw [List.length_take, catL_spU_len]; omega
  symm
  refine text_ext _ _ (by rw [Int.toNat_natCast, ht]) fun j hj => ?_
  rw [Int.toNat_natCast] at hj ⊢
  rw [ht] at hj
  rw [List.getD_eq_getElem?_getD, List.getElem?_take, if_pos hj, ← List.getD_eq_getElem?_getD, catL_spU s l m j (by omega)]
end Go.Proofs.Ytijojdempijhbad
