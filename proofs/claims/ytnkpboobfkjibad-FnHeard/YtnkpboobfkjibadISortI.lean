/-
  slices.Sort at numbers: they lie in order behind it. Nothing else that is old is written.
  Orders of unlike letters, held against the same letters in order. Plain arithmetic.
-/
import Derived.Test.YtnkpboobfkjibadKIntRows
import Derived.Shelf.SortM.Plain
import Derived.Shelf.SortM.SortNone
import Derived.Sort.OwnSortedInts
import Derived.Ground.SlgmProg
import Derived.Test.YtnkpboobfkjibadFlowFns
namespace Go.Proofs.Ytnkpboobfkjibad
open Go.RowKit

open Go.Shelf
def Try.laysSortI_ren : Go.Shelf.Ren := ⟨fun | 5 => 169 | 8 => 184 | 7 => 183 | 19 => 197 | 20 => 198 | 10 => 188 | 11 => 189 | 12 => 190 | 13 => 191 | 14 => 192 | 15 => 193 | 16 => 194 | 17 => 195 | 18 => 196 | 30 => 201 | 31 => 202 | 32 => 203 | 33 => 204 | 34 => 205 | 35 => 206 | 40 => 207 | n => n, fun | 23 => 23 | 25 => 3 | 3 => 3 | 32 => 174 | 22 => 23 | 0 => 0 | 44 => 185 | 46 => 107 | 4 => 4 | 36 => 180 | 35 => 179 | 41 => 31 | 5 => 5 | 9 => 9 | 53 => 190 | 57 => 194 | 63 => 196 | 64 => 101 | n => n, fun | n => n⟩
theorem Try.laysSortI : Go.Proofs.SlLaysM.n5 Try.prog Try.laysSortI_ren := {
  mixed := by kernel_rfl
  f5 := ⟨Try.f169.name, by decide, Try.func169.trans (congrArg some (by kernel_rfl))⟩
  f7 := ⟨Try.f183.name, by decide, Try.func183.trans (congrArg some (by kernel_rfl))⟩
  f8 := Try.func184.trans (congrArg some (by kernel_rfl))
  f10 := ⟨Try.f188.name, by decide, Try.func188.trans (congrArg some (by kernel_rfl))⟩
  f11 := ⟨Try.f189.name, by decide, Try.func189.trans (congrArg some (by kernel_rfl))⟩
  f12 := ⟨Try.f190.name, by decide, Try.func190.trans (congrArg some (by kernel_rfl))⟩
  f13 := ⟨Try.f191.name, by decide, Try.func191.trans (congrArg some (by kernel_rfl))⟩
  f14 := ⟨Try.f192.name, by decide, Try.func192.trans (congrArg some (by kernel_rfl))⟩
  f15 := ⟨Try.f193.name, by decide, Try.func193.trans (congrArg some (by kernel_rfl))⟩
  f16 := ⟨Try.f194.name, by decide, Try.func194.trans (congrArg some (by kernel_rfl))⟩
  f17 := ⟨Try.f195.name, by decide, Try.func195.trans (congrArg some (by kernel_rfl))⟩
  f18 := ⟨Try.f196.name, by decide, Try.func196.trans (congrArg some (by kernel_rfl))⟩
  f19 := Try.func197.trans (congrArg some (by kernel_rfl))
  f20 := Try.func198.trans (congrArg some (by kernel_rfl))
  f30 := ⟨Try.f201.name, by decide, Try.func201.trans (congrArg some (by kernel_rfl))⟩
  f31 := Try.func202.trans (congrArg some (by kernel_rfl))
  f32 := Try.func203.trans (congrArg some (by kernel_rfl))
  f33 := ⟨Try.f204.name, by decide, Try.func204.trans (congrArg some (by kernel_rfl))⟩
  f34 := ⟨Try.f205.name, by decide, Try.func205.trans (congrArg some (by kernel_rfl))⟩
  f35 := ⟨Try.f206.name, by decide, Try.func206.trans (congrArg some (by kernel_rfl))⟩
  f40 := ⟨Try.f207.name, by decide, Try.func207.trans (congrArg some (by kernel_rfl))⟩
  t0 := Try.underlying0
  a0 := Try.isAgg0
  z0 := Try.sizeOf0
  v0 := Try.zeroValue0
  t3 := Try.underlying3
  a3 := Try.isAgg3
  z3 := Try.sizeOf3
  v3 := Try.zeroValue3
  t4 := Try.underlying4
  a4 := Try.isAgg4
  z4 := Try.sizeOf4
  v4 := Try.zeroValue4
  t5 := Try.underlying5
  a5 := Try.isAgg5
  z5 := Try.sizeOf5
  v5 := Try.zeroValue5
  t9 := Try.underlying9
  a9 := Try.isAgg9
  z9 := Try.sizeOf9
  v9 := Try.zeroValue9
  t22 := Try.underlying23
  a22 := Try.isAgg23
  z22 := Try.sizeOf23
  v22 := Try.zeroValue23
  t23 := Try.underlying23
  a23 := Try.isAgg23
  z23 := Try.sizeOf23
  v23 := Try.zeroValue23
  t25 := Try.underlying3
  a25 := Try.isAgg3
  z25 := Try.sizeOf3
  v25 := Try.zeroValue3
  t32 := Try.underlying174
  a32 := Try.isAgg174
  z32 := Try.sizeOf174
  v32 := Try.zeroValue174
  t35 := Try.underlying179
  a35 := Try.isAgg179
  z35 := Try.sizeOf179
  v35 := Try.zeroValue179
  t36 := Try.underlying180
  a36 := Try.isAgg180
  z36 := Try.sizeOf180
  v36 := Try.zeroValue180
  t41 := Try.underlying31
  a41 := Try.isAgg31
  z41 := Try.sizeOf31
  v41 := Try.zeroValue31
  t44 := Try.underlying185
  a44 := Try.isAgg185
  z44 := Try.sizeOf185
  v44 := Try.zeroValue185
  t46 := Try.underlying107
  a46 := Try.isAgg107
  z46 := Try.sizeOf107
  v46 := Try.zeroValue107
  t53 := Try.underlying190
  a53 := Try.isAgg190
  z53 := Try.sizeOf190
  v53 := Try.zeroValue190
  t57 := Try.underlying194
  a57 := Try.isAgg194
  z57 := Try.sizeOf194
  v57 := Try.zeroValue194
  t63 := Try.underlying196
  a63 := Try.isAgg196
  z63 := Try.sizeOf196
  v63 := Try.zeroValue196
  t64 := Try.underlying101
  a64 := Try.isAgg101
  z64 := Try.sizeOf101
  v64 := Try.zeroValue101 }
theorem isort_none (a : Option Addr) (cap : Nat) (w : World) : Calls Try.prog 169 #[.slice a 0 cap] w fun e w' => e = .returned (.tuple #[]) ∧ w' = w :=
  AnyM.slices_Sort_int_none Try.laysSortI a cap w
def leZ (x y : Int) : Bool := decide (x ≤ y)
/-- A row of one's own behind the sort. -/
theorem isort_any (base g cap : Nat) (ss : List Int) (w : World) (hs : 0 < ss.length) (ho : w.ownsRow base 3 1 (.slice (some ⟨g, 0, none⟩) ss.length cap) ss.length (kflat ss)) (hn : ss.length ≤ 1000000) :
    Calls Try.prog 169 #[.slice (some ⟨g, 0, none⟩) ss.length cap] w fun e w' => e = .returned (.tuple #[]) ∧
      w'.ownsRow base 3 1 (.slice (some ⟨g, 0, none⟩) ss.length cap) ss.length (kflat (ss.mergeSort leZ)) ∧ w.grownBy w' (some g) ∧ base ≤ g := by
  rcases ho.2 with ⟨hnil, _⟩ | ⟨g', cap', cur, e, hbase, hb, h1, h2, h3, h4⟩
  · cases hnil
  cases e
  have hH : Go.Sort.Holds (Value.int .i64) w g 0 ss.toArray := Go.holds_of_blockI hb (by rw [Nat.mul_one] at h4; exact h4)
  have hgl : g < w.heap.size := (Array.getElem?_eq_some_iff.1 hb).1
  refine (AnyM.slices_Sort_int Try.laysSortI g 0 cap ss w hH hgl (by omega)).mono ?_
  rintro e w' ⟨rfl, nn, os, rfl⟩
  exact ⟨rfl, Go.ownsRow_sortedI (by simp) hbase hb h1 h2 h3, Go.grownBy_sortedI _, hbase⟩
theorem sort_lt (ss : List Int) (hd : ss.Nodup) : (ss.mergeSort leZ).Pairwise (· < ·) := by
  have h1 : (ss.mergeSort leZ).Pairwise (fun a b => leZ a b = true) := List.pairwise_mergeSort (fun a b c h1 h2 => by simp only [leZ, decide_eq_true_eq] at *; omega) (fun a b => by simp only [leZ, Bool.or_eq_true, decide_eq_true_eq]; omega) ss
  have h2 : (ss.mergeSort leZ).Nodup := (List.mergeSort_perm ss leZ).nodup_iff.2 hd
  have h3 := h1.and h2
  exact h3.imp fun {a b} h => by
    have := h.1
    simp only [leZ, decide_eq_true_eq] at this
    have := h.2
    omega
theorem sort_mem (ss : List Int) (x : Int) : x ∈ ss.mergeSort leZ ↔ x ∈ ss := (List.mergeSort_perm ss leZ).mem_iff
/-- Two rising lists of the same numbers are one. -/
theorem rising_eq : ∀ {l l' : List Int}, l.Pairwise (· < ·) → l'.Pairwise (· < ·) → (∀ x, x ∈ l ↔ x ∈ l') → l = l'
  | [], [], _, _, _ => rfl
  | [], b :: l', _, _, h => absurd ((h b).2 (by simp)) (by simp)
  | a :: l, [], _, _, h => absurd ((h a).1 (by simp)) (by simp)
  | a :: l, b :: l', h1, h2, h => by
    rw [List.pairwise_cons] at h1 h2
    have hab : a = b := by
      rcases List.mem_cons.1 ((h a).1 (by simp)) with e | e
      · exact e
      · rcases List.mem_cons.1 ((h b).2 (by simp)) with e' | e'
        · exact e'.symm
        · have := h1.1 b e'
          have := h2.1 a e
          omega
    subst hab
    rw [rising_eq h1.2 h2.2 fun x => ?_]
    constructor
    · intro hx
      rcases List.mem_cons.1 ((h x).1 (by simp [hx])) with e | e
      · have := h1.1 x hx
        omega
      · exact e
    · intro hx
      rcases List.mem_cons.1 ((h x).2 (by simp [hx])) with e | e
      · have := h2.1 x hx
        omega
      · exact e
end Go.Proofs.Ytnkpboobfkjibad
namespace Go.Proofs.Ytnkpboobfkjibad

theorem fl_get {l : List Int} {i : Nat} (h : i < l.length) : fl l i = l[i] := by show l.getD i 0 = _; simp [List.getD_eq_getElem?_getD, h]
theorem oruU_iff (l : List Int) (many : Int) : ∀ k, k ≤ l.length → (oruU l many k = true ↔ (l.take k).Nodup ∧ ∀ x ∈ l.take k, 0 ≤ x ∧ x ≤ many - 1)
  | 0, _ => by simp [oruU]
  | k + 1, hk => by
    have ih := oruU_iff l many k (by omega)
    show (oruU l many k && (decide (0 ≤ fl l k ∧ fl l k ≤ many - 1) && !(l.take k).contains (fl l k))) = true ↔ _
    rw [Bool.and_eq_true, Bool.and_eq_true, decide_eq_true_eq, ih, List.take_succ_eq_append_getElem (by omega), ← fl_get (by omega : k < l.length), List.nodup_append, Bool.not_eq_true', List.contains_eq_mem, decide_eq_false_iff_not]
    constructor
    · rintro ⟨⟨h1, h2⟩, h3, h4⟩
      refine ⟨⟨h1, by simp, fun a ha b hb e => ?_⟩, fun x hx => ?_⟩
      · rw [List.mem_singleton] at hb
        subst hb e
        exact h4 ha
      · rcases List.mem_append.1 hx with h | h
        · exact h2 x h
        · rw [List.mem_singleton.1 h]; exact h3
    · rintro ⟨⟨h1, _, h3⟩, h4⟩
      exact ⟨⟨h1, fun x hx => h4 x (List.mem_append_left _ hx)⟩, h4 _ (by simp), fun h => h3 _ h _ (by simp) rfl⟩
theorem oruB_iff (l : List Int) (many : Int) : oruB l many = true ↔ l.Nodup ∧ ∀ x ∈ l, 0 ≤ x ∧ x ≤ many - 1 := by
  have h := oruU_iff l many l.length (Nat.le_refl _)
  rw [List.take_length] at h
  exact h
theorem risU_iff (l : List Int) (many : Int) : ∀ k, risU l many k = true ↔ ∀ i, i < k → (0 ≤ fl l i ∧ fl l i ≤ many - 1) ∧ (i = 0 ∨ fl l (i - 1) < fl l i)
  | 0 => by simp [risU]
  | k + 1 => by
    have ih := risU_iff l many k
    show (risU l many k && (decide (0 ≤ fl l k ∧ fl l k ≤ many - 1) && (decide (k = 0) || decide (fl l (k - 1) < fl l k)))) = true ↔ _
    rw [Bool.and_eq_true, Bool.and_eq_true, Bool.or_eq_true, decide_eq_true_eq, decide_eq_true_eq, decide_eq_true_eq, ih]
    constructor
    · rintro ⟨h1, h2⟩ i hi
      by_cases e : i = k
      · subst e; exact h2
      · exact h1 i (by omega)
    · intro h
      exact ⟨fun i hi => h i (by omega), h k (by omega)⟩
theorem risB_rising {l : List Int} (h : l.Pairwise (· < ·)) (many : Int) : risB l many = true ↔ ∀ x ∈ l, 0 ≤ x ∧ x ≤ many - 1 := by
  unfold risB
  rw [risU_iff]
  constructor
  · intro hh x hx
    obtain ⟨i, hi, rfl⟩ := List.getElem_of_mem hx
    have := (hh i hi).1
    rwa [fl_get hi] at this
  · intro hh i hi
    rw [fl_get hi]
    refine ⟨hh _ (List.getElem_mem _), ?_⟩
    by_cases e : i = 0
    · exact .inl e
    · refine .inr ?_
      rw [fl_get (by omega : i - 1 < l.length)]
      exact List.pairwise_iff_getElem.1 h (i - 1) i (by omega) hi (by omega)
/-- The same letters, each once. -/
theorem once (l : List Int) : ∃ d : List Int, d.Nodup ∧ (∀ x, x ∈ d ↔ x ∈ l) ∧ d.length ≤ l.length ∧ (d.length = l.length → l.Nodup) ∧ (l.Nodup → d.length = l.length) := by
  induction l with
  | nil => exact ⟨[], List.nodup_nil, fun x => Iff.rfl, Nat.le_refl _, fun _ => List.nodup_nil, fun _ => rfl⟩
  | cons a l ih =>
    obtain ⟨d, h1, h2, h3, h4, h5⟩ := ih
    by_cases ha : a ∈ l
    · refine ⟨d, h1, fun x => ?_, by simp; omega, fun e => ?_, fun e => ?_⟩
      · rw [h2, List.mem_cons]
        exact ⟨.inr, fun h => h.elim (fun e => e ▸ ha) id⟩
      · simp at e; omega
      · exact absurd ha (List.nodup_cons.1 e).1
    · refine ⟨a :: d, List.nodup_cons.2 ⟨fun h => ha ((h2 a).1 h), h1⟩, fun x => ?_, by simpa using h3, fun e => ?_, fun e => ?_⟩
      · rw [List.mem_cons, List.mem_cons, h2]
      · exact List.nodup_cons.2 ⟨ha, h4 (by simpa using e)⟩
      · have := h5 (List.nodup_cons.1 e).2
        simpa using this
theorem rising_len {l : List Int} {m : Nat} (h : l.Pairwise (· < ·)) (hm : ∀ x ∈ l, 0 ≤ x ∧ x < (m : Int)) : l.length ≤ m := by
  have key : ∀ i, (hi : i < l.length) → (i : Int) ≤ l[i] := by
    intro i
    induction i with
    | zero => intro hi; exact (hm _ (List.getElem_mem _)).1
    | succ i ih =>
      intro hi
      have h1 := ih (by omega)
      have h2 := List.pairwise_iff_getElem.1 h i (i + 1) (by omega) hi (by omega)
      omega
  by_cases h0 : l.length = 0
  · omega
  · have h1 := key (l.length - 1) (by omega)
    have h2 := (hm _ (List.getElem_mem (by omega : l.length - 1 < l.length))).2
    omega
theorem nodup_len {l : List Int} {m : Nat} (h : l.Nodup) (hm : ∀ x ∈ l, 0 ≤ x ∧ x < (m : Int)) : l.length ≤ m := by
  have h1 := rising_len (sort_lt l h) (fun x hx => hm x ((sort_mem l x).1 hx))
  rwa [List.length_mergeSort] at h1
theorem oruB_len {l : List Int} {many : Int} (h : oruB l many = true) (hm : many ≤ 60) : l.length ≤ 60 := by
  rw [oruB_iff] at h
  exact nodup_len h.1 fun x hx => by have := h.2 x hx; omega
theorem oru_of_set {l ys : List Int} (hy : ys.Pairwise (· < ·)) (hx : ∀ x, x ∈ ys ↔ x ∈ l) (many : Int) : oruB l many = (decide (ys.length = l.length) && risB ys many) := by
  obtain ⟨d, h1, h2, h3, h4, h5⟩ := once l
  have e : ys = d.mergeSort leZ := rising_eq hy (sort_lt d h1) fun x => by rw [hx, sort_mem, h2]
  have el : ys.length = d.length := by rw [e, List.length_mergeSort]
  rw [Bool.eq_iff_iff, oruB_iff, Bool.and_eq_true, decide_eq_true_eq, risB_rising hy, el]
  constructor
  · rintro ⟨a, b⟩
    exact ⟨h5 a, fun x hh => b x ((hx x).1 hh)⟩
  · rintro ⟨a, b⟩
    exact ⟨h4 a, fun x hh => b x ((hx x).2 hh)⟩
end Go.Proofs.Ytnkpboobfkjibad
