/-
  slices.Sort at numbers: they lie in order behind it. Nothing else that is old is written.
  Orders of unlike letters, held against the same letters in order. Plain arithmetic.
-/
import Derived.Test.YtijojdempijhbaiKIntRows
import Derived.Shelf.SortM.Plain
import Derived.Shelf.SortM.SortNone
import Derived.Sort.OwnSortedInts
import Derived.Ground.SlgmProg
import Derived.Test.YtijojdempijhbaiFlowFns
namespace Go.Proofs.Ytijojdempijhbai
open Go.RowKit

open Go.Shelf
def Try.laysSortI_ren : Go.Shelf.Ren := ⟨fun | 5 => 72 | 8 => 82 | 7 => 81 | 19 => 94 | 20 => 95 | 10 => 85 | 11 => 86 | 12 => 87 | 13 => 88 | 14 => 89 | 15 => 90 | 16 => 91 | 17 => 92 | 18 => 93 | 30 => 96 | 31 => 97 | 32 => 98 | 33 => 99 | 34 => 100 | 35 => 101 | 40 => 102 | n => n, fun | 23 => 22 | 25 => 3 | 3 => 3 | 32 => 98 | 22 => 22 | 0 => 0 | 44 => 112 | 46 => 114 | 4 => 4 | 36 => 105 | 35 => 104 | 41 => 32 | 5 => 5 | 9 => 9 | 53 => 115 | 57 => 119 | 63 => 121 | 64 => 75 | n => n, fun | n => n⟩
theorem Try.laysSortI : Go.Proofs.SlLaysM.n5 Try.prog Try.laysSortI_ren := {
  mixed := by kernel_rfl
  f5 := ⟨Try.f72.name, by decide, Try.func72.trans (congrArg some (by kernel_rfl))⟩
  f7 := ⟨Try.f81.name, by decide, Try.func81.trans (congrArg some (by kernel_rfl))⟩
  f8 := Try.func82.trans (congrArg some (by kernel_rfl))
  f10 := ⟨Try.f85.name, by decide, Try.func85.trans (congrArg some (by kernel_rfl))⟩
  f11 := ⟨Try.f86.name, by decide, Try.func86.trans (congrArg some (by kernel_rfl))⟩
  f12 := ⟨Try.f87.name, by decide, Try.func87.trans (congrArg some (by kernel_rfl))⟩
  f13 := ⟨Try.f88.name, by decide, Try.func88.trans (congrArg some (by kernel_rfl))⟩
  f14 := ⟨Try.f89.name, by decide, Try.func89.trans (congrArg some (by kernel_rfl))⟩
  f15 := ⟨Try.f90.name, by decide, Try.func90.trans (congrArg some (by kernel_rfl))⟩
  f16 := ⟨Try.f91.name, by decide, Try.func91.trans (congrArg some (by kernel_rfl))⟩
  f17 := ⟨Try.f92.name, by decide, Try.func92.trans (congrArg some (by kernel_rfl))⟩
  f18 := ⟨Try.f93.name, by decide, Try.func93.trans (congrArg some (by kernel_rfl))⟩
  f19 := Try.func94.trans (congrArg some (by kernel_rfl))
  f20 := Try.func95.trans (congrArg some (by kernel_rfl))
  f30 := ⟨Try.f96.name, by decide, Try.func96.trans (congrArg some (by kernel_rfl))⟩
  f31 := Try.func97.trans (congrArg some (by kernel_rfl))
  f32 := Try.func98.trans (congrArg some (by kernel_rfl))
  f33 := ⟨Try.f99.name, by decide, Try.func99.trans (congrArg some (by kernel_rfl))⟩
  f34 := ⟨Try.f100.name, by decide, Try.func100.trans (congrArg some (by kernel_rfl))⟩
  f35 := ⟨Try.f101.name, by decide, Try.func101.trans (congrArg some (by kernel_rfl))⟩
  f40 := ⟨Try.f102.name, by decide, Try.func102.trans (congrArg some (by kernel_rfl))⟩
  t0 := Try.underlying0
  a0 := Try.isAgg0
  z0 := Try.sizeOf0
  v0 := Try.zeroValue0
  t3 := Try.underlying3
  a3 := Try.isAgg3
  z3 := Try.sizeOf3
  v3 := Try.zeroValue3
  t4 := Try.underlying4
  a4 := Try.isAgg4
  z4 := Try.sizeOf4
  v4 := Try.zeroValue4
  t5 := Try.underlying5
  a5 := Try.isAgg5
  z5 := Try.sizeOf5
  v5 := Try.zeroValue5
  t9 := Try.underlying9
  a9 := Try.isAgg9
  z9 := Try.sizeOf9
  v9 := Try.zeroValue9
  t22 := Try.underlying22
  a22 := Try.isAgg22
  z22 := Try.sizeOf22
  v22 := Try.zeroValue22
  t23 := Try.underlying22
  a23 := Try.isAgg22
  z23 := Try.sizeOf22
  v23 := Try.zeroValue22
  t25 := Try.underlying3
  a25 := Try.isAgg3
  z25 := Try.sizeOf3
  v25 := Try.zeroValue3
  t32 := Try.underlying98
  a32 := Try.isAgg98
  z32 := Try.sizeOf98
  v32 := Try.zeroValue98
  t35 := Try.underlying104
  a35 := Try.isAgg104
  z35 := Try.sizeOf104
  v35 := Try.zeroValue104
  t36 := Try.underlying105
  a36 := Try.isAgg105
  z36 := Try.sizeOf105
  v36 := Try.zeroValue105
  t41 := Try.underlying32
  a41 := Try.isAgg32
  z41 := Try.sizeOf32
  v41 := Try.zeroValue32
  t44 := Try.underlying112
  a44 := Try.isAgg112
  z44 := Try.sizeOf112
  v44 := Try.zeroValue112
  t46 := Try.underlying114
  a46 := Try.isAgg114
  z46 := Try.sizeOf114
  v46 := Try.zeroValue114
  t53 := Try.underlying115
  a53 := Try.isAgg115
  z53 := Try.sizeOf115
  v53 := Try.zeroValue115
  t57 := Try.underlying119
  a57 := Try.isAgg119
  z57 := Try.sizeOf119
  v57 := Try.zeroValue119
  t63 := Try.underlying121
  a63 := Try.isAgg121
  z63 := Try.sizeOf121
  v63 := Try.zeroValue121
  t64 := Try.underlying75
  a64 := Try.isAgg75
  z64 := Try.sizeOf75
  v64 := Try.zeroValue75 }
theorem isort_none (a : Option Addr) (cap : Nat) (w : World) : Calls Try.prog 72 #[.slice a 0 cap] w fun e w' => e = .returned (.tuple #[]) ∧ w' = w :=
  AnyM.slices_Sort_int_none Try.laysSortI a cap w
def leZ (x y : Int) : Bool := decide (x ≤ y)
/-- A row of one's own behind the sort. -/
theorem isort_any (base g cap : Nat) (ss : List Int) (w : World) (hs : 0 < ss.length) (ho : w.ownsRow base 3 1 (.slice (some ⟨g, 0, none⟩) ss.length cap) ss.length (kflat ss)) (hn : ss.length ≤ 1000000) :
    Calls Try.prog 72 #[.slice (some ⟨g, 0, none⟩) ss.length cap] w fun e w' => e = .returned (.tuple #[]) ∧
      w'.ownsRow base 3 1 (.slice (some ⟨g, 0, none⟩) ss.length cap) ss.length (kflat (ss.mergeSort leZ)) ∧ w.grownBy w' (some g) ∧ base ≤ g := by
  rcases ho.2 with ⟨hnil, _⟩ | ⟨g', cap', cur, e, hbase, hb, h1, h2, h3, h4⟩
  · cases hnil
  cases e
  have hH : Go.Sort.Holds (Value.int .i64) w g 0 ss.toArray := Go.holds_of_blockI hb (by rw [Nat.mul_one] at h4; exact h4)
  have hgl : g < w.heap.size := (Array.getElem?_eq_some_iff.1 hb).1
  refine (AnyM.slices_Sort_int Try.laysSortI g 0 cap ss w hH hgl (by omega)).mono ?_
  rintro e w' ⟨rfl, nn, os, rfl⟩
  exact ⟨rfl, Go.ownsRow_sortedI (by simp) hbase hb h1 h2 h3, Go.grownBy_sortedI _, hbase⟩
theorem sort_lt (ss : List Int) (hd : ss.Nodup) : (ss.mergeSort leZ).Pairwise (· < ·) := by
  have h1 : (ss.mergeSort leZ).Pairwise (fun a b => leZ a b = true) := List.pairwise_mergeSort (fun a b c h1 h2 => by simp only [leZ, decide_eq_true_eq] at *; omega) (fun a b => by simp only [leZ, Bool.or_eq_true, decide_eq_true_eq]; omega) ss
  have h2 : (ss.mergeSort leZ).Nodup := (List.mergeSort_perm ss leZ).nodup_iff.2 hd
  have h3 := h1.and h2
  exact h3.imp fun {a b} h => by
    have := h.1
    simp only [leZ, decide_eq_true_eq] at this
    have := h.2
    omega
theorem sort_mem (ss : List Int) (x : Int) : x ∈ ss.mergeSort leZ ↔ x ∈ ss := (List.mergeSort_perm ss leZ).mem_iff
/-- Two rising lists of the same numbers are one. -/
theorem rising_eq : ∀ {l l' : List Int}, l.Pairwise (· < ·) → l'.Pairwise (· < ·) → (∀ x, x ∈ l ↔ x ∈ l') → l = l'
  | [], [], _, _, _ => rfl
  | [], b :: l', _, _, h => absurd ((h b).2 (by simp)) (by simp)
  | a :: l, [], _, _, h => absurd ((h a).1 (by simp)) (by simp)
  | a :: l, b :: l', h1, h2, h => by
    rw [List.pairwise_cons] at h1 h2
    have hab : a = b := by
      rcases List.mem_cons.1 ((h a).1 (by simp)) with e | e
      · exact e
      · rcases List.mem_cons.1 ((h b).2 (by simp)) with e' | e'
        · exact e'.symm
        · have := h1.1 b e'
          have := h2.1 a e
          omega
    subst hab
    rw [rising_eq h1.2 h2.2 fun x => ?_]
    constructor
    · intro hx
      rcases List.mem_cons.1 ((h x).1 (by simp [hx])) with e | e
      · have := h1.1 x hx
        omega
      · exact e
    · intro hx
      rcases List.mem_cons.1 ((h x).2 (by simp [hx])) with e | e
      · have := h2.1 x hx
        omega
      · exact e
end Go.Proofs.Ytijojdempijhbai
namespace Go.Proofs.Ytijojdempijhbai

theorem fl_get {l : List Int} {i : Nat} (h : i < l.length) : fl l i = l[i] := by show l.getD i 0 = _; simp [List.getD_eq_getElem?_getD, h]
theorem oruU_iff (l : List Int) (many : Int) : ∀ k, k ≤ l.length → (oruU l many k = true ↔ (l.take k).Nodup ∧ ∀ x ∈ l.take k, 0 ≤ x ∧ x ≤ many - 1)
  | 0, _ => by simp [oruU]
  | k + 1, hk => by
    have ih := oruU_iff l many k (by omega)
    show (oruU l many k && (decide (0 ≤ fl l k ∧ fl l k ≤ many - 1) && !(l.take k).contains (fl l k))) = true ↔ _
    rw [Bool.and_eq_true, Bool.and_eq_true, decide_eq_true_eq, ih, List.take_succ_eq_append_getElem (by omega), ← fl_get (by omega : k < l.length), List.nodup_append, Bool.not_eq_true', List.contains_eq_mem, decide_eq_false_iff_not]
    constructor
    · rintro ⟨⟨h1, h2⟩, h3, h4⟩
      refine ⟨⟨h1, by simp, fun a ha b hb e => ?_⟩, fun x hx => ?_⟩
      · rw [List.mem_singleton] at hb
        subst hb e
        exact h4 ha
      · rcases List.mem_append.1 hx with h | h
        · exact h2 x h
        · rw [List.mem_singleton.1 h]; exact h3
    · rintro ⟨⟨h1, _, h3⟩, h4⟩
      exact ⟨⟨h1, fun x hx => h4 x (List.mem_append_left _ hx)⟩, h4 _ (by simp), fun h => h3 _ h _ (by simp) rfl⟩
theorem oruB_iff (l : List Int) (many : Int) : oruB l many = true ↔ l.Nodup ∧ ∀ x ∈ l, 0 ≤ x ∧ x ≤ many - 1 := by
  have h := oruU_iff l many l.length (Nat.le_refl _)
  rw [List.take_length] at h
  exact h
theorem risU_iff (l : List Int) (many : Int) : ∀ k, risU l many k = true ↔ ∀ i, i < k → (0 ≤ fl l i ∧ fl l i ≤ many - 1) ∧ (i = 0 ∨ fl l (i - 1) < fl l i)
  | 0 => by simp [risU]
  | k + 1 => by
    have ih := risU_iff l many k
    show (risU l many k && (decide (0 ≤ fl l k ∧ fl l k ≤ many - 1) && (decide (k = 0) || decide (fl l (k - 1) < fl l k)))) = true ↔ _
    rw [Bool.and_eq_true, Bool.and_eq_true, Bool.or_eq_true, decide_eq_true_eq, decide_eq_true_eq, decide_eq_true_eq, ih]
    constructor
    · rintro ⟨h1, h2⟩ i hi
      by_cases e : i = k
      · subst e; exact h2
      · exact h1 i (by omega)
    · intro h
      exact ⟨fun i hi => h i (by omega), h k (by omega)⟩
theorem risB_rising {l : List Int} (h : l.Pairwise (· < ·)) (many : Int) : risB l many = true ↔ ∀ x ∈ l, 0 ≤ x ∧ x ≤ many - 1 := by
  unfold risB
  rw [risU_iff]
  constructor
  · intro hh x hx
    obtain ⟨i, hi, rfl⟩ := List.getElem_of_mem hx
    have := (hh i hi).1
    rwa [fl_get hi] at this
  · intro hh i hi
    rw [fl_get hi]
    refine ⟨hh _ (List.getElem_mem _), ?_⟩
    by_cases e : i = 0
    · exact .inl e
    · refine .inr ?_
      rw [fl_get (by omega : i - 1 < l.length)]
      exact List.pairwise_iff_getElem.1 h (i - 1) i (by omega) hi (by omega)
/-- The same letters, each once. -/
theorem once (l : List Int) : ∃ d : List Int, d.Nodup ∧ (∀ x, x ∈ d ↔ x ∈ l) ∧ d.length ≤ l.length ∧ (d.length = l.length → l.Nodup) ∧ (l.Nodup → d.length = l.length) := by
  induction l with
  | nil => exact ⟨[], List.nodup_nil, fun x => Iff.rfl, Nat.le_refl _, fun _ => List.nodup_nil, fun _ => rfl⟩
  | cons a l ih =>
    obtain ⟨d, h1, h2, h3, h4, h5⟩ := ih
    by_cases ha : a ∈ l
    · refine ⟨d, h1, fun x => ?_, by simp; omega, fun e => ?_, fun e => ?_⟩
      · rw [h2, List.mem_cons]
        exact ⟨.inr, fun h => h.elim (fun e => e ▸ ha) id⟩
      · simp at e; omega
      · exact absurd ha (List.nodup_cons.1 e).1
    · refine ⟨a :: d, List.nodup_cons.2 ⟨fun h => ha ((h2 a).1 h), h1⟩, fun x => ?_, by simpa using h3, fun e => ?_, fun e => ?_⟩
      · rw [List.mem_cons, List.mem_cons, h2]
      · exact List.nodup_cons.2 ⟨ha, h4 (by simpa using e)⟩
      · have := h5 (List.nodup_cons.1 e).2
        simpa using this
theorem rising_len {l : List Int} {m : Nat} (h : l.Pairwise (· < ·)) (hm : ∀ x ∈ l, 0 ≤ x ∧ x < (m : Int)) : l.length ≤ m := by
  have key : ∀ i, (hi : i < l.length) → (i : Int) ≤ l[i] := by
    intro i
    induction i with
    | zero => intro hi; exact (hm _ (List.getElem_mem _)).1
    | succ i ih =>
      intro hi
      have h1 := ih (by omega)
      have h2 := List.pairwise_iff_getElem.1 h i (i + 1) (by omega) hi (by omega)
      omega
  by_cases h0 : l.length = 0
  · omega
  · have h1 := key (l.length - 1) (by omega)
    have h2 := (hm _ (List.getElem_mem (by omega : l.length - 1 < l.length))).2
    omega
theorem nodup_len {l : List Int} {m : Nat} (h : l.Nodup) (hm : ∀ x ∈ l, 0 ≤ x ∧ x < (m : Int)) : l.length ≤ m := by
  have h1 := rising_len (sort_lt l h) (fun x hx => hm x ((sort_mem l x).1 hx))
  rwa [List.length_mergeSort] at h1
theorem oruB_len {l : List Int} {many : Int} (h : oruB l many = true) (hm : many ≤ 60) : l.length ≤ 60 := by
  rw [oruB_iff] at h
  exact nodup_len h.1 fun x hx => by have := h.2 x hx; omega
theorem oru_of_set {l ys : List Int} (hy : ys.Pairwise (· < ·)) (hx : ∀ x, x ∈ ys ↔ x ∈ l) (many : Int) : oruB l many = (decide (ys.length = l.length) && risB ys many) := by
  obtain ⟨d, h1, h2, h3, h4, h5⟩ := once l
  have e : ys = d.mergeSort leZ := rising_eq hy (sort_lt d h1) fun x => by rw [hx, sort_mem, h2]
  have el : ys.length = d.length := by rw [e, List.length_mergeSort]
  rw [Bool.eq_iff_iff, oruB_iff, Bool.and_eq_true, decide_eq_true_eq, risB_rising hy, el]
  constructor
  · rintro ⟨a, b⟩
    exact ⟨h5 a, fun x hh => b x ((hx x).1 hh)⟩
  · rintro ⟨a, b⟩
    exact ⟨h4 a, fun x hh => b x ((hx x).2 hh)⟩
end Go.Proofs.Ytijojdempijhbai
