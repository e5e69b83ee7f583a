/-
  Moore's order, task by task: plain arithmetic.
-/
import Derived.Test.YtpkngcamaahhdabDelMath
import Derived.Test.YtpkngcamaahhdabDoneMath
namespace Go.Proofs.Ytpkngcamaahhdab
open Go.RowKit

/-- Those in time and those that were taken out, of the first k by ends. -/
def moV (xs : List TkEl) (k : Nat) : List Nat × List Nat := moore (needT xs) (endT xs) ((byEndL xs).take k)
theorem moV_perm (xs : List TkEl) (k : Nat) : ((moV xs k).1 ++ (moV xs k).2).Perm ((byEndL xs).take k) := by
  have := moore_perm (needT xs) (endT xs) ((byEndL xs).take k).reverse
  rw [List.reverse_reverse] at this
  exact this.trans (List.reverse_perm _)
theorem moV_succ (xs : List TkEl) {k : Nat} (h : k < (byEndL xs).length) : moV xs (k + 1) = mooreStep (needT xs) (endT xs) (moV xs k) ((byEndL xs).getD k 0) := by
  unfold moV
  rw [take_next h, moore_snoc]
theorem moV_len (xs : List TkEl) {k : Nat} (h : k ≤ (byEndL xs).length) : (moV xs k).1.length + (moV xs k).2.length = k := by
  have := (moV_perm xs k).length_eq
  rw [List.length_append, List.length_take] at this
  omega
theorem moV_in (xs : List TkEl) (k : Nat) {x : Nat} (h : x ∈ (moV xs k).1) : x < xs.length :=
  byEnd_lt _ _ (List.mem_of_mem_take ((moV_perm xs k).mem_iff.1 (List.mem_append_left _ h)))
theorem moV_all (xs : List TkEl) : moV xs xs.length = mooreL xs := by
  unfold moV mooreL
  rw [List.take_of_length_le (by rw [byEndL, byEnd_len]; exact Nat.le_refl _)]
theorem byEndL_nodup (xs : List TkEl) : (byEndL xs).Nodup := (byEnd_perm _ _).nodup_iff.2 List.nodup_range
/-- Those in time so far and the next one are each there once. -/
theorem moV_next (xs : List TkEl) {k : Nat} (h : k < (byEndL xs).length) : ((moV xs k).1 ++ [(byEndL xs).getD k 0]).Nodup := by
  have hp := moV_perm xs k
  have hn : ((byEndL xs).take k).Nodup := (List.take_sublist _ _).nodup (byEndL_nodup xs)
  have h1 : (moV xs k).1.Nodup := (List.nodup_append.1 (hp.nodup_iff.2 hn)).1
  rw [List.nodup_append]
  refine ⟨h1, by simp, ?_⟩
  intro a ha b hb e
  rw [List.mem_singleton] at hb
  subst hb
  exact next_new (byEndL_nodup xs) h (by rw [← e]; exact hp.mem_iff.1 (List.mem_append_left _ ha))
/-- One number taken out of numbers that are there once. -/
theorem left_erase {u : List Nat} (hu : u.Nodup) {i : Nat} (hi : i < u.length) (x : Nat) (hx : x = u.getD i 0) : leftL (fun k => ((k : Int) == (x : Int))) u = u.eraseIdx i := by
  have hc := cut_at hi
  rw [← hx] at hc
  rw [List.eraseIdx_eq_take_drop_succ]
  have hn := hu
  rw [hc, List.nodup_append] at hn
  obtain ⟨_, h2, h3⟩ := hn
  have keep : ∀ l : List Nat, (∀ a, a ∈ l → a ≠ x) → leftL (fun k => ((k : Int) == (x : Int))) l = l := by
    intro l hl
    unfold leftL
    rw [List.filter_eq_self]
    intro a ha
    have := hl a ha
    simp only [Bool.not_eq_true', beq_eq_false_iff_ne, ne_eq]
    omega
  have e1 := keep (u.take i) (fun a ha e => h3 a ha x (by simp) e)
  have e2 := keep (u.drop (i + 1)) (fun a ha e => (List.nodup_cons.1 h2).1 (by rw [← e]; exact ha))
  have e3 : leftL (fun k => ((k : Int) == (x : Int))) u = leftL (fun k => ((k : Int) == (x : Int))) (u.take i ++ x :: u.drop (i + 1)) := congrArg _ hc
  rw [e3]
  unfold leftL at e1 e2 ⊢
  rw [List.filter_append, e1, List.filter_cons_of_neg (by simp), e2]
/-- Two rows that do not share their cells. -/
def ApartI (a b : Value) : Prop := ∀ g, a.ownBlock = some g → b.ownBlock = some g → False
theorem owns_irow {w : World} {base g n c : Nat} {xs : List Int} (h : w.ownsRow base 3 1 (.slice (some ⟨g, 0, none⟩) n c) n (kflat xs)) : IRow w g n c xs ∧ base ≤ g := by
  obtain ⟨h1, h2⟩ := h
  rcases h2 with ⟨h, _⟩ | ⟨g', c', cur, h, hb, hr⟩
  · cases h
  · cases h
    exact ⟨⟨h1, .inr ⟨g, c, cur, rfl, Nat.le_refl _, hr⟩⟩, hb⟩
theorem IRow.owns {w : World} {base g n c : Nat} {xs : List Int} (h : IRow w g n c xs) (hb : base ≤ g) : w.ownsRow base 3 1 (.slice (some ⟨g, 0, none⟩) n c) n (kflat xs) := by
  obtain ⟨h1, h2⟩ := h
  refine ⟨h1, ?_⟩
  rcases h2 with ⟨h, _⟩ | ⟨g', c', cur, h, _, hr⟩
  · cases h
  · cases h
    exact .inr ⟨g, c, cur, rfl, hb, hr⟩
theorem owns_rest {w w' : World} {base n : Nat} {t : TypeId} {v : Value} {cs : List Value} {row : Option Nat} (h : w.ownsRow base t 1 v n cs) (hg : w.grownBy w' row) (hr : ∀ g, v.ownBlock = some g → row = some g → False) : w'.ownsRow base t 1 v n cs := by
  refine h.kept hg ?_
  cases hv : v.ownBlock with
  | none => exact .inl rfl
  | some g => exact .inr fun e => hr g hv e.symm
end Go.Proofs.Ytpkngcamaahhdab
