/-
  Guesses of time as numbers: which are good, what is seen, how long to wait. Plain arithmetic.
-/
import Derived.Test.YteeaebelknpdjbbInts
namespace Go.Proofs.Yteeaebelknpdjbb
open Go.RowKit

abbrev GuEl := Int × Int × Int × Int
abbrev SnEl := Int × Bool × Bool
abbrev guV (x : GuEl) : Value := .agg #[.int .i64 x.1, .int .i64 x.2.1, .int .i64 x.2.2.1, .int .i64 x.2.2.2]
abbrev snV (x : SnEl) : Value := .agg #[.int .i64 x.1, .bool x.2.1, .bool x.2.2]
def goodG (x : GuEl) : Bool := (decide (0 ≤ x.1 ∧ x.1 ≤ 8000) && decide (0 ≤ x.2.1 ∧ x.2.1 ≤ 4000)) && (decide (0 ≤ x.2.2.1 ∧ x.2.2.1 ≤ 1000) && decide (0 ≤ x.2.2.2 ∧ x.2.2.2 ≤ 6))
def okS (x : SnEl) : Bool := decide (0 ≤ x.1 ∧ x.1 ≤ 1000) && (!x.2.2 || (decide (x.1 = 0) && !x.2.1))
def seeG (g : GuEl) (x : SnEl) : GuEl :=
  bif x.2.2 then (g.1, g.2.1, g.2.2.1, min 6 (g.2.2.2 + 1))
  else bif x.2.1 then (g.1, g.2.1, min 1000 (g.2.2.1 + 1), g.2.2.2)
  else (g.1 + (x.1 - g.1 / 8), g.2.1 + (max (x.1 - g.1 / 8) (-(x.1 - g.1 / 8)) - g.2.1 / 4), min 1000 (g.2.2.1 + 1), 0)
def waitG (g : GuEl) : Int := min 400 (max 4 (g.1 / 8 + g.2.1) * 2 ^ g.2.2.2.toNat)
def newB (f : Int) : Bool := decide (1 ≤ f ∧ f ≤ 1000)
def newG (f : Int) : GuEl := (8 * f, 2 * f, 1, 0)
def seesG : GuEl → List SnEl → GuEl
  | g, [] => g
  | g, x :: xs => seesG (seeG g x) xs
def allS (xs : List SnEl) : Bool := xs.all okS
structure GoodG (x : GuEl) : Prop where
  m0 : 0 ≤ x.1
  m1 : x.1 ≤ 8000
  s0 : 0 ≤ x.2.1
  s1 : x.2.1 ≤ 4000
  n0 : 0 ≤ x.2.2.1
  n1 : x.2.2.1 ≤ 1000
  b0 : 0 ≤ x.2.2.2
  b1 : x.2.2.2 ≤ 6
theorem goodG_iff {x : GuEl} : goodG x = true ↔ GoodG x := by
  unfold goodG
  simp only [Bool.and_eq_true, decide_eq_true_eq]
  exact ⟨fun h => ⟨h.1.1.1, h.1.1.2, h.1.2.1, h.1.2.2, h.2.1.1, h.2.1.2, h.2.2.1, h.2.2.2⟩, fun h => ⟨⟨⟨h.m0, h.m1⟩, h.s0, h.s1⟩, ⟨h.n0, h.n1⟩, h.b0, h.b1⟩⟩
theorem okS_took {x : SnEl} (h : okS x = true) : 0 ≤ x.1 ∧ x.1 ≤ 1000 := by
  unfold okS at h
  rw [Bool.and_eq_true, decide_eq_true_eq] at h
  exact h.1
theorem seeG_good {g : GuEl} {x : SnEl} (hg : GoodG g) (hx : okS x = true) : GoodG (seeG g x) := by
  obtain ⟨m, s, n, b⟩ := g
  obtain ⟨t, tw, lo⟩ := x
  obtain ⟨h1, h2, h3, h4, h5, h6, h7, h8⟩ := hg
  have ht := okS_took hx
  simp only at h1 h2 h3 h4 h5 h6 h7 h8 ht
  cases lo
  · cases tw
    · exact ⟨by show 0 ≤ m + (t - m / 8); omega, by show m + (t - m / 8) ≤ 8000; omega, by show 0 ≤ s + (max (t - m / 8) (-(t - m / 8)) - s / 4); omega, by show s + (max (t - m / 8) (-(t - m / 8)) - s / 4) ≤ 4000; omega, by show 0 ≤ min 1000 (n + 1); omega, by show min 1000 (n + 1) ≤ 1000; omega, by show (0 : Int) ≤ 0; omega, by show (0 : Int) ≤ 6; omega⟩
    · exact ⟨h1, h2, h3, h4, by show 0 ≤ min 1000 (n + 1); omega, by show min 1000 (n + 1) ≤ 1000; omega, h7, h8⟩
  · exact ⟨h1, h2, h3, h4, h5, h6, by show 0 ≤ min 6 (b + 1); omega, by show min 6 (b + 1) ≤ 6; omega⟩
theorem newG_good {f : Int} (h : newB f = true) : GoodG (newG f) := by
  unfold newB at h
  rw [decide_eq_true_eq] at h
  exact ⟨by show 0 ≤ 8 * f; omega, by show 8 * f ≤ 8000; omega, by show 0 ≤ 2 * f; omega, by show 2 * f ≤ 4000; omega, by show (0 : Int) ≤ 1; omega, by show (1 : Int) ≤ 1000; omega, by show (0 : Int) ≤ 0; omega, by show (0 : Int) ≤ 6; omega⟩
theorem allS_at {xs : List SnEl} (h : allS xs = true) (i : Nat) (hi : i < xs.length) : okS (xs.getD i (0, false, false)) = true := by
  unfold allS at h
  rw [List.all_eq_true] at h
  rw [List.getD_eq_getElem?_getD, List.getElem?_eq_getElem hi]
  exact h _ (List.getElem_mem hi)
theorem seesG_snoc : ∀ (xs : List SnEl) (g : GuEl) (x : SnEl), seesG g (xs ++ [x]) = seeG (seesG g xs) x
  | [], _, _ => rfl
  | y :: ys, g, x => by
    show seesG (seeG g y) (ys ++ [x]) = _
    rw [seesG_snoc ys (seeG g y) x]
    rfl
theorem seesG_take (g : GuEl) (xs : List SnEl) (k : Nat) (hk : k < xs.length) : seesG g (xs.take (k + 1)) = seeG (seesG g (xs.take k)) (xs.getD k (0, false, false)) := by
  rw [List.take_succ_eq_append_getElem hk, seesG_snoc, List.getD_eq_getElem?_getD, List.getElem?_eq_getElem hk]
  rfl
theorem seesG_good {g : GuEl} (hg : GoodG g) : ∀ {xs : List SnEl}, allS xs = true → GoodG (seesG g xs)
  | [], _ => hg
  | x :: xs, h => by
    have h' : (okS x && allS xs) = true := h
    rw [Bool.and_eq_true] at h'
    exact seesG_good (seeG_good hg h'.1) h'.2
theorem allS_take {xs : List SnEl} (h : allS xs = true) (k : Nat) : allS (xs.take k) = true := by
  unfold allS at h ⊢
  rw [List.all_eq_true] at h ⊢
  exact fun x hx => h x (List.mem_of_mem_take hx)
theorem waitG_in (g : GuEl) : 4 ≤ waitG g ∧ waitG g ≤ 400 := by
  unfold waitG
  have h1 : (1 : Int) ≤ 2 ^ g.2.2.2.toNat := by exact_mod_cast Nat.one_le_two_pow
  have h2 : (4 : Int) ≤ max 4 (g.1 / 8 + g.2.1) := by omega
  have h3 : (4 : Int) * 1 ≤ max 4 (g.1 / 8 + g.2.1) * 2 ^ g.2.2.2.toNat := Int.mul_le_mul h2 h1 (by omega) (by omega)
  omega
end Go.Proofs.Yteeaebelknpdjbb
