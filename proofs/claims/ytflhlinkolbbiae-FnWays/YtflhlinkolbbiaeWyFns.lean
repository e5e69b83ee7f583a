/-
  Ways for letters: when they are good, and as plain numbers.
-/
import Derived.Test.YtflhlinkolbbiaeKWayRows
import Derived.Test.YtflhlinkolbbiaeKIntRows
import Derived.Test.YtflhlinkolbbiaeByMath
import Derived.Test.YtflhlinkolbbiaeWaysMath
namespace Go.Proofs.Ytflhlinkolbbiae
open Go.RowKit

def wayB (x : WyEl) : Bool := decide (0 ≤ x.1 ∧ x.1 ≤ 100) && decide (1 ≤ x.2 ∧ x.2 ≤ 20)
def wyB (xs : List WyEl) : Bool := xs.all wayB && decide (1 ≤ xs.length ∧ xs.length ≤ 4)
/-- When the letter behind c others arrives on way k. -/
def arrW (xs : List WyEl) (k c : Nat) : Nat := (xs.getD k (0, 0)).1.toNat + c * (xs.getD k (0, 0)).2.toNat
theorem wall_take (l : List WyEl) (k : Nat) (hk : k < l.length) : (l.take (k + 1)).all wayB = ((l.take k).all wayB && wayB (l.getD k (0, 0))) := by
  rw [List.take_succ_eq_append_getElem hk, List.all_append]
  simp [List.getD_eq_getElem?_getD, hk]
theorem wall_false {l : List WyEl} (k : Nat) (hk : k < l.length) (h : wayB (l.getD k (0, 0)) = false) : l.all wayB = false := by
  rw [← Bool.not_eq_true, List.all_eq_true]
  intro hh
  have := hh (l.getD k (0, 0)) (by simp [List.getD_eq_getElem?_getD, hk])
  rw [h] at this
  cases this
structure GWays (xs : List WyEl) : Prop where
  len : 1 ≤ xs.length ∧ xs.length ≤ 4
  delay : ∀ k, k < xs.length → 0 ≤ (xs.getD k (0, 0)).1 ∧ (xs.getD k (0, 0)).1 ≤ 100
  every : ∀ k, k < xs.length → 1 ≤ (xs.getD k (0, 0)).2 ∧ (xs.getD k (0, 0)).2 ≤ 20
theorem gways_of {xs : List WyEl} (h : wyB xs = true) : GWays xs := by
  unfold wyB at h
  simp only [Bool.and_eq_true, decide_eq_true_eq, List.all_eq_true] at h
  have hx : ∀ k, k < xs.length → wayB (xs.getD k (0, 0)) = true := fun k hk => by
    rw [List.getD_eq_getElem?_getD, List.getElem?_eq_getElem hk, Option.getD_some]
    exact h.1 _ (List.getElem_mem hk)
  refine ⟨h.2, fun k hk => ?_, fun k hk => ?_⟩
  · have := hx k hk; unfold wayB at this; simp only [Bool.and_eq_true, decide_eq_true_eq] at this; exact this.1
  · have := hx k hk; unfold wayB at this; simp only [Bool.and_eq_true, decide_eq_true_eq] at this; exact this.2
theorem arrW_mono (xs : List WyEl) (k x y : Nat) (h : x ≤ y) : arrW xs k x ≤ arrW xs k y := by
  unfold arrW
  have := Nat.mul_le_mul_right (xs.getD k (0, 0)).2.toNat h
  omega
theorem arrW_small {xs : List WyEl} (hg : GWays xs) {k c : Nat} (hk : k < xs.length) (hc : c ≤ 41) : arrW xs k c ≤ 100 + 20 * 41 := by
  have h1 := hg.delay k hk
  have h2 := hg.every k hk
  unfold arrW
  have : c * (xs.getD k (0, 0)).2.toNat ≤ 41 * 20 := Nat.mul_le_mul hc (by omega)
  omega
/-- The same in Int, as it is reckoned. -/
theorem arrW_int {xs : List WyEl} (hg : GWays xs) {k c : Nat} (hk : k < xs.length) (hc : c ≤ 41) :
    IntKind.i64.wrap ((c : Int) * (xs.getD k (0, 0)).2) = (c : Int) * (xs.getD k (0, 0)).2 ∧ IntKind.i64.wrap ((xs.getD k (0, 0)).1 + (c : Int) * (xs.getD k (0, 0)).2) = ((arrW xs k c : Nat) : Int) := by
  have h1 := hg.delay k hk
  have h2 := hg.every k hk
  have h3 := arrW_small hg hk hc
  have e : ((arrW xs k c : Nat) : Int) = (xs.getD k (0, 0)).1 + (c : Int) * (xs.getD k (0, 0)).2 := by
    unfold arrW
    rw [Int.natCast_add, Int.natCast_mul, Int.toNat_of_nonneg h1.1, Int.toNat_of_nonneg (by omega)]
  have hnn : 0 ≤ (c : Int) * (xs.getD k (0, 0)).2 := Int.mul_nonneg (by omega) (by omega)
  rw [← e]
  generalize (c : Int) * (xs.getD k (0, 0)).2 = z at e hnn ⊢
  rw [IntKind.wrap_i64, IntKind.wrap_i64]
  omega
/-- Counts for ways. -/
def lcB (xs : List WyEl) (cs : List Int) : Bool := wyB xs && decide (cs.length = xs.length) && cs.all (fun k => decide (0 ≤ k ∧ k ≤ 40))
structure Counts (xs : List WyEl) (cs : List Nat) : Prop where
  len : cs.length = xs.length
  small : ∀ k, k < xs.length → cs.getD k 0 ≤ 40
theorem ofN_toNatW {xs : List Int} (h : ∀ x, x ∈ xs → 0 ≤ x) : xs = ofN (xs.map Int.toNat) := by
  induction xs with
  | nil => rfl
  | cons x xs ih =>
    have h0 := h x (List.mem_cons_self ..)
    have := ih fun y hy => h y (List.mem_cons_of_mem _ hy)
    simp only [ofN, List.map_cons, List.map_map] at this ⊢
    congr 1
    omega
theorem ofN_atW (a : List Nat) (i : Nat) : (ofN a).getD i 0 = ((a.getD i 0 : Nat) : Int) := by
  by_cases h : i < a.length
  · simp [ofN, List.getD_eq_getElem?_getD, h]
  · simp [ofN, List.getD_eq_getElem?_getD, h]
theorem ofN_setW (a : List Nat) (i : Nat) (k : Nat) : (ofN a).set i (k : Int) = ofN (a.set i k) := by simp [ofN, List.map_set]
theorem counts_of {xs : List WyEl} {cs : List Int} (h : lcB xs cs = true) : ∃ ns, cs = ofN ns ∧ GWays xs ∧ Counts xs ns := by
  unfold lcB at h
  simp only [Bool.and_eq_true, decide_eq_true_eq, List.all_eq_true] at h
  obtain ⟨⟨h1, h2⟩, h3⟩ := h
  have e := ofN_toNatW fun x hx => (h3 x hx).1
  have hlen : (cs.map Int.toNat).length = cs.length := List.length_map ..
  refine ⟨cs.map Int.toNat, e, gways_of h1, by omega, fun k hk => ?_⟩
  have hk' : k < cs.length := by omega
  have := h3 cs[k] (List.getElem_mem hk')
  simp only [List.getD_eq_getElem?_getD, List.getElem?_map, List.getElem?_eq_getElem hk', Option.map_some, Option.getD_some]
  omega
def laN (xs : List WyEl) (cs : List Nat) : Nat := lastP (arrW xs) cs xs.length
/-- What LastArrival answers. -/
def laZ (xs : List WyEl) (cs : List Int) : Int := if lcB xs cs = true then ((laN xs (cs.map Int.toNat) : Nat) : Int) else 0
theorem toNat_ofNW (ls : List Nat) : (ofN ls).map Int.toNat = ls := by
  induction ls with
  | nil => rfl
  | cons x ls ih => simp only [ofN, List.map_cons, List.map_map] at ih ⊢; rw [ih]; simp
theorem counts_good {xs : List WyEl} {ns : List Nat} (hw : wyB xs = true) (h : Counts xs ns) : lcB xs (ofN ns) = true := by
  unfold lcB
  rw [hw]
  simp only [Bool.true_and, Bool.and_eq_true, decide_eq_true_eq, List.all_eq_true]
  refine ⟨by rw [List.length_map]; exact h.len, fun x hx => ?_⟩
  obtain ⟨k, hk, rfl⟩ := List.mem_map.1 hx
  obtain ⟨i, hi, rfl⟩ := List.getElem_of_mem hk
  have := h.small i (by rw [← h.len]; exact hi)
  rw [List.getD_eq_getElem?_getD, List.getElem?_eq_getElem hi, Option.getD_some] at this
  omega
theorem laZ_yes {xs : List WyEl} {ns : List Nat} (h : lcB xs (ofN ns) = true) : laZ xs (ofN ns) = ((laN xs ns : Nat) : Int) := by unfold laZ; rw [if_pos h, toNat_ofNW]
theorem laZ_no {xs : List WyEl} {cs : List Int} (h : lcB xs cs = false) : laZ xs cs = 0 := by unfold laZ; rw [h]; rfl
/-- What ArriveAll is asked, and what it answers. -/
def aaB (xs : List WyEl) (m : Int) : Bool := wyB xs && decide (0 ≤ m ∧ m ≤ 40)
def aaL (xs : List WyEl) (m : Int) : List Int := if aaB xs m = true then ofN (arrP (arrW xs) xs.length m.toNat) else []
def aaZ (xs : List WyEl) (m : Int) : Int := if aaB xs m = true then ((laN xs (arrP (arrW xs) xs.length m.toNat) : Nat) : Int) else 0
theorem aa_of {xs : List WyEl} {m : Int} (h : aaB xs m = true) : ∃ n : Nat, m = (n : Nat) ∧ n ≤ 40 ∧ wyB xs = true ∧ GWays xs := by
  unfold aaB at h
  simp only [Bool.and_eq_true, decide_eq_true_eq] at h
  exact ⟨m.toNat, by omega, by omega, h.1, gways_of h.1⟩
theorem aaL_yes {xs : List WyEl} {n : Nat} (h : aaB xs (n : Nat) = true) : aaL xs (n : Nat) = ofN (arrP (arrW xs) xs.length n) := by unfold aaL; rw [if_pos h, Int.toNat_natCast]
theorem aaZ_yes {xs : List WyEl} {n : Nat} (h : aaB xs (n : Nat) = true) : aaZ xs (n : Nat) = ((laN xs (arrP (arrW xs) xs.length n) : Nat) : Int) := by unfold aaZ; rw [if_pos h, Int.toNat_natCast]
theorem aaL_no {xs : List WyEl} {m : Int} (h : aaB xs m = false) : aaL xs m = [] := by unfold aaL; rw [h]; rfl
theorem aaZ_no {xs : List WyEl} {m : Int} (h : aaB xs m = false) : aaZ xs m = 0 := by unfold aaZ; rw [h]; rfl
theorem aaL_len (xs : List WyEl) (m : Int) : (aaL xs m).length ≤ 1048576 := by
  cases h : aaB xs m with
  | false => rw [aaL_no h]; simp
  | true =>
    obtain ⟨n, rfl, hn, _, hg⟩ := aa_of h
    rw [aaL_yes h, List.length_map, arrP_len]
    have := hg.len
    omega
theorem arr_counts {xs : List WyEl} (hg : GWays xs) {n : Nat} (hn : n ≤ 40) : Counts xs (arrP (arrW xs) xs.length n) :=
  ⟨arrP_len _ _ _, fun k _ => Nat.le_trans (arrP_le (arrW xs) hg.len.1 n k) hn⟩
end Go.Proofs.Ytflhlinkolbbiae
