/-
  What SpanOf answers: plain arithmetic, no program.
  What FnHands asks of good chores (Graham): plain arithmetic, no program.
-/
import Derived.Test.YtflhlinkolbbiaeHandFns
import Derived.Test.YtflhlinkolbbiaeGiveFns
import Derived.Test.YtflhlinkolbbiaeMaxTake
namespace Go.Proofs.Ytflhlinkolbbiae
open Go.RowKit

/-- What is answered. -/
def soN (xs gs : List Int) (h : Int) : Int := if giB xs gs h = true then ((spanN (xs.map Int.toNat) (gs.map Int.toNat) h.toNat : Nat) : Int) else 0
theorem toNat_ofN (ls : List Nat) : (ofN ls).map Int.toNat = ls := by
  induction ls with
  | nil => rfl
  | cons x ls ih => simp only [ofN, List.map_cons, List.map_map] at ih ⊢; rw [ih]; simp
theorem soN_yes {ls gs : List Nat} {H : Nat} (hc : Chores ls H) (hg : Given ls gs H) : soN (ofN ls) (ofN gs) (H : Nat) = ((spanN ls gs H : Nat) : Int) := by
  unfold soN
  rw [if_pos (given_good hc hg), toNat_ofN, toNat_ofN, Int.toNat_natCast]
end Go.Proofs.Ytflhlinkolbbiae
namespace Go.Proofs.Ytflhlinkolbbiae
open Go.RowKit

theorem span_400 {ls gs : List Nat} {H : Nat} (hc : Chores ls H) : spanN ls gs H ≤ 400 := by
  have h8 := hc.few
  refine maxN_le fun h _ => ?_
  have := span_small (gs := gs) hc ls.length (Nat.le_refl _) h
  omega
structure HandFacts (H s t m k : Nat) : Prop where
  km : k ≤ m
  ms : m ≤ s
  mt : m ≤ t
  one : H * s ≤ (2 * H - 1) * m
  two : 3 * H * t ≤ (4 * H - 1) * m
  s4 : s ≤ 400
  t4 : t ≤ 400
theorem sub_mul_le {a b c m : Nat} (h : c + m ≤ a * m) (e : b = a - 1) : c ≤ b * m := by
  subst e
  rw [Nat.sub_mul, Nat.one_mul]
  omega
theorem hand_facts {ls : List Nat} {H : Nat} (hc : Chores ls H) : HandFacts H (spanN ls (givesN ls H (rangeF ls)) H) (spanN ls (givesN ls H (longK ls)) H) (bestB H ls (List.replicate H 0)) (leastN ls H) := by
  have hg1 := gives_given ls hc.h0 (rangeF ls)
  have hg2 := gives_given ls hc.h0 (longK ls)
  refine ⟨least_le_best ls hc.h0, best_le_span ls _ hg1.len hg1.lt, best_le_span ls _ hg2.len hg2.lt, ?_, ?_, span_400 hc, span_400 hc⟩
  · exact sub_mul_le (graham_list ls hc.h0 (List.Perm.refl _)) rfl
  · exact sub_mul_le (graham_list_long ls hc.h0 (longK_perm ls) (longK_down ls)) rfl
/-- All that the law asks, in Int. -/
structure HandAsk (xs gs : List Int) (z n s t m k : Int) (A B : List Int) : Prop where
  gA : giB xs A z = true
  sA : soN xs A z = s
  gB : giB xs B z = true
  sB : soN xs B z = t
  km : ¬ m < k
  ms : ¬ s < m
  mt : ¬ t < m
  nm : giB xs gs z = true → ¬ n < m
  one : ¬ (2 * z - 1) * m < z * s
  two : ¬ (4 * z - 1) * m < (3 * z) * t
  z1 : 1 ≤ z ∧ z ≤ 4
  s0 : 0 ≤ s ∧ s ≤ 400
  t0 : 0 ≤ t ∧ t ≤ 400
  m0 : 0 ≤ m ∧ m ≤ 400
theorem hand_ask {xs gs : List Int} {z : Int} (hg : chB xs z = true) : HandAsk xs gs z (soN xs gs z) (giN rangeF xs z) (giN longK xs z) (beZ xs z) (leZ xs z) (giL rangeF xs z) (giL longK xs z) := by
  obtain ⟨ls, H, rfl, rfl, hc⟩ := chores_of hg
  have f := hand_facts hc
  rw [giN_yes _ hc, giN_yes _ hc, giL_yes _ hc, giL_yes _ hc, beZ_yes hc, leZ_yes hc]
  have hg1 := gives_given ls hc.h0 (rangeF ls)
  have hg2 := gives_given ls hc.h0 (longK ls)
  have hm4 : bestB H ls (List.replicate H 0) ≤ 400 := Nat.le_trans f.ms f.s4
  have h0 := hc.h0
  have h4 := hc.h4
  have f1 := f.one
  have f2 := f.two
  have i1 : ((H * spanN ls (givesN ls H (rangeF ls)) H : Nat) : Int) ≤ (((2 * H - 1) * bestB H ls (List.replicate H 0) : Nat) : Int) := by omega
  have i2 : ((3 * H * spanN ls (givesN ls H (longK ls)) H : Nat) : Int) ≤ (((4 * H - 1) * bestB H ls (List.replicate H 0) : Nat) : Int) := by omega
  have e1 : (((2 * H - 1 : Nat)) : Int) = 2 * (H : Int) - 1 := by omega
  have e2 : (((4 * H - 1 : Nat)) : Int) = 4 * (H : Int) - 1 := by omega
  rw [Int.natCast_mul, Int.natCast_mul, e1] at i1
  rw [Int.natCast_mul, Int.natCast_mul, Int.natCast_mul, e2] at i2
  refine ⟨given_good hc hg1, soN_yes hc hg1, given_good hc hg2, soN_yes hc hg2, by have := f.km; omega, by have := f.ms; omega, by have := f.mt; omega, ?_, Int.not_lt.2 i1, Int.not_lt.2 i2, by omega, by have := f.s4; omega, by have := f.t4; omega, by omega⟩
  intro hgi
  obtain ⟨ls', os, H', e3, rfl, e4, hc', hgi'⟩ := given_of hgi
  have : ls' = ls := by have := congrArg (List.map Int.toNat) e3; rw [toNat_ofN', toNat_ofN'] at this; exact this.symm
  subst this
  obtain rfl : H' = H := by omega
  rw [soN_yes hc' hgi']
  have := best_le_span ls' os hgi'.len hgi'.lt
  omega
end Go.Proofs.Ytflhlinkolbbiae
