/-
  What GrowAll, HalveAll and RoundOf tell, in plain words.
-/
import Derived.Test.YtepnhbicmlfnhadShBox
namespace Go.Proofs.Ytepnhbicmlfnhad
open Go.RowKit

def growB (D : ShD) : Bool := goodS D && goodS (growS D)
def growR (D : ShD) : ShD := tellS (growB D) (growS D)
def halveB (D : ShD) : Bool := goodS D && goodS (halveS D)
def halveR (D : ShD) : ShD := tellS (halveB D) (halveS D)
def rndB (D : ShD) : Bool := goodS D && goodS (rndS D)
def rndR (D : ShD) : ShD := tellS (rndB D) (rndS D)
def rndH (D : ShD) : Bool := rndB D && overS D
theorem tell_own {S : Nat → Prop} {w : World} {a a1 : Option Addr} {n k n1 k1 : Nat} {z z1 : Int} {X : ShD} {t : Bool} (O : ShOwn S w (.agg #[.slice a n k, .int .i64 z]) X) (h : (t = true → a1 = a ∧ n1 = n ∧ k1 = k ∧ z1 = z) ∧ (t = false → a1 = none ∧ n1 = 0 ∧ k1 = 0 ∧ z1 = 0)) : ShOwn S w (.agg #[.slice a1 n1 k1, .int .i64 z1]) (tellS t X) := by
  cases t
  · obtain ⟨rfl, rfl, rfl, rfl⟩ := h.2 rfl
    exact shOwn_zero S w
  · obtain ⟨rfl, rfl, rfl, rfl⟩ := h.1 rfl
    exact O
theorem tellS_tot (t : Bool) {X : ShD} (h : t = true → goodS X = true) : shTot (tellS t X) ≤ 1048576 := by
  cases t
  · show [].length ≤ _; simp
  · have := ((goodS_iff X).1 (h rfl)).l5
    show X.f0.length ≤ _; omega
theorem growR_tot (D : ShD) : shTot (growR D) ≤ 1048576 := tellS_tot _ fun h => by unfold growB at h; rw [Bool.and_eq_true] at h; exact h.2
theorem halveR_tot (D : ShD) : shTot (halveR D) ≤ 1048576 := tellS_tot _ fun h => by unfold halveB at h; rw [Bool.and_eq_true] at h; exact h.2
theorem rndR_tot (D : ShD) : shTot (rndR D) ≤ 1048576 := tellS_tot _ fun h => by unfold rndB at h; rw [Bool.and_eq_true] at h; exact h.2
theorem rndsD_tot (D : ShD) (many : Int) : shTot (rndsD D many) ≤ 1048576 := by
  unfold rndsD
  cases h : rndsOk D many
  · show [].length ≤ _; simp
  · unfold rndsOk at h
    rw [Bool.and_eq_true, Bool.and_eq_true] at h
    obtain ⟨⟨E, n⟩, hE⟩ := Option.isSome_iff_exists.1 h.2.2
    have := (rndsS_good ((goodS_iff D).1 h.1) hE).l5
    rw [hE]
    show E.f0.length ≤ _
    omega
end Go.Proofs.Ytepnhbicmlfnhad
