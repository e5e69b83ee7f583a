/-
  A good court in plain words. Plain facts.
-/
import Derived.Test.YtdlkilacnnjglaaKCourtRows
namespace Go.Proofs.Ytdlkilacnnjglaa
open Go.RowKit

def caZ : CaEl := (0, false, 0, 0)
def vdB (z : Int) : Bool := decide (0 ≤ z ∧ z ≤ 2)
/-- Final is told otherwise than Said. -/
def oddB (x : CaEl) : Bool := !decide (x.2.2.1 = 0) && !decide (x.2.2.1 = x.2.2.2)
/-- Nothing is said though the End is over. -/
def dueB (now : Int) (x : CaEl) : Bool := decide (x.2.2.2 = 0) && decide (x.1 < now)
def caseB (now : Int) (x : CaEl) : Bool := decide (0 ≤ x.1 ∧ x.1 ≤ 100) && (vdB x.2.2.1 && (vdB x.2.2.2 && (!oddB x && !dueB now x)))
def saidAt (cs : List CaEl) (k : Int) : Int := (cs.getD k.toNat (0, false, 0, 0)).2.2.2
def slipB (cs : List CaEl) (s : SlEl) : Bool := decide (0 ≤ s.2.1 ∧ s.2.1 < cs.length) && (decide (1 ≤ s.1 ∧ s.1 ≤ 3) && (if s.1 = 3 then !decide (s.2.2 = 0) && decide (s.2.2 = saidAt cs s.2.1) else decide (s.2.2 = 0)))
def goodC (D : CoD) : Bool := D.f1.all (caseB D.f0) && (D.f2.all (slipB D.f1) && (decide (D.f1.length ≤ 6) && (decide (0 ≤ D.f0 ∧ D.f0 ≤ 200) && decide (D.f2.length ≤ 30))))
theorem ca_all_take (f : CaEl → Bool) (xs : List CaEl) (k : Nat) (hk : k < xs.length) : (xs.take (k + 1)).all f = ((xs.take k).all f && f (xs.getD k (0, false, 0, 0))) := by
  rw [List.take_succ_eq_append_getElem hk, List.all_append]
  simp [List.getD_eq_getElem?_getD, hk]
theorem ca_all_no {f : CaEl → Bool} {xs : List CaEl} (k : Nat) (hk : k < xs.length) (h : f (xs.getD k (0, false, 0, 0)) = false) : xs.all f = false := by
  rw [List.all_eq_false]
  exact ⟨xs.getD k (0, false, 0, 0), by simp [List.getD_eq_getElem?_getD, hk], by rw [h]; decide⟩
theorem sl_all_take (f : SlEl → Bool) (xs : List SlEl) (k : Nat) (hk : k < xs.length) : (xs.take (k + 1)).all f = ((xs.take k).all f && f (xs.getD k (0, 0, 0))) := by
  rw [List.take_succ_eq_append_getElem hk, List.all_append]
  simp [List.getD_eq_getElem?_getD, hk]
theorem sl_all_no {f : SlEl → Bool} {xs : List SlEl} (k : Nat) (hk : k < xs.length) (h : f (xs.getD k (0, 0, 0)) = false) : xs.all f = false := by
  rw [List.all_eq_false]
  exact ⟨xs.getD k (0, 0, 0), by simp [List.getD_eq_getElem?_getD, hk], by rw [h]; decide⟩
end Go.Proofs.Ytdlkilacnnjglaa
