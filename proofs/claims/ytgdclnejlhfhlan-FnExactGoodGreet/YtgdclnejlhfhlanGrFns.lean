/-
  A greeting by three letters: what both tell of it, in plain words.
-/
import Derived.Test.YtgdclnejlhfhlanKGreetRows
namespace Go.Proofs.Ytgdclnejlhfhlan

/-- A number that was given. -/
def gvn (n last : Int) : Bool := decide (1 ≤ n ∧ n ≤ last)
/-- A number that was given, or 0 where it must be. -/
def gv0 (n last : Int) (z : Bool) : Bool := if z then decide (n = 0) else gvn n last
def letB (X Y : Int) (h : HeEl) : Bool := decide (1 ≤ h.1 ∧ h.1 ≤ 3) && (gv0 h.2.1 X false && gv0 h.2.2 Y (decide (h.1 = 1)))
def ackB (X Y : Int) (h : HeEl) : Bool := decide (h.1 = 3) && letB X Y h
/-- What a greeting's two sides and its numbers must be. -/
def numsB (s t x y ox oy lx ly : Int) (n a b : Nat) (r : Bool) : Bool :=
  decide (0 ≤ s ∧ s ≤ 2) && (decide (0 ≤ t ∧ t ≤ 2) && (decide (0 ≤ lx ∧ lx ≤ 1000) && (decide (0 ≤ ly ∧ ly ≤ 1000) && (decide (n ≤ 30) && (decide (a ≤ 300) && (decide (b ≤ 300) &&
  (gv0 x lx (decide (s = 0)) && (gv0 oy ly (decide (s < 2)) && (gv0 ox lx (decide (t = 0)) && (gv0 y ly (decide (t = 0)) && r))))))))))
def goodG (D : GrD) : Bool := numsB D.f0 D.f1 D.f2 D.f3 D.f4 D.f5 D.f6 D.f7 D.f8.length D.f9.length D.f10.length (D.f8.all (letB D.f6 D.f7) && (D.f9 ++ D.f10).all (ackB D.f6 D.f7))
def sideA (D : GrD) : Bool := decide (0 ≤ D.f0 ∧ D.f0 ≤ 2) && (gv0 D.f2 D.f6 (decide (D.f0 = 0)) && gv0 D.f5 D.f7 (decide (D.f0 < 2)))
def sideB (D : GrD) : Bool := decide (0 ≤ D.f1 ∧ D.f1 ≤ 2) && (gv0 D.f4 D.f6 (decide (D.f1 = 0)) && gv0 D.f3 D.f7 (decide (D.f1 = 0)))
def fitsB (D : GrD) : Bool := decide (D.f8.length ≤ 30) && (decide (D.f9.length ≤ 300) && decide (D.f10.length ≤ 300))
/-- The same in another order. -/
theorem goodG_order (D : GrD) : goodG D = (decide (0 ≤ D.f6) && (decide (D.f6 ≤ 1000) && (decide (0 ≤ D.f7) && (decide (D.f7 ≤ 1000) && (fitsB D && (sideA D && (sideB D && (D.f8.all (letB D.f6 D.f7) && (D.f9.all (ackB D.f6 D.f7) && D.f10.all (ackB D.f6 D.f7)))))))))) := by
  rw [Bool.eq_iff_iff]
  simp only [goodG, numsB, sideA, sideB, fitsB, Bool.and_eq_true, decide_eq_true_eq, List.all_append]
  constructor
  · rintro ⟨h1, h2, h3, h4, h5, h6, h7, h8, h9, h10, h11, h12, h13, h14⟩
    exact ⟨h3.1, h3.2, h4.1, h4.2, ⟨h5, h6, h7⟩, ⟨h1, h8, h9⟩, ⟨h2, h10, h11⟩, h12, h13, h14⟩
  · rintro ⟨h3, h3', h4, h4', ⟨h5, h6, h7⟩, ⟨h1, h8, h9⟩, ⟨h2, h10, h11⟩, h12, h13, h14⟩
    exact ⟨h1, h2, ⟨h3, h3'⟩, ⟨h4, h4'⟩, h5, h6, h7, h8, h9, h10, h11, h12, h13, h14⟩
def bothB (D : GrD) : Bool := decide (D.f0 = 2) && (decide (D.f1 = 2) && (decide (D.f2 = D.f4) && decide (D.f3 = D.f5)))
end Go.Proofs.Ytgdclnejlhfhlan
