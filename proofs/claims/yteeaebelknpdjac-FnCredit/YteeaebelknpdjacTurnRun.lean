/-
  Many turns: a queue that always has something waiting is sent its quantum each round, but for less than a packet (Shreedhar, Varghese). Plain arithmetic, no program.
-/
import Derived.Test.YteeaebelknpdjacTurnMath
namespace Go.Proofs.Yteeaebelknpdjac

def atN (D : TuD) : Nat := D.f4.toNat
def stepD (D : TuD) : TuD := nextD D (atN D)
def runD (D : TuD) : Nat → TuD
  | 0 => D
  | m + 1 => stepD (runD D m)
/-- All is good so far. -/
def RunOk (D : TuD) (m : Nat) : Prop := ∀ j, j ≤ m → GoodT (runD D j)
theorem run_q (D : TuD) : ∀ m, (runD D m).f0 = D.f0
  | 0 => rfl
  | m + 1 => run_q D m
theorem run_len (D : TuD) : ∀ m, (runD D m).f1.length = D.f1.length
  | 0 => rfl
  | m + 1 => by
    show ((runD D m).f1.set _ _).length = _
    rw [List.length_set]
    exact run_len D m
theorem run_at {D : TuD} (hn : 0 < D.f1.length) (h0 : atN D < D.f1.length) : ∀ m, atN (runD D m) = (atN D + m) % D.f1.length
  | 0 => (Nat.mod_eq_of_lt h0).symm
  | m + 1 => by
    show Int.toNat (((atN (runD D m) + 1) % (runD D m).f1.length : Nat) : Int) = _
    rw [Int.toNat_natCast, run_len, run_at hn h0 m, Nat.mod_add_mod]
    rfl
/-- How many of the first turns a queue had. -/
def cntT (a n k : Nat) : Nat → Nat
  | 0 => 0
  | m + 1 => cntT a n k m + if (a + m) % n = k then 1 else 0
theorem cnt_round {a n k : Nat} (h1 : 1 ≤ n) (h4 : n ≤ 4) (hk : k < n) (m : Nat) : cntT a n k (m + n) = cntT a n k m + 1 := by
  have hn : n = 1 ∨ n = 2 ∨ n = 3 ∨ n = 4 := by omega
  rcases hn with rfl | rfl | rfl | rfl
  · show cntT a 1 k m + (if (a + m) % 1 = k then 1 else 0) = _
    split <;> omega
  · show cntT a 2 k m + (if (a + m) % 2 = k then 1 else 0) + (if (a + (m + 1)) % 2 = k then 1 else 0) = _
    split <;> split <;> omega
  · show cntT a 3 k m + (if (a + m) % 3 = k then 1 else 0) + (if (a + (m + 1)) % 3 = k then 1 else 0) + (if (a + (m + 2)) % 3 = k then 1 else 0) = _
    split <;> split <;> split <;> omega
  · show cntT a 4 k m + (if (a + m) % 4 = k then 1 else 0) + (if (a + (m + 1)) % 4 = k then 1 else 0) + (if (a + (m + 2)) % 4 = k then 1 else 0) + (if (a + (m + 3)) % 4 = k then 1 else 0) = _
    split <;> split <;> split <;> split <;> omega
theorem cnt_rounds {a n k : Nat} (h1 : 1 ≤ n) (h4 : n ≤ 4) (hk : k < n) : ∀ r : Nat, cntT a n k (r * n) = r
  | 0 => by simp [cntT]
  | r + 1 => by rw [Nat.succ_mul, cnt_round h1 h4 hk, cnt_rounds h1 h4 hk r]
theorem fl_set_same {xs : List Int} {k : Nat} (h : k < xs.length) (y : Int) : fl (xs.set k y) k = y := by simp [fl, List.getD_eq_getElem?_getD, h]
theorem fl_set_other {xs : List Int} {k j : Nat} (h : j ≠ k) (y : Int) : fl (xs.set k y) j = fl xs j := by simp [fl, List.getD_eq_getElem?_getD, Ne.symm h]
theorem run_credit {D : TuD} (hg0 : GoodT D) {k : Nat} (hk : k < D.f1.length) : ∀ m, RunOk D m → ((runD D m).f1.getD k []).length ≠ 0 → fl (runD D m).f3 k - fl D.f3 k + fl (runD D m).f2 k = fl D.f2 k + (cntT (atN D) D.f1.length k m : Nat) * fl D.f0 k
  | 0, _, _ => by
    show fl D.f3 k - fl D.f3 k + fl D.f2 k = fl D.f2 k + (0 : Nat) * fl D.f0 k
    simp
  | m + 1, hok, hne => by
    have hg := hok m (by omega)
    have hn := hg0.n
    have h0 : atN D < D.f1.length := by
      have := hg0.at_
      have := hg0.l1
      unfold atN
      omega
    have ha := run_at (by omega) h0 m
    have hlen := run_len D m
    have hl3 : (runD D m).f3.length = D.f1.length := by rw [hg.l3, ← hg.l1, hlen]
    have hl2 : (runD D m).f2.length = D.f1.length := by rw [hg.l2, ← hg.l1, hlen]
    have hcnt : cntT (atN D) D.f1.length k (m + 1) = cntT (atN D) D.f1.length k m + if (atN D + m) % D.f1.length = k then 1 else 0 := rfl
    by_cases e : (atN D + m) % D.f1.length = k
    · have ek : atN (runD D m) = k := by rw [ha]; exact e
      have hne' : (leftT (runD D m) k).length ≠ 0 := by
        have h : ((stepD (runD D m)).f1.getD k []) = leftT (runD D m) k := by
          show ((runD D m).f1.set (atN (runD D m)) (leftT (runD D m) (atN (runD D m)))).getD k [] = _
          rw [ek]
          simp [List.getD_eq_getElem?_getD, hlen, hk]
        have h2 : ((runD D (m + 1)).f1.getD k []) = leftT (runD D m) k := h
        rw [h2] at hne
        exact hne
      have hpre : ((runD D m).f1.getD k []).length ≠ 0 := by
        have happ : sendT (runD D m) k ++ leftT (runD D m) k = (runD D m).f1.getD k [] := takeT_app _ _
        rw [← happ, List.length_append]
        omega
      have ih := run_credit hg0 hk m (fun j hj => hok j (by omega)) hpre
      have hc := (next_credit hg (by rw [hlen]; exact hk) hne').1
      rw [run_q] at hc
      have e3 : fl (runD D (m + 1)).f3 k = fl (runD D m).f3 k + sumI (sendT (runD D m) k) := by
        show fl ((runD D m).f3.set (atN (runD D m)) (fl (runD D m).f3 (atN (runD D m)) + sumI (sendT (runD D m) (atN (runD D m))))) k = _
        rw [ek, fl_set_same (by rw [hl3]; exact hk)]
      have e2 : fl (runD D (m + 1)).f2 k = restT (runD D m) k := by
        show fl ((runD D m).f2.set (atN (runD D m)) (restT (runD D m) (atN (runD D m)))) k = _
        rw [ek, fl_set_same (by rw [hl2]; exact hk)]
      rw [hcnt, if_pos e, e3, e2, show ((cntT (atN D) D.f1.length k m + 1 : Nat) : Int) = (cntT (atN D) D.f1.length k m : Int) + 1 by omega, Int.add_mul, Int.one_mul]
      omega
    · have ek : k ≠ atN (runD D m) := by rw [ha]; exact fun h => e h.symm
      have h1 : (runD D (m + 1)).f1.getD k [] = (runD D m).f1.getD k [] := by
        show ((runD D m).f1.set (atN (runD D m)) (leftT (runD D m) (atN (runD D m)))).getD k [] = _
        simp [List.getD_eq_getElem?_getD, Ne.symm ek]
      rw [h1] at hne
      have ih := run_credit hg0 hk m (fun j hj => hok j (by omega)) hne
      have e3 : fl (runD D (m + 1)).f3 k = fl (runD D m).f3 k := fl_set_other ek _
      have e2 : fl (runD D (m + 1)).f2 k = fl (runD D m).f2 k := fl_set_other ek _
      rw [hcnt, if_neg e, e3, e2, Nat.add_zero]
      exact ih
/-- A queue that always has something waiting is sent its quantum each round, but for less than a packet. -/
theorem run_share {D : TuD} (hg0 : GoodT D) {k r : Nat} (hk : k < D.f1.length) (hok : RunOk D (r * D.f1.length)) (hne : ((runD D (r * D.f1.length)).f1.getD k []).length ≠ 0) :
    fl (runD D (r * D.f1.length)).f3 k - fl D.f3 k = (r : Int) * fl D.f0 k + fl D.f2 k - fl (runD D (r * D.f1.length)).f2 k ∧ (r : Int) * fl D.f0 k - 20 < fl (runD D (r * D.f1.length)).f3 k - fl D.f3 k ∧ fl (runD D (r * D.f1.length)).f3 k - fl D.f3 k < (r : Int) * fl D.f0 k + 20 := by
  have h := run_credit hg0 hk _ hok hne
  have hn := hg0.n
  have hl := hg0.l1
  rw [cnt_rounds (by omega) (by omega) hk] at h
  have c0 := hg0.c k
  have c1 := (hok _ (Nat.le_refl _)).c k
  omega
end Go.Proofs.Yteeaebelknpdjac
