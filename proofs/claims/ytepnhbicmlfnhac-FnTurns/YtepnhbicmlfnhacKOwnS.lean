/-
  A row of numbers in blocks of a set. Plain facts on the memory.
  Turns of one's own, laid into a new box. Plain facts on the memory.
  What the law FnTurns asks of a turn, put together. Plain arithmetic, no program.
-/
import Derived.Test.YtepnhbicmlfnhacQForm
import Derived.Test.YtepnhbicmlfnhacTuC
import Derived.Test.YtepnhbicmlfnhacTurnRun
namespace Go.Proofs.Ytepnhbicmlfnhac
open Go.RowKit

def KOwnS (S : Nat → Prop) (w : World) (v : Value) (xs : List KEl) : Prop := ∃ l e, KOwn l e w v xs ∧ ∀ g, l ≤ g → g < e → S g
theorem KOwnS.reads {S : Nat → Prop} {w : World} {v : Value} {xs : List KEl} (h : KOwnS S w v xs) : KReads w v xs := by
  obtain ⟨l, e, h, _⟩ := h
  exact h.reads
theorem KOwnS.below {S : Nat → Prop} {w w' : World} {v : Value} {xs : List KEl} (h : KOwnS S w v xs) (hb : Below w.heap.size w w') : KOwnS S w' v xs := by
  obtain ⟨l, e, h, hs⟩ := h
  exact ⟨l, e, h.below hb, hs⟩
theorem KOwnS.onlyS {S S' : Nat → Prop} {w w' : World} {v : Value} {xs : List KEl} (h : KOwnS S w v xs) (ho : OnlyS S' w w') (hd : ∀ g, S g → S' g → False) : KOwnS S w' v xs := by
  obtain ⟨l, e, h, hs⟩ := h
  exact ⟨l, e, h.at fun g g1 g2 g3 => ho g g3 (hd g (hs g g1 g2)), hs⟩
theorem KOwn.inS {lo hi : Nat} {w : World} {v : Value} {xs : List KEl} (h : KOwn lo hi w v xs) : KOwnS (Iv lo hi) w v xs := ⟨lo, hi, h, fun _ h1 h2 => ⟨h1, h2⟩⟩
theorem KOwnS.on {l e : Nat} {S : Nat → Prop} {w w' : World} (hS : ∀ g, l ≤ g → g < e → S g) (on : Only l e w w') : OnlyS S w w' := fun j _ hj => on.2 j (by
  by_cases h1 : j < l
  · exact .inl h1
  · by_cases h2 : e ≤ j
    · exact .inr h2
    · exact absurd (hS j (by omega) (by omega)) hj)
/-- Behind the numbering of a row in blocks of S, all from lo on: nothing ahead of lo is touched. -/
theorem KOwnS.frame {l e lo : Nat} {S : Nat → Prop} {w w' : World} {v : Value} {xs : List KEl} (_h : KOwn l e w v xs) (hS : ∀ g, l ≤ g → g < e → S g) (hlo : ∀ g, S g → lo ≤ g) (_hw : lo ≤ w.heap.size) (b : Below l w w') (on : Only l e w w') : Below lo w w' :=
  ⟨b.os, b.tape, b.output, b.size, fun k hk => on.2 k (by
    by_cases h1 : k < l
    · exact .inl h1
    · by_cases h2 : e ≤ k
      · exact .inr h2
      · have := hlo k (hS k (by omega) (by omega))
        omega)⟩
end Go.Proofs.Ytepnhbicmlfnhac
namespace Go.Proofs.Ytepnhbicmlfnhac
open Go.RowKit

theorem tuC_new {lo hi : Nat} {w : World} {v : Value} {D : TuD} (h : TuOwn (Iv lo hi) w v D) (hh : hi ≤ w.heap.size) : ∃ a0 n0 k0 a1 n1 k1 a2 n2 k2 a3 n3 k3 c0 c1 c2 c3 iv, v = .agg #[.slice a0 n0 k0, .slice a1 n1 k1, .slice a2 n2 k2, .slice a3 n3 k3, .int .i64 D.f4] ∧ TuC (Iv lo hi) (w.alloc (.cells #[.slice a0 n0 k0, .slice a1 n1 k1, .slice a2 n2 k2, .slice a3 n3 k3, .int .i64 D.f4] 55)) w.heap.size D (.slice a0 n0 k0) (.slice a1 n1 k1) (.slice a2 n2 k2) (.slice a3 n3 k3) c0 c1 c2 c3 iv := by
  obtain ⟨v0, v1, v2, v3, c0, c1, c2, c3, iv, rfl, ha, h0, h1, h2, h3⟩ := h
  obtain ⟨a0, n0, k0, rfl⟩ := h0.sform
  obtain ⟨a1, n1, k1, rfl⟩ := h1.sform
  obtain ⟨a2, n2, k2, rfl⟩ := h2.sform
  obtain ⟨a3, n3, k3, rfl⟩ := h3.sform
  have b : Below w.heap.size w (w.alloc (.cells #[.slice a0 n0 k0, .slice a1 n1 k1, .slice a2 n2 k2, .slice a3 n3 k3, .int .i64 D.f4] 55)) := (Below.refl _ _).alloc (Nat.le_refl _) _
  exact ⟨a0, n0, k0, a1, n1, k1, a2, n2, k2, a3, n3, k3, c0, c1, c2, c3, iv, rfl, boxL_new w [.slice a0 n0 k0, .slice a1 n1 k1, .slice a2 n2 k2, .slice a3 n3 k3, .int .i64 D.f4] 55, fun hX => by unfold Iv at hX; omega, ha, h0.below b, h1.below b, h2.below b, h3.below b⟩
/-- Whether a turn may be. -/
def nextOk (D : TuD) : Bool := goodTu D && goodTu (stepD D)
/-- Whether so many turns may be. -/
def runOkB (D : TuD) : Nat → Bool
  | 0 => true
  | m + 1 => runOkB D m && goodTu (runD D (m + 1))
theorem goodT_tot {D : TuD} (hg : GoodT D) : tuTot D ≤ 1048576 := by
  have key : ∀ k, k ≤ D.f1.length → preL D.f1 k ≤ 30 * k := by
    intro k
    induction k with
    | zero => intro _; rw [preL_zero]; omega
    | succ k ih =>
      intro hk
      rw [preL_succ D.f1 k (by omega)]
      have := ih (by omega)
      have := (hg.k k (by omega)).1
      omega
  have h1 := key D.f1.length (Nat.le_refl _)
  have h2 := hg.n
  have h3 := hg.l1
  have h4 := hg.l2
  have h5 := hg.l3
  unfold tuTot
  omega
theorem send_len {D : TuD} (hg : GoodT D) {k : Nat} (hk : k < D.f1.length) : (sendT D k).length ≤ 30 := by
  have h3 := takeT_app (D.f1.getD k []) (credT D k)
  have h4 : ((takeT (credT D k) (D.f1.getD k [])).1 ++ (takeT (credT D k) (D.f1.getD k [])).2.1).length = (D.f1.getD k []).length := by rw [h3]
  rw [List.length_append] at h4
  have := (hg.k k hk).1
  unfold sendT
  omega
theorem runOk_of {D : TuD} (hg : GoodT D) : ∀ m, runOkB D m = true → RunOk D m
  | 0, _ => fun j hj => by obtain rfl : j = 0 := by omega
                           exact hg
  | m + 1, h => by
    unfold runOkB at h
    rw [Bool.and_eq_true] at h
    intro j hj
    by_cases e : j = m + 1
    · subst e; exact goodT_of h.2
    · exact runOk_of hg m h.1 j (by omega)
theorem runOkB_mono {D : TuD} : ∀ {m i : Nat}, i ≤ m → runOkB D m = true → runOkB D i = true
  | 0, i, h, h2 => by obtain rfl : i = 0 := by omega
                      exact h2
  | m + 1, i, h, h2 => by
    by_cases e : i = m + 1
    · rw [e]; exact h2
    · unfold runOkB at h2
      rw [Bool.and_eq_true] at h2
      exact runOkB_mono (by omega) h2.1
theorem runOkB_no {D : TuD} {m i : Nat} (h : i < m) (hn : goodTu (runD D (i + 1)) = false) : runOkB D m = false := by
  cases e : runOkB D m with
  | false => rfl
  | true =>
    have := runOkB_mono (i := i + 1) (by omega) e
    unfold runOkB at this
    rw [hn, Bool.and_false] at this
    cases this
end Go.Proofs.Ytepnhbicmlfnhac
namespace Go.Proofs.Ytepnhbicmlfnhac

structure TurnTold (D X : TuD) (k : Nat) (s l q : List Int) : Prop where
  gd : goodTu D = true
  gx : goodTu X = true
  at_ : D.f4 = (k : Int)
  k1 : k < D.f1.length
  k0 : k < D.f0.length
  k2 : k < D.f2.length
  kx1 : k < X.f1.length
  kx2 : k < X.f2.length
  q_is : D.f1.getD k [] = q
  l_is : X.f1.getD k [] = l
  app : s ++ l = q
  sum : totV X + waitV X = totV D + waitV D
  tot : totV X = totV D + sumI s
  cred : l.length ≠ 0 → sumI s + fl X.f2 k = fl D.f2 k + fl D.f0 k ∧ fl X.f2 k < fl l 0 ∧ s.length ≠ 0
  small : s.length ≤ 30 ∧ ∀ j, j < q.length → 1 ≤ fl q j ∧ fl q j ≤ 20
  tb : (0 ≤ totV D ∧ totV D ≤ 4000000) ∧ (0 ≤ waitV D ∧ waitV D ≤ 2400) ∧ (0 ≤ sumI s ∧ sumI s ≤ 600)
  cb : (0 ≤ fl D.f2 k ∧ fl D.f2 k ≤ 19) ∧ (20 ≤ fl D.f0 k ∧ fl D.f0 k ≤ 100) ∧ (0 ≤ fl X.f2 k ∧ fl X.f2 k ≤ 19)
theorem turn_told {D : TuD} (h : nextOk D = true) : TurnTold D (stepD D) (atN D) (sendT D (atN D)) (leftT D (atN D)) (D.f1.getD (atN D) []) := by
  unfold nextOk at h
  rw [Bool.and_eq_true] at h
  have hG := goodT_of h.1
  have hX := goodT_of h.2
  have hat := hG.at_
  have e4 : D.f4 = (atN D : Int) := by unfold atN; omega
  have l1 := hG.l1
  have l2 := hG.l2
  have l3 := hG.l3
  have hk1 : atN D < D.f1.length := by omega
  have hs := next_sum (D := D) hk1 (show atN D < D.f3.length by omega)
  have x1 : (stepD D).f1 = D.f1.set (atN D) (leftT D (atN D)) := rfl
  have x2 : (stepD D).f2 = D.f2.set (atN D) (restT D (atN D)) := rfl
  have f2 : fl (stepD D).f2 (atN D) = restT D (atN D) := by rw [x2]; simp [fl, List.getD_eq_getElem?_getD, show atN D < D.f2.length by omega]
  have t1 : totV (stepD D) = totT (stepD D) := by unfold totV; rw [h.2]; rfl
  have t2 : waitV (stepD D) = waitT (stepD D) := by unfold waitV; rw [h.2]; rfl
  have t3 : totV D = totT D := by unfold totV; rw [h.1]; rfl
  have t4 : waitV D = waitT D := by unfold waitV; rw [h.1]; rfl
  refine ⟨h.1, h.2, e4, hk1, by omega, by omega, by rw [x1, List.length_set]; exact hk1, by rw [x2, List.length_set]; omega, rfl, ?_, takeT_app _ _, ?_, ?_, ?_, ⟨send_len hG hk1, fun j hj => (hG.k _ hk1).2.1 j hj⟩, ?_, hG.c _, hG.q _ (by omega), hX.c _⟩
  · rw [x1]; simp [List.getD_eq_getElem?_getD, hk1]
  · rw [t1, t2, t3, t4]; exact hs.1
  · rw [t1, t3]; exact hs.2
  · intro hl
    rw [f2]
    exact next_credit hG hk1 hl
  · have s1 := sent_inT hG D.f3.length
    have s2 := wait_inT hG D.f1.length
    have hn := hG.n
    rw [t3, t4]
    refine ⟨?_, ?_, send_in hG _⟩
    · show 0 ≤ psum (fl D.f3) D.f3.length ∧ psum (fl D.f3) D.f3.length ≤ 4000000
      omega
    · show 0 ≤ psum (rowT D) D.f1.length ∧ psum (rowT D) D.f1.length ≤ 2400
      omega
end Go.Proofs.Ytepnhbicmlfnhac
