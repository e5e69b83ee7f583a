/-
  A good sender is small. Plain arithmetic.
  What is heard of, in plain words: which letters are new, which are lost. Plain arithmetic.
  What is heard of: the sets that the program makes, held against the plain words. Plain arithmetic.
  The builtins min and max of two numbers. Nothing is written.
  impl.overtakenBy: below which number letters are overtaken. Nothing is written.
-/
import Derived.Test.YtnkpboobfkjibadIGoodSd
import Derived.Test.YtnkpboobfkjibadISortI
import Derived.Test.YtnkpboobfkjibadLenFacts
import Derived.Test.YtnkpboobfkjibadIWithout
import Derived.Test.YtnkpboobfkjibadKSpanConv
import Derived.Test.YtnkpboobfkjibadInts
namespace Go.Proofs.Ytnkpboobfkjibad

theorem goodSd_parts {D : SdD} (h : goodSd D = true) : belB D.f1 D.f0 = true ∧ risB D.f2 D.f0 = true := by
  unfold goodSd at h
  rw [Bool.and_eq_true, Bool.and_eq_true, Bool.and_eq_true] at h
  exact ⟨h.2.1, h.2.2.1⟩
theorem risB_pair {l : List Int} {many : Int} (h : risB l many = true) : l.Pairwise (· < ·) := by
  unfold risB at h
  rw [risU_iff] at h
  have key : ∀ j i, i < j → (hj : j < l.length) → fl l i < fl l j := by
    intro j
    induction j with
    | zero => intro i hi; omega
    | succ j ih =>
      intro i hi hj
      have h1 := (h (j + 1) hj).2.resolve_left (by omega)
      rw [Nat.add_sub_cancel] at h1
      by_cases e : i = j
      · subst e; exact h1
      · have := ih i (by omega) (by omega)
        omega
  refine List.pairwise_iff_getElem.2 fun i j hi hj hij => ?_
  have := key j i hij hj
  rwa [fl_get hi, fl_get hj] at this
theorem goodSd_few {D : SdD} (h : goodSd D = true) : (0 ≤ D.f0 ∧ D.f0 ≤ 60) ∧ D.f1.length ≤ 20 ∧ D.f2.length ≤ 60 := by
  obtain ⟨h1, h2⟩ := goodSd_parts h
  have h0 : 0 ≤ D.f0 ∧ D.f0 ≤ 60 := by
    unfold goodSd at h
    rw [Bool.and_eq_true, decide_eq_true_eq] at h
    exact h.1
  refine ⟨h0, ?_, ?_⟩
  · unfold belB at h1
    rw [Bool.and_eq_true] at h1
    exact good_len h1.1
  · exact rising_len (m := 60) (risB_pair h2) fun x hx => by have := risB_mem h2 x hx; omega
end Go.Proofs.Ytnkpboobfkjibad
namespace Go.Proofs.Ytnkpboobfkjibad

/-- Those of the first n that f tells, rising. -/
def selU (f : Int → Bool) : Nat → List Int
  | 0 => []
  | n + 1 => selU f n ++ (bif f n then [(n : Int)] else [])
theorem selU_mem (f : Int → Bool) : ∀ n x, x ∈ selU f n ↔ (upTo n x && f x) = true
  | 0, x => by
    constructor
    · intro hx; cases hx
    · intro hx
      simp only [Bool.and_eq_true, upTo, decide_eq_true_eq] at hx
      omega
  | n + 1, x => by
    have ih := selU_mem f n x
    show x ∈ selU f n ++ _ ↔ _
    rw [List.mem_append, ih]
    simp only [upTo, Bool.and_eq_true, decide_eq_true_eq]
    by_cases e : x = (n : Int)
    · subst e
      cases h1 : f (n : Int) <;> simp <;> omega
    · have hne : ¬ x ∈ (bif f (n : Int) then [(n : Int)] else []) := by
        cases f (n : Int)
        · simp
        · simpa using e
      constructor
      · rintro (hx | hx)
        · exact ⟨by omega, hx.2⟩
        · exact absurd hx hne
      · rintro ⟨h1, h2⟩
        exact .inl ⟨by omega, h2⟩
theorem selU_rising (f : Int → Bool) : ∀ n, (selU f n).Pairwise (· < ·)
  | 0 => List.Pairwise.nil
  | n + 1 => by
    show (selU f n ++ _).Pairwise _
    rw [List.pairwise_append]
    refine ⟨selU_rising f n, ?_, fun a ha b hb => ?_⟩
    · cases f (n : Int) <;> simp
    · have h1 := (selU_mem f n a).1 ha
      simp only [upTo, Bool.and_eq_true, decide_eq_true_eq] at h1
      have h2 : b = (n : Int) := by
        revert hb
        cases f (n : Int)
        · intro hb; simp at hb
        · intro hb; simpa using hb
      omega
theorem selU_len (f : Int → Bool) (n : Nat) : (selU f n).length ≤ n :=
  rising_len (selU_rising f n) fun x hx => by
    have h1 := (selU_mem f n x).1 hx
    simp only [upTo, Bool.and_eq_true, decide_eq_true_eq] at h1
    exact h1.1
/-- A set of letters below n, in order. -/
theorem sel_of_set {ys : List Int} {g f : Int → Bool} {n : Nat} (hy : ys.Pairwise (· < ·)) (hm : ∀ x, x ∈ ys ↔ g x = true) (hg : ∀ x, g x = (upTo n x && f x)) : ys = selU f n :=
  rising_eq hy (selU_rising f n) fun x => by rw [hm, hg, selU_mem]
/-- The greatest that is heard of. -/
def topH (J : List Sp) : Int := bif decide (J.length = 0) then -1 else lastTo J - 1
def freshF (J H : List Sp) (x : Int) : Bool := hasL J x && !hasL H x
def lostF (J : List Sp) (L : List Int) (x : Int) : Bool := !hasL J x && (L.contains x || decide (x + 3 ≤ topH J))
def lateF (J : List Sp) (L : List Int) (x : Int) : Bool := !hasL J x && (!L.contains x && decide (x + 3 ≤ topH J))
def hearB (D : SdD) (l : List Sp) : Bool := goodSd D && (belB l D.f0 && decide ((joinL D.f1 l).length ≤ 20))
def hearSd (D : SdD) (l : List Sp) : SdD := bif hearB D l then ⟨D.f0, joinL D.f1 l, selU (lostF (joinL D.f1 l) D.f2) D.f0.toNat⟩ else zeroSd
def hearFr (D : SdD) (l : List Sp) : List Int := bif hearB D l then selU (freshF (joinL D.f1 l) D.f1) D.f0.toNat else []
def hearLa (D : SdD) (l : List Sp) : List Int := bif hearB D l then selU (lateF (joinL D.f1 l) D.f2) D.f0.toNat else []
/-- Spans put together stay below many. -/
theorem join_bel {a b : List Sp} {z : Int} (ha : belB a z = true) (hb : belB b z = true) (hl : (joinL a b).length ≤ 20) : belB (joinL a b) z = true := by
  have ga : goodL a = true := by unfold belB at ha; rw [Bool.and_eq_true] at ha; exact ha.1
  have gb : goodL b = true := by unfold belB at hb; rw [Bool.and_eq_true] at hb; exact hb.1
  have hc := joinL_chain (good_chain ga) (good_chain gb)
  unfold belB goodL
  rw [hc, decide_eq_true hl]
  by_cases h0 : (joinL a b).length = 0
  · rw [decide_eq_true h0]; rfl
  · have h1 := chain_last hc h0
    rw [joinL_has (good_chain ga) (good_chain gb), Bool.or_eq_true] at h1
    have h2 : lastTo (joinL a b) - 1 < z := h1.elim (fun h => (bel_has ha h).2) (fun h => (bel_has hb h).2)
    rw [decide_eq_false h0, decide_eq_true (by omega)]
    rfl
end Go.Proofs.Ytnkpboobfkjibad
namespace Go.Proofs.Ytnkpboobfkjibad

theorem endN_top (J : List Sp) {p : Int} (h : chainB p J = true) (x : Int) (hx : 0 ≤ x) : decide (x + 3 ≤ topH J) = decide (x < max (endN J - 3) 0) := by
  unfold topH endN
  by_cases h0 : J.length = 0
  · rw [decide_eq_true h0]
    show decide (x + 3 ≤ -1) = decide (x < max (0 - 3) 0)
    rw [decide_eq_decide]
    omega
  · rw [decide_eq_false h0]
    show decide (x + 3 ≤ lastTo J - 1) = decide (x < max (lastTo J - 3) 0)
    have h1 := chain_spot h (J.length - 1) (by omega)
    have h2 := (spB_iff _).1 h1.1.2
    rw [decide_eq_decide]
    unfold lastTo
    omega
theorem fresh_set {J H : List Sp} {n : Nat} (hJ : belB J (n : Int) = true) (x : Int) : (hasL J x && !hasL H x) = (upTo n x && freshF J H x) := by
  unfold freshF
  cases h : hasL J x
  · simp
  · have := bel_has hJ h
    rw [show upTo n x = true by unfold upTo; rw [decide_eq_true_eq]; omega]
    simp
theorem late_set {J : List Sp} {L : List Int} {n m : Nat} (hJ : belB J (n : Int) = true) (hm : max (endN J - 3) 0 = (m : Int)) (x : Int) :
    (upTo m x && !hasL J x && !(L.contains x && !hasL J x)) = (upTo n x && lateF J L x) := by
  have hc : chainB (-1) J = true := by unfold belB at hJ; rw [Bool.and_eq_true] at hJ; exact good_chain hJ.1
  unfold lateF
  by_cases h0 : 0 ≤ x
  · rw [endN_top J hc x h0, hm]
    by_cases h1 : x < (m : Int)
    · have h2 : x < (n : Int) := by
        by_cases e : J.length = 0
        · unfold endN at hm
          rw [decide_eq_true e] at hm
          have : max ((0 : Int) - 3) 0 = (m : Int) := hm
          omega
        · have h3 := (bel_has hJ (chain_last hc e)).2
          unfold endN at hm
          rw [decide_eq_false e] at hm
          have : max (lastTo J - 3) 0 = (m : Int) := hm
          omega
      rw [show upTo m x = true by unfold upTo; rw [decide_eq_true_eq]; omega, show upTo n x = true by unfold upTo; rw [decide_eq_true_eq]; omega, decide_eq_true h1]
      cases hasL J x <;> cases L.contains x <;> rfl
    · rw [show upTo m x = false by unfold upTo; rw [decide_eq_false_iff_not]; omega, decide_eq_false h1]
      cases upTo n x <;> cases hasL J x <;> cases L.contains x <;> rfl
  · rw [show upTo m x = false by unfold upTo; rw [decide_eq_false_iff_not]; omega, show upTo n x = false by unfold upTo; rw [decide_eq_false_iff_not]; omega]
    rfl
theorem lost_set {J : List Sp} {L : List Int} {n : Nat} (hL : ∀ x ∈ L, 0 ≤ x ∧ x ≤ (n : Int) - 1) (x : Int) :
    ((L.contains x && !hasL J x) || (selU (lateF J L) n).contains x) = (upTo n x && lostF J L x) := by
  have e : (selU (lateF J L) n).contains x = (upTo n x && lateF J L x) := by
    rw [List.contains_eq_mem, Bool.eq_iff_iff, decide_eq_true_eq, selU_mem]
  rw [e]
  unfold lateF lostF
  cases h : L.contains x
  · cases upTo n x <;> cases hasL J x <;> simp
  · have hx : x ∈ L := by simpa using h
    have := hL x hx
    rw [show upTo n x = true by unfold upTo; rw [decide_eq_true_eq]; omega]
    cases hasL J x <;> simp
end Go.Proofs.Ytnkpboobfkjibad
namespace Go.Proofs.Ytnkpboobfkjibad
open Go.RowKit

theorem min9_run (p q r : Int) (h : min p q = r) : ∀ (ts : Array TypeId) (ty : TypeId) (w : World), (Builtin.min_ ts ty #[.int .i64 p, .int .i64 q]).run Try.prog w = .ok (.int .i64 r) w := fun ts ty w => by
  have : (if q < p then q else p) = r := by split <;> omega
  simp [Builtin.min_, Builtin.min2, this]
theorem max9_run (p q r : Int) (h : max p q = r) : ∀ (ts : Array TypeId) (ty : TypeId) (w : World), (Builtin.max_ ts ty #[.int .i64 p, .int .i64 q]).run Try.prog w = .ok (.int .i64 r) w := fun ts ty w => by
  have : (if p < q then q else p) = r := by split <;> omega
  simp [Builtin.max_, Builtin.max2, this]
end Go.Proofs.Ytnkpboobfkjibad
namespace Go.Proofs.Ytnkpboobfkjibad
open Go.RowKit

set_option maxRecDepth 100000 in
set_option maxHeartbeats 4000000 in
theorem iover_eq (v : Value) (xs : List Sp) (n : Nat) (h : max (endN xs - 3) 0 = (n : Int)) (hz : 0 ≤ endN xs ∧ endN xs ≤ 1000000) (w : World) (hr : SpReads w v xs) :
    Calls Try.prog 121 #[v] w fun e w' => e = .returned (.int .i64 (n : Nat)) ∧ w' = w := by
  have HR := hid hr
  obtain ⟨a, cap, rfl, hl, _⟩ := hr
  obtain ⟨z, hzz⟩ : ∃ z, endN xs = z := ⟨_, rfl⟩
  rw [hzz] at h hz
  have HZ := hid hzz
  obtain ⟨y, hy⟩ : ∃ y, y = z - 3 := ⟨_, rfl⟩
  have hw1 : IntKind.i64.wrap (z - 3) = y := by rw [hy, IntKind.wrap_i64]; omega
  rw [← hy] at h
  have hx1 := max9_run y 0 (n : Int) h
  clear hzz hy h hz
  go_enter Try.func121, Try.ntmps121
  go_wp2_with fail
  refine (iend_eq _ xs z HZ.out _ HR.out).mono ?_
  rintro e w' ⟨rfl, hw⟩; obtain rfl := hw.symm
  go_wp2
  go_ret
  exact ⟨rfl, rfl⟩
end Go.Proofs.Ytnkpboobfkjibad
