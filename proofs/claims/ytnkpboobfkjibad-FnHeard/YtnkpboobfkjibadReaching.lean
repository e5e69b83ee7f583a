/-
  impl.reaching: how many spans lie ahead, and how many not behind; the world stays.
  A span put into others, by how many lie ahead and how many are reached. Plain arithmetic, no program.
  impl.joined: a span put into others, in memory of its own. Nothing old is written.
-/
import Derived.Test.YtnkpboobfkjibadSpans
import Derived.Test.YtnkpboobfkjibadSpanMath
import Derived.Test.YtnkpboobfkjibadReplaced
import Derived.Test.YtnkpboobfkjibadRows2
import Derived.Deep.RegionHeld3
namespace Go.Proofs.Ytnkpboobfkjibad
open Go.RowKit
set_option maxRecDepth 100000

/-- How many at the front end ahead of f. -/
def ahead (xs : List Sp) (f : Int) : Nat := (xs.takeWhile fun y => decide (y.2 < f)).length
/-- How many from k on begin at t at most, and k. -/
def upto (xs : List Sp) (k : Nat) (t : Int) : Nat := k + ((xs.drop k).takeWhile fun y => decide (y.1 ≤ t)).length

theorem tw_spec (p : Sp → Bool) : ∀ (xs : List Sp) (i : Nat), i ≤ xs.length → (∀ j, j < i → p (xs.getD j (0, 0)) = true) → (i < xs.length → p (xs.getD i (0, 0)) = false) → (xs.takeWhile p).length = i
  | [], i, h, _, _ => by
    have : i = 0 := by simpa using h
    subst this
    rfl
  | x :: xs, 0, _, _, h2 => by
    have : p x = false := by simpa using h2 (by simp)
    simp [this]
  | x :: xs, i + 1, h, h1, h2 => by
    have : p x = true := by simpa using h1 0 (by omega)
    rw [List.takeWhile_cons, this]
    simp only [if_true, List.length_cons]
    rw [tw_spec p xs i (by simpa using h) (fun j hj => by simpa using h1 (j + 1) (by omega)) (fun hi => by simpa using h2 (by simpa using hi))]
theorem ahead_eq (xs : List Sp) (f : Int) (i : Nat) (hi : i ≤ xs.length) (h1 : ∀ j, j < i → (xs.getD j (0, 0)).2 < f) (h2 : i < xs.length → ¬ (xs.getD i (0, 0)).2 < f) : ahead xs f = i :=
  tw_spec _ xs i hi (fun j hj => by simpa using h1 j hj) (fun h => by simpa using h2 h)
theorem upto_eq (xs : List Sp) (k : Nat) (t : Int) (i : Nat) (hk : k ≤ i) (hi : i ≤ xs.length) (h1 : ∀ j, k ≤ j → j < i → (xs.getD j (0, 0)).1 ≤ t) (h2 : i < xs.length → ¬ (xs.getD i (0, 0)).1 ≤ t) : upto xs k t = i := by
  have hd : ∀ j, (xs.drop k).getD j (0, 0) = xs.getD (k + j) (0, 0) := fun j => by simp [List.getD_eq_getElem?_getD, List.getElem?_drop]
  have := tw_spec (fun y => decide (y.1 ≤ t)) (xs.drop k) (i - k) (by rw [List.length_drop]; omega) (fun j hj => by rw [hd]; simpa using h1 (k + j) (by omega) (by omega)) (fun h => by
    rw [List.length_drop] at h
    rw [hd, show k + (i - k) = i by omega]
    simpa using h2 (by omega))
  unfold upto
  omega

set_option maxHeartbeats 1000000 in
theorem reaching_any (v : Value) (xs : List Sp) (f t : Int) (w : World) (hr : SReads w v xs) :
    Calls Try.prog 176 #[v, .int .i64 f, .int .i64 t] w fun e w' => e = .returned (.tuple #[.int .i64 (ahead xs f), .int .i64 (upto xs (ahead xs f) t)]) ∧ w' = w := by
  obtain ⟨a, cap, rfl, hl, hx⟩ := hr
  have HC := hid hx
  clear hx
  go_enter Try.func176, Try.ntmps176
  go_wp2
  go_loopw [8] (fun i wr => ∃ k : Nat, k ≤ xs.length ∧ i = .int .i64 k ∧ (∀ j, j < k → (xs.getD j (0, 0)).2 < f) ∧ w = wr) (fun i _ => xs.length - (intOf i).toNat)
  case atStart => exact ⟨0, Nat.zero_le _, rfl, fun j hj => absurd hj (Nat.not_lt_zero j), rfl⟩
  case round =>
    obtain ⟨k, hk, rfl, hno, rfl⟩ := hrel
    have HN := hid hno
    clear hno
    have hk0 : (0 : Int) ≤ (k : Int) := by omega
    by_cases hlt : k < xs.length
    · obtain ⟨ga, oa, rfl, hca⟩ : ∃ b off, a = some ⟨b, off, none⟩ ∧ ∀ i, i < xs.length → w.cell? ⟨b, off + i * 2, none⟩ = some (.int .i64 (xs.getD i (0, 0)).1) ∧ w.cell? ⟨b, off + i * 2 + 1, none⟩ = some (.int .i64 (xs.getD i (0, 0)).2) := by
        rcases HC.out with h | h
        · subst h; simp at hlt
        · exact h
      have h2 := (hca k hlt).2
      obtain ⟨q, hq⟩ : ∃ q, q = (xs.getD k (0, 0)).2 := ⟨_, rfl⟩
      rw [← hq] at h2
      have HQ := hid hq
      have HC2 := hid hca
      clear hca hq
      by_cases hc : q < f
      · have hst : Hid (∀ j, j < k + 1 → (xs.getD j (0, 0)).2 < f) := fun j hj => by
          by_cases e : j = k
          · subst e; rw [← HQ.out]; exact hc
          · exact HN.out j (by omega)
        go_wp2
        go_roundw
        case rel => exact ⟨k + 1, by omega, by go_num, hst.out, trivial⟩
        case measure => simp [intOf]; omega
      · have hA : Hid (ahead xs f = k) := ahead_eq xs f k hk HN.out (fun _ => by rw [← HQ.out]; exact hc)
        go_wp2
        go_loopw [9] (fun i wr => ∃ k2 : Nat, k ≤ k2 ∧ k2 ≤ xs.length ∧ i = .int .i64 k2 ∧ (∀ j, k ≤ j → j < k2 → (xs.getD j (0, 0)).1 ≤ t) ∧ w = wr) (fun i _ => xs.length - (intOf i).toNat)
        case atStart => exact ⟨k, Nat.le_refl _, hk, rfl, fun j h1 h2 => absurd h2 (by omega), rfl⟩
        case round =>
          obtain ⟨k2, hk2, hk3, rfl, hno2, rfl⟩ := hrel
          have HN2 := hid hno2
          clear hno2
          have hk20 : (0 : Int) ≤ (k2 : Int) := by omega
          by_cases hlt2 : k2 < xs.length
          · have h1 := (HC2.out k2 hlt2).1
            obtain ⟨p, hp⟩ : ∃ p, p = (xs.getD k2 (0, 0)).1 := ⟨_, rfl⟩
            rw [← hp] at h1
            have HP := hid hp
            clear hp
            by_cases hc2 : p ≤ t
            · have hst : Hid (∀ j, k ≤ j → j < k2 + 1 → (xs.getD j (0, 0)).1 ≤ t) := fun j h1 hj => by
                by_cases e : j = k2
                · subst e; rw [← HP.out]; exact hc2
                · exact HN2.out j h1 (by omega)
              go_wp2
              go_roundw
              case rel => exact ⟨k2 + 1, by omega, by omega, by go_num, hst.out, trivial⟩
              case measure => simp [intOf]; omega
            · have hU : Hid (upto xs k t = k2) := upto_eq xs k t k2 hk2 hk3 HN2.out (fun _ => by rw [← HP.out]; exact hc2)
              go_wp2
              go_ret2
              exact ⟨by rw [hA.out, hU.out]; rfl, rfl⟩
          · have hU : Hid (upto xs k t = k2) := upto_eq xs k t k2 hk2 hk3 HN2.out (fun h => absurd h hlt2)
            go_wp2
            go_ret2
            exact ⟨by rw [hA.out, hU.out]; rfl, rfl⟩
    · have hA : Hid (ahead xs f = k) := ahead_eq xs f k hk HN.out (fun h => absurd h hlt)
      go_wp2
      go_loopw [9] (fun i wr => ∃ k2 : Nat, k ≤ k2 ∧ k2 ≤ xs.length ∧ i = .int .i64 k2 ∧ (∀ j, k ≤ j → j < k2 → (xs.getD j (0, 0)).1 ≤ t) ∧ w = wr) (fun i _ => xs.length - (intOf i).toNat)
      case atStart => exact ⟨k, Nat.le_refl _, hk, rfl, fun j h1 h2 => absurd h2 (by omega), rfl⟩
      case round =>
        obtain ⟨k2, hk2, hk3, rfl, hno2, rfl⟩ := hrel
        have HN2 := hid hno2
        clear hno2
        have hk20 : (0 : Int) ≤ (k2 : Int) := by omega
        by_cases hlt2 : k2 < xs.length
        · exact absurd hlt2 (by omega)
        · have hU : Hid (upto xs k t = k2) := upto_eq xs k t k2 hk2 hk3 HN2.out (fun h => absurd h hlt2)
          go_wp2
          go_ret2
          exact ⟨by rw [hA.out, hU.out]; rfl, rfl⟩
end Go.Proofs.Ytnkpboobfkjibad
namespace Go.Proofs.Ytnkpboobfkjibad

theorem chain_lt {p : Int} {l : List Sp} (h : chainB p l = true) : ∀ z ∈ l, p < z.1 ∧ z.1 < z.2 := by
  induction l generalizing p with
  | nil => simp
  | cons y l ih =>
    rw [chain_cons, spB_iff] at h
    intro z hz
    rcases List.mem_cons.1 hz with rfl | hz
    · omega
    · have := ih h.2.2 z hz
      omega
def fronts (l : List Sp) (t : Int) : Nat := (l.takeWhile fun y => decide (y.1 ≤ t)).length
theorem fronts_cons (y : Sp) (l : List Sp) (t : Int) : fronts (y :: l) t = if y.1 ≤ t then fronts l t + 1 else 0 := by
  unfold fronts
  rw [List.takeWhile_cons]
  by_cases h : y.1 ≤ t <;> simp [h]
theorem fronts_le (l : List Sp) (t : Int) : fronts l t ≤ l.length := by
  unfold fronts
  exact (List.takeWhile_sublist _).length_le
theorem fronts_max {p : Int} {l : List Sp} (h : chainB p l = true) (t q : Int) (hq : q ≤ p) : fronts l (max t q) = fronts l t := by
  unfold fronts
  congr 1
  induction l with
  | nil => rfl
  | cons y l ih =>
    have hy := chain_lt h y (by simp)
    rw [chain_cons] at h
    rw [List.takeWhile_cons, List.takeWhile_cons, ih (chain_mono h.2.2 (by have := (spB_iff y).1 h.2.1; omega))]
    rw [show decide (y.1 ≤ max t q) = decide (y.1 ≤ t) by rw [decide_eq_decide]; omega]
theorem chain_getD {p : Int} {l : List Sp} (h : chainB p l = true) (i : Nat) (hi : i < l.length) : p < (l.getD i (0, 0)).1 ∧ (l.getD i (0, 0)).1 < (l.getD i (0, 0)).2 :=
  chain_lt h _ (by simp [List.getD_eq_getElem?_getD, hi])

theorem addM_eq {p : Int} {l : List Sp} {x : Sp} (h : chainB p l = true) :
    addM l x = if fronts l x.2 = 0 then x :: l else (min x.1 (l.getD 0 (0, 0)).1, max x.2 (l.getD (fronts l x.2 - 1) (0, 0)).2) :: l.drop (fronts l x.2) := by
  induction l generalizing x p with
  | nil => simp [addM, fronts]
  | cons y l ih =>
    rw [chain_cons, spB_iff] at h
    rw [fronts_cons]
    simp only [addM]
    split
    · rename_i hy
      rw [if_neg (by omega), ih h.2.2]
      simp only
      rw [fronts_max h.2.2 x.2 y.2 (Int.le_refl _)]
      by_cases h0 : fronts l x.2 = 0
      · rw [if_pos h0, h0]
        simp
      · rw [if_neg h0]
        have hfl := fronts_le l x.2
        have g0 := chain_getD h.2.2 0 (by omega)
        have g1 := chain_getD h.2.2 (fronts l x.2 - 1) (by omega)
        rw [List.drop_succ_cons, show fronts l x.2 + 1 - 1 = (fronts l x.2 - 1) + 1 by omega]
        simp only [List.getD_cons_succ, List.getD_cons_zero]
        congr 1
        rw [Prod.mk.injEq]
        constructor <;> omega
    · rw [if_pos rfl]

theorem ahead_cons (y : Sp) (l : List Sp) (f : Int) : ahead (y :: l) f = if y.2 < f then ahead l f + 1 else 0 := by
  unfold ahead
  rw [List.takeWhile_cons]
  by_cases h : y.2 < f <;> simp [h]
theorem ahead_le (l : List Sp) (f : Int) : ahead l f ≤ l.length := by
  unfold ahead
  exact (List.takeWhile_sublist _).length_le
theorem upto_fronts (xs : List Sp) (k : Nat) (t : Int) : upto xs k t = k + fronts (xs.drop k) t := rfl
theorem upto_le (xs : List Sp) (k : Nat) (t : Int) (hk : k ≤ xs.length) : upto xs k t ≤ xs.length := by
  have := fronts_le (xs.drop k) t
  rw [List.length_drop] at this
  rw [upto_fronts]
  omega

/-- What is put in the place of those that are reached. -/
def grownTo (xs : List Sp) (x : Sp) : Sp := if ahead xs x.1 < upto xs (ahead xs x.1) x.2 then (min x.1 (xs.getD (ahead xs x.1) (0, 0)).1, max x.2 (xs.getD (upto xs (ahead xs x.1) x.2 - 1) (0, 0)).2) else x
theorem joined_math {p : Int} {xs : List Sp} {x : Sp} (h : chainB p xs = true) : xs.take (ahead xs x.1) ++ [grownTo xs x] ++ xs.drop (upto xs (ahead xs x.1) x.2) = addL xs x := by
  induction xs generalizing p with
  | nil => simp [addL, grownTo, ahead, upto]
  | cons y l ih =>
    have hc := h
    rw [chain_cons] at h
    simp only [addL]
    by_cases hy : y.2 < x.1
    · rw [if_pos hy, ← ih h.2.2]
      have e1 : ahead (y :: l) x.1 = ahead l x.1 + 1 := by rw [ahead_cons, if_pos hy]
      have e2 : upto (y :: l) (ahead (y :: l) x.1) x.2 = upto l (ahead l x.1) x.2 + 1 := by rw [upto_fronts, upto_fronts, e1, List.drop_succ_cons]; omega
      have e3 : grownTo (y :: l) x = grownTo l x := by
        unfold grownTo
        rw [e2, e1]
        by_cases hlt : ahead l x.1 < upto l (ahead l x.1) x.2
        · rw [if_pos (by omega), if_pos hlt, show upto l (ahead l x.1) x.2 + 1 - 1 = (upto l (ahead l x.1) x.2 - 1) + 1 by omega]
          simp only [List.getD_cons_succ]
        · rw [if_neg (by omega), if_neg hlt]
      rw [e3, e2, e1]
      simp
    · rw [if_neg hy, addM_eq hc]
      have e1 : ahead (y :: l) x.1 = 0 := by rw [ahead_cons, if_neg hy]
      have e2 : upto (y :: l) 0 x.2 = fronts (y :: l) x.2 := by rw [upto_fronts]; simp
      unfold grownTo
      rw [e1, e2]
      by_cases h0 : fronts (y :: l) x.2 = 0
      · rw [if_neg (by omega), if_pos h0, h0]
        simp
      · rw [if_pos (by omega), if_neg h0]
        simp
end Go.Proofs.Ytnkpboobfkjibad
namespace Go.Proofs.Ytnkpboobfkjibad
open Go.RowKit
set_option maxRecDepth 100000

set_option maxHeartbeats 2000000 in
theorem joined_any (v : Value) (xs : List Sp) (p q : Int) (w : World) (hr : SReads w v xs) (hc : chainB (-1) xs = true) (hx : xs.length ≤ 1048576) :
    Calls Try.prog 138 #[v, .agg #[.int .i64 p, .int .i64 q]] w fun e w' => ∃ v', e = .returned v' ∧ SOwn w.heap.size w' v' (addL xs (p, q)) ∧ Below w.heap.size w w' := by
  have HR := hid hr
  have HM := hid (joined_math (x := (p, q)) hc)
  have ha := ahead_le xs p
  have hu := upto_le xs (ahead xs p) q ha
  have hau : ahead xs p ≤ upto xs (ahead xs p) q := by rw [upto_fronts]; omega
  have HG : Hid (grownTo xs (p, q) = if ahead xs p < upto xs (ahead xs p) q then (min p (xs.getD (ahead xs p) (0, 0)).1, max q (xs.getD (upto xs (ahead xs p) q - 1) (0, 0)).2) else (p, q)) := rfl
  have HM' : Hid (xs.take (ahead xs p) ++ [grownTo xs (p, q)] ++ xs.drop (upto xs (ahead xs p) q) = addL xs (p, q)) := HM.out
  have HRC := hid (fun wz => reaching_any v xs p q wz)
  clear hr hc HM
  generalize upto xs (ahead xs p) q = b at hu hau HG HM' HRC
  generalize ahead xs p = f at ha hau HG HM' HRC
  by_cases hlt : f < b
  · obtain ⟨ga, oa, cap, rfl, hca⟩ := sreads_cells HR.out f (by omega)
    have h1 := (hca f (by omega)).1
    have h2 := (hca (b - 1) (by omega)).2
    have hga : ga < w.heap.size := lt_of_cell h1
    obtain ⟨r, hr0⟩ : ∃ r, r = (xs.getD f (0, 0)).1 := ⟨_, rfl⟩
    obtain ⟨s, hs0⟩ : ∃ s, s = (xs.getD (b - 1) (0, 0)).2 := ⟨_, rfl⟩
    have hg : Hid (grownTo xs (p, q) = (min p r, max q s)) := by
      show _ = _
      rw [HG.out, if_pos hlt, hr0, hs0]
    rw [← hr0] at h1
    rw [← hs0] at h2
    obtain ⟨b1, hb1⟩ : ∃ b1, b1 = b - 1 := ⟨_, rfl⟩
    rw [← hb1] at h2
    have hw : IntKind.i64.wrap ((b : Int) - 1) = (b1 : Int) := by rw [IntKind.wrap_i64]; omega
    have n0 : (0 : Int) ≤ (f : Int) := by omega
    have n1 : (f : Int) < (xs.length : Int) := by omega
    have n2 : (0 : Int) ≤ (b1 : Int) := by omega
    have n3 : (b1 : Int) < (xs.length : Int) := by omega
    clear hca hr0 hs0 HG hb1
    go_enter Try.func138, Try.ntmps138
    go_wp2_with fail
    refine (HRC.out _ (HR.out.below ?_)).mono ?_
    · exact (Below.refl _ _).alloc (Nat.le_refl _) _
    rintro e w' ⟨rfl, hw'⟩; obtain rfl := hw'.symm
    go_wp2_with fail
    go_region_with fail
    all_goals
      go_wp2_with fail
      go_region_with fail
    all_goals
      go_wp2_with fail
      refine (replaced_any _ _ xs [(min p r, max q s)] f b _ (HR.out.below ?hb) ?hs hau hu hx (by simp)).mono ?_
      case hb => go_grown
      case hs =>
        refine ⟨_, _, rfl, by simp, .inr ⟨_, 0, rfl, fun i hi => ?_⟩⟩
        obtain rfl : i = 0 := by simpa using hi
        exact ⟨by simp, by simp⟩
      rintro e w5 ⟨v5, rfl, o5, b5⟩
      have B5 : Hid (Below w.heap.size w w5) := by
        show Below _ _ _
        refine Below.trans ?_ (b5.mono (by first | (simp; done) | (simp; omega)))
        go_grown
      have O5 : Hid (SOwn w.heap.size w5 v5 (addL xs (p, q))) := by
        show SOwn _ _ _ _
        rw [← HM'.out, hg.out]
        exact o5.mono (by first | (simp; done) | (simp; omega))
      clear o5 b5
      go_wp2
      go_ret
      exact ⟨_, rfl, O5.out, B5.out⟩
  · have hg : Hid (grownTo xs (p, q) = (p, q)) := by
      show _ = _
      rw [HG.out, if_neg hlt]
    clear HG
    go_enter Try.func138, Try.ntmps138
    go_wp2_with fail
    refine (HRC.out _ (HR.out.below ?_)).mono ?_
    · exact (Below.refl _ _).alloc (Nat.le_refl _) _
    rintro e w' ⟨rfl, hw'⟩; obtain rfl := hw'.symm
    go_wp2_with fail
    refine (replaced_any _ _ xs [(p, q)] f b _ (HR.out.below ?hb) ?hs hau hu hx (by simp)).mono ?_
    case hb => go_grown
    case hs =>
      refine ⟨_, _, rfl, by simp, .inr ⟨_, 0, rfl, fun i hi => ?_⟩⟩
      obtain rfl : i = 0 := by simpa using hi
      exact ⟨by simp, by simp⟩
    rintro e w5 ⟨v5, rfl, o5, b5⟩
    have B5 : Hid (Below w.heap.size w w5) := by
      show Below _ _ _
      refine Below.trans ?_ (b5.mono (by first | (simp; done) | (simp; omega)))
      go_grown
    have O5 : Hid (SOwn w.heap.size w5 v5 (addL xs (p, q))) := by
      show SOwn _ _ _ _
      rw [← HM'.out, hg.out]
      exact o5.mono (by first | (simp; done) | (simp; omega))
    clear o5 b5
    go_wp2
    go_ret
    exact ⟨_, rfl, O5.out, B5.out⟩
end Go.Proofs.Ytnkpboobfkjibad
