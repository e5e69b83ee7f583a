/-
  spec.FirstDone: when the first coming of a task is done: just as long as it takes at most. Nothing old is written.
-/
import Derived.Test.YtmcmkobdkkibkabSThere
import Derived.Test.YtmcmkobdkkibkabSRun
import Derived.Test.YtmcmkobdkkibkabSBit
import Derived.Test.YtmcmkobdkkibkabLongFns
import Derived.OwnWalk
namespace Go.Proofs.Ytmcmkobdkkibkab
open Go.RowKit

theorem runL_at (xs : List AgEl) : ∀ (m t : Nat), t < m → (runL xs m).getD t 0 = pickU (needA xs) (everyA xs) (runL xs t) xs.length
  | 0, t, h => absurd h (by omega)
  | m + 1, t, h => by
    rw [runL_succ]
    by_cases e : t = m
    · subst e
      have hl := runL_len xs t
      simp [List.getD_eq_getElem?_getD, hl]
    · have hl := runL_len xs m
      rw [← runL_at xs m t (by omega)]
      simp [List.getD_eq_getElem?_getD, List.getElem?_append_left (show t < (runL xs m).length by omega)]
theorem cnt_next (xs : List AgEl) (k t : Nat) : cntL k (runL xs (t + 1)) = cntL k (runL xs t) + if (runL xs 200).getD t 0 = (k : Int) ∧ t < 200 ∨ (¬ t < 200 ∧ pickU (needA xs) (everyA xs) (runL xs t) xs.length = (k : Int)) then 1 else 0 := by
  have h := run_cnt (needA xs) (everyA xs) xs.length t k
  change cntL k (runL xs (t + 1)) = cntL k (runL xs t) + _ at h
  rw [h]
  by_cases ht : t < 200
  · have e := runL_at xs 200 t ht
    change (runL xs 200).getD t 0 = pickU (needA xs) (everyA xs) (runU (needA xs) (everyA xs) xs.length t) xs.length at e
    rw [← e]
    simp [ht]
  · simp only [ht, and_false, false_or, not_false_eq_true, true_and]
    rfl
set_option maxHeartbeats 1000000 in
theorem sfirst_no (v : Value) (xs : List AgEl) (k : Int) (w : World) (hr : AgReads w v xs) (hn : thereA xs k = false) :
    Calls Try.prog 40 #[v, .int .i64 k] w fun e w' => e = .returned (.tuple #[.int .i64 0, .bool false, .bool false]) ∧ Below w.heap.size w w' := by
  have HR := hid hr
  clear hr
  go_enter Try.func40, Try.ntmps40
  go_wp2_with fail
  refine (sthere_eq _ xs k false hn _ HR.out).mono ?_
  rintro e w1 ⟨rfl, b1⟩
  have B1 := hid b1
  clear b1
  go_wp2
  go_ret3
  exact ⟨rfl, B1.out⟩
set_option maxRecDepth 100000 in
set_option maxHeartbeats 8000000 in
theorem sfirst_yes (v : Value) (xs : List AgEl) (k : Nat) (w : World) (hr : AgReads w v xs) (hg : goodA xs = true) (hk : k < xs.length) :
    Calls Try.prog 40 #[v, .int .i64 (k : Nat)] w fun e w' => e = .returned (.tuple #[.int .i64 (lgN xs k), .bool (lgB xs k), .bool true]) ∧ Below w.heap.size w w' := by
  have HR := hid hr
  have HG := hid hg
  have hlen := goodA_len hg
  have HT : Hid (thereA xs (k : Nat) = true) := by show _ = _; unfold thereA; rw [hg, decide_eq_true (p := (0 : Int) ≤ (k : Int)) (by omega), decide_eq_true (p := (k : Int) < (xs.length : Int)) (by omega)]; rfl
  have HF : Hid (∀ v, IsFirst (needA xs) (everyA xs) xs.length k v → v = longA xs k) := fun v hv => isLong_eq (first_is_long (goodA_tasks hg) hk hv) (longC_is (goodA_tasks hg) hk)
  obtain ⟨gl, ol, cap, rfl, hcw⟩ := hr.cells k hk
  have hnk := (goodA_tasks hg).need k hk
  obtain ⟨C, hC⟩ : ∃ C, C = needA xs k := ⟨_, rfl⟩
  have ck0 : w.cell? ⟨gl, ol + k * 2, none⟩ = some (.int .i64 C) := by rw [hC]; exact (hcw k hk).1
  have HC := hid hC
  rw [← hC] at hnk
  have n0 : (0 : Int) ≤ (k : Int) := by omega
  have n1 : (k : Int) < (xs.length : Int) := by omega
  have CK0 := hid ck0
  clear hr hg hC hcw ck0
  go_enter Try.func40, Try.ntmps40
  go_wp2_with fail
  refine (sthere_eq _ xs k true HT.out _ HR.out).mono ?_
  rintro e w1 ⟨rfl, b1⟩
  have B1 := hid b1
  clear b1
  go_wp2_with fail
  refine (srun_any _ xs 200 _ (HR.out.below B1.out) HG.out (Nat.le_refl _)).mono ?_
  rintro e w2 ⟨u, rfl, hown, b2⟩
  have hl2 : (runL xs 200).length = 200 := runL_len xs 200
  obtain ⟨gr, og, capr, e, hcr⟩ := hown.reads.cells 0 (by rw [hl2]; omega)
  rw [hl2] at e hcr
  subst e
  have HCR : Hid (∀ i, i < 200 → w2.cell? ⟨gr, og + i, none⟩ = some (.int .i64 ((runL xs 200).getD i 0))) := fun i hi => hcr i hi
  have B2 : Hid (Below w.heap.size w w2) := B1.out.trans (b2.mono B1.out.size)
  have ck : w2.cell? ⟨gl, ol + k * 2, none⟩ = some (.int .i64 C) := (B2.out.cell (p := ⟨gl, ol + k * 2, none⟩) (lt_of_cell CK0.out)).trans CK0.out
  clear hown b2 hl2 hcr
  go_wp2
  go_loopw [7, 17] (fun nv tv wr => ∃ t : Nat, t ≤ 200 ∧ tv = .int .i64 t ∧ nv = .int .i64 (cntL k (runL xs t)) ∧ (∀ s : Nat, s ≤ t → cntL k (runL xs s) < C) ∧ w2 = wr) (fun _ tv _ => 200 - (intOf tv).toNat)
  case atStart =>
    refine ⟨0, by omega, rfl, rfl, fun s hs => ?_, rfl⟩
    obtain rfl : s = 0 := by omega
    show (0 : Int) < C
    omega
  case round =>
    obtain ⟨t, ht, rfl, rfl, hall, rfl⟩ := hrel
    have HA := hid hall
    have hcb := hall t (Nat.le_refl _)
    have hc0 := cntL_in k (runL xs t)
    clear hall
    by_cases hlt : t < 200
    · obtain ⟨x, hx⟩ : ∃ x, x = (runL xs 200).getD t 0 := ⟨_, rfl⟩
      have cx : w2.cell? ⟨gr, og + t, none⟩ = some (.int .i64 x) := by rw [hx]; exact HCR.out t hlt
      have HN := hid (cnt_next xs k t)
      rw [← hx] at HN
      have HN' : Hid (cntL k (runL xs (t + 1)) = cntL k (runL xs t) + if (x == (k : Int)) = true then 1 else 0) := by
        show _ = _
        rw [HN.out]
        congr 1
        by_cases e : x = (k : Int)
        · simp [e, hlt]
        · simp [e, hlt]
      obtain ⟨c, hc⟩ : ∃ c, c = cntL k (runL xs t) := ⟨_, rfl⟩
      obtain ⟨b, hb⟩ : ∃ b : Bool, b = (x == (k : Int)) := ⟨_, rfl⟩
      obtain ⟨r, hr⟩ : ∃ r : Int, (if b = true then (1 : Int) else 0) = r := ⟨_, rfl⟩
      rw [← hb, hr, ← hc] at HN'
      rw [← hc] at hcb hc0 ⊢
      have hbx : (x == (k : Int)) = b := hb.symm
      have hr01 : 0 ≤ r ∧ r ≤ 1 := by rw [← hr]; split <;> omega
      have hw1 : IntKind.i64.wrap (c + r) = c + r := by rw [IntKind.wrap_i64]; omega
      have HBit := hid hr
      have m0 : (0 : Int) ≤ (t : Int) := by omega
      have m1 : (t : Int) < 200 := by omega
      clear hx hc hb hr HN
      go_wp2_with fail
      refine (l1Bit_eq b r HBit.out _).mono ?_
      rintro e w' ⟨rfl, hw⟩; obtain rfl := hw.symm
      by_cases he : c + r = C
      · have de : (c + r == C) = true := by rw [he]; simp
        have HV := hid (HF.out (t + 1 : Nat) (.inr ⟨t + 1, rfl, by omega, by show cntL k (runL xs (t + 1)) = _; rw [HN'.out, he]; exact HC.out, fun s hs => by have := HA.out s (by omega); rw [HC.out] at this; exact this⟩))
        have HN2 : Hid (lgN xs k = (t : Int) + 1) := by show _ = _; unfold lgN; rw [← HV.out, if_neg (by omega)]; omega
        have HB2 : Hid (lgB xs k = true) := by show _ = _; unfold lgB; rw [← HV.out, decide_eq_true (by omega)]
        clear he
        go_wp2
        go_ret3
        exact ⟨by rw [HN2.out, HB2.out]; go_num, B2.out⟩
      · have de : (c + r == C) = false := by rw [beq_eq_false_iff_ne]; exact he
        go_wp2
        go_roundw
        case rel =>
          refine ⟨t + 1, by omega, by go_num, by rw [HN'.out], fun s hs => ?_, by first | rfl | trivial⟩
          by_cases e : s = t + 1
          · subst e
            rw [HN'.out]
            omega
          · exact HA.out s (by omega)
        case measure => simp [intOf]; omega
    · obtain rfl : t = 200 := by omega
      have HV := hid (HF.out (-1) (.inl ⟨rfl, fun s hs => by have := HA.out s hs; rw [HC.out] at this; exact this⟩))
      have HN2 : Hid (lgN xs k = 0) := by show _ = _; unfold lgN; rw [← HV.out]; rfl
      have HB2 : Hid (lgB xs k = false) := by show _ = _; unfold lgB; rw [← HV.out]; rfl
      go_wp2
      go_ret3
      exact ⟨by rw [HN2.out, HB2.out]; rfl, B2.out⟩
end Go.Proofs.Ytmcmkobdkkibkab
