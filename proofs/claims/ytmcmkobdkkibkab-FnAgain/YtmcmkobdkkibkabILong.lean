/-
  impl.comingsWithin, impl.longestOf: how long a task takes at most, and whether it stays. Nothing old is written.
-/
import Derived.Test.YtmcmkobdkkibkabAgnLoad
import Derived.Test.YtmcmkobdkkibkabLongFns
import Derived.Deep.QuietTactic
import Derived.BigQuiet
import Derived.OwnWalk
import Derived.WalkMore
import Derived.Deep.RegionHeld3
namespace Go.Proofs.Ytmcmkobdkkibkab
open Go.RowKit

set_option maxHeartbeats 2000000 in
theorem icoming_any (p q r c : Int) (w : World) (h : cl r q = c) (hr : 0 ≤ r ∧ r ≤ 200) (hq : 1 ≤ q ∧ q ≤ 40) :
    Calls Try.prog 125 #[.agg #[.int .i64 p, .int .i64 q], .int .i64 r] w fun e w' => e = .returned (.int .i64 c) ∧ Below w.heap.size w w' := by
  have hc0 := cl_nonneg (t := q) hq.1 hr.1
  have hc1 := cl_le (b := 200) (t := q) hq.1 hr.2 (by omega)
  rw [h] at hc0 hc1
  have hw1 : IntKind.i64.wrap (r + q) = r + q := by rw [IntKind.wrap_i64]; omega
  have hw2 : IntKind.i64.wrap (r + q - 1) = r + q - 1 := by rw [IntKind.wrap_i64]; omega
  have hdv : (r + q - 1).tdiv q = c := by rw [← h]; exact Int.tdiv_eq_ediv_of_nonneg (by omega)
  have hw3 : IntKind.i64.wrap c = c := by rw [IntKind.wrap_i64]; omega
  have hq0 : (q == 0) = false := by rw [beq_eq_false_iff_ne]; omega
  have hq1 : q ≠ 0 := by omega
  clear h
  go_enter Try.func125, Try.ntmps125
  go_wp2
  go_ret
  exact ⟨rfl, by go_grown⟩
theorem sumI_up {g : Nat → Int} {j k : Nat} (h : j ≤ k) (hg : ∀ i, i < k → 0 ≤ g i) : sumI g j ≤ sumI g k := by
  induction k with
  | zero => obtain rfl : j = 0 := by omega
            exact Int.le_refl _
  | succ k ih =>
    by_cases e : j = k + 1
    · rw [e]; exact Int.le_refl _
    · have h1 := ih (by omega) fun i hi => hg i (by omega)
      have h2 := hg k (by omega)
      simp only [sumI]
      omega
set_option maxRecDepth 100000 in
set_option maxHeartbeats 16000000 in
theorem ilongest_any (v : Value) (xs : List AgEl) (k : Nat) (w : World) (hr : AgReads w v xs) (hg : goodA xs = true) (hk : k < xs.length) :
    Calls Try.prog 88 #[v, .int .i64 (k : Nat)] w fun e w' => e = .returned (.tuple #[.int .i64 (lgN xs k), .bool (lgB xs k)]) ∧ Below w.heap.size w w' := by
  have HR := hid hr
  have hlen := goodA_len hg
  have HT := hid (goodA_tasks hg)
  have HLg : Hid (∀ v, IsLong (needA xs) (everyA xs) k v → v = longA xs k) := fun v hv => isLong_eq hv (longC_is (goodA_tasks hg) hk)
  have HPN : Hid (∀ r : Int, 0 ≤ r → r ≤ 200 → ∀ j, j ≤ k → 0 ≤ sumI (fun i => needA xs i * cl r (everyA xs i)) j ∧ sumI (fun i => needA xs i * cl r (everyA xs i)) j ≤ sumI (fun i => needA xs i * cl r (everyA xs i)) k) := fun r h0 h2 j hj =>
    ⟨sumI_nonneg j fun i hi => (part_in (goodA_tasks hg) (by omega) h0 h2).1, sumI_up hj fun i hi => (part_in (goodA_tasks hg) (by omega) h0 h2).1⟩
  obtain ⟨gl, ol, cap, rfl, hcw⟩ := hr.cells k hk
  have hcap : xs.length ≤ cap := by obtain ⟨_, _, e, h, _⟩ := hr; cases e; exact h.2
  have hnk := (goodA_tasks hg).need k hk
  obtain ⟨C, hC⟩ : ∃ C, C = needA xs k := ⟨_, rfl⟩
  have ck0 : w.cell? ⟨gl, ol + k * 2, none⟩ = some (.int .i64 C) := by rw [hC]; exact (hcw k hk).1
  have HC := hid hC
  rw [← hC] at hnk
  have n0 : (0 : Int) ≤ (k : Int) := by omega
  have n1 : (k : Int) < (xs.length : Int) := by omega
  have n2 : (k : Int) ≤ (cap : Int) := by omega
  have n3 : k ≤ cap := by omega
  clear hr hg hcw hC
  go_enter Try.func88, Try.ntmps88
  go_wp2
  go_step3
  go_wp2
  go_step3
  go_wp2
  go_loopw [6] (fun rv wr => ∃ r : Int, rv = .int .i64 r ∧ Climb (needA xs) (everyA xs) k r ∧ r ≤ 200 ∧ Below w.heap.size w wr) (fun rv _ => (201 - intOf rv).toNat)
  case atStart => exact ⟨C, rfl, by rw [HC.out]; exact climb_start HT.out hk, by omega, Below.refl _ _⟩
  case round =>
    obtain ⟨r, rfl, hcl, hle, hbel⟩ := hrel
    have HCl := hid hcl
    have HB := hid hbel
    have hr0 := hcl.1
    clear hcl hbel
    have ck : wr.cell? ⟨gl, ol + k * 2, none⟩ = some (.int .i64 C) := (HB.out.cell (p := ⟨gl, ol + k * 2, none⟩) (lt_of_cell ck0)).trans ck0
    go_wp2
    go_loopw [7, 24] (fun nv jv wr => ∃ j : Nat, j ≤ k ∧ jv = .int .i64 j ∧ nv = .int .i64 (C + sumI (fun i => needA xs i * cl r (everyA xs i)) j) ∧ C + sumI (fun i => needA xs i * cl r (everyA xs i)) j ≤ 200 ∧ Below w.heap.size w wr) (fun _ jv _ => k - (intOf jv).toNat)
    case atStart => exact ⟨0, Nat.zero_le _, rfl, by simp [sumI], by simp [sumI]; omega, HB.out⟩
    case round =>
      obtain ⟨j, hj, rfl, rfl, hsle, hbel⟩ := hrel
      have HB2 := hid hbel
      clear hbel HB ck
      have hpt := (HPN.out r hr0 hle j hj).1
      by_cases hjk : j < k
      · have hjn : j < xs.length := by omega
        obtain ⟨gl', ol', cap', e, hc⟩ := (HR.out.below HB2.out).cells j hjn
        cases e
        obtain ⟨p, hp⟩ : ∃ p, p = needA xs j := ⟨_, rfl⟩
        obtain ⟨q, hq⟩ : ∃ q, q = everyA xs j := ⟨_, rfl⟩
        have c0 : wr.cell? ⟨gl, ol + j * 2, none⟩ = some (.int .i64 p) := by rw [hp]; exact (hc j hjn).1
        have c1 : wr.cell? ⟨gl, ol + j * 2 + 1, none⟩ = some (.int .i64 q) := by rw [hq]; exact (hc j hjn).2
        have hnd := HT.out.need j hjn
        have hev := HT.out.every j hjn
        have hpi := part_in HT.out hjn hr0 hle
        have hup := (HPN.out r hr0 hle (j + 1) (by omega)).2
        have HS : Hid (sumI (fun i => needA xs i * cl r (everyA xs i)) (j + 1) = sumI (fun i => needA xs i * cl r (everyA xs i)) j + needA xs j * cl r (everyA xs j)) := rfl
        rw [HS.out] at hup
        obtain ⟨c, hcc⟩ : ∃ c, c = cl r (everyA xs j) := ⟨_, rfl⟩
        rw [← hcc] at hpi HS hup
        rw [← hp] at hnd hev hpi HS hup
        rw [← hq] at hev hcc
        obtain ⟨pc, hpc⟩ : ∃ pc, pc = p * c := ⟨_, rfl⟩
        rw [← hpc] at hpi HS hup
        obtain ⟨s, hs⟩ : ∃ s, s = sumI (fun i => needA xs i * cl r (everyA xs i)) j := ⟨_, rfl⟩
        rw [← hs] at hpt HS hsle hup ⊢
        have HF : Hid (C + s + pc ≤ fR (needA xs) (everyA xs) k r) := by
          show _ ≤ _
          unfold fR
          rw [← HC.out]
          omega
        have HCC : Hid (cl r q = c) := hcc.symm
        have hq2 : 1 ≤ q ∧ q ≤ 40 := by omega
        have hr2 : 0 ≤ r ∧ r ≤ 200 := ⟨hr0, hle⟩
        have hmul : p * c = pc := hpc.symm
        have hw4 : IntKind.i64.wrap pc = pc := by rw [IntKind.wrap_i64]; omega
        have hw5 : IntKind.i64.wrap (C + s + pc) = C + s + pc := by rw [IntKind.wrap_i64]; omega
        have m0 : (0 : Int) ≤ (j : Int) := by omega
        have m1 : (j : Int) < (k : Int) := by omega
        have HBA : Hid (∀ ob, Below w.heap.size w (wr.alloc ob)) := fun ob => HB2.out.alloc HB2.out.size _
        have hwz : w.heap.size ≤ wr.heap.size := HB2.out.size
        clear hc hp hq hcc hpc hs hup
        go_wp2_with fail
        go_region_held3 (fun w' => w'.cell? ⟨wr.heap.size, 0, none⟩ = some (.int .i64 p) ∧ w'.cell? ⟨wr.heap.size, 1, none⟩ = some (.int .i64 q)) (go_keep)
          (first | (go_at_call 125; refine (icoming_any p q r c _ HCC.out hr2 hq2).mono ?_; rintro e w2 ⟨rfl, b2⟩; have e0 := (b2.cell (p := ⟨wr.heap.size, 0, none⟩) (by simp)).trans (cell_of_row _ _ _ _ _ (0, 0) (heap_alloc_new wr _)); have e1 := (b2.cell (p := ⟨wr.heap.size, 1, none⟩) (by simp)).trans (cell_of_row _ _ _ _ _ (0, 0) (heap_alloc_new wr _))))
        have HB3 : Hid (Below w.heap.size w w2) := (HBA.out _).drew.trans (b2.mono (by simp; omega))
        clear b2
        by_cases h200 : 200 < C + s + pc
        · have d2 : decide (200 < C + s + pc) = true := by simpa using h200
          have HV := hid (HLg.out (-1) (climb_out (climb_step HT.out hk HCl.out) (by have := HF.out; omega)))
          have HN2 : Hid (lgN xs k = 0) := by show _ = _; unfold lgN; rw [← HV.out]; rfl
          have HB4 : Hid (lgB xs k = false) := by show _ = _; unfold lgB; rw [← HV.out]; rfl
          go_wp2
          (try rw [Exit.noGoto_ret])
          go_ret2
          exact ⟨by rw [HN2.out, HB4.out]; rfl, HB3.out⟩
        · have d2 : decide (200 < C + s + pc) = false := by simpa using h200
          go_wp2
          go_roundw
          case rel => exact ⟨j + 1, by omega, by go_num, by rw [HS.out, ← Int.add_assoc], by rw [HS.out, ← Int.add_assoc]; omega, HB3.out⟩
          case measure => simp [intOf]; omega
      · obtain rfl : j = k := by omega
        have HF : Hid (C + sumI (fun i => needA xs i * cl r (everyA xs i)) j = fR (needA xs) (everyA xs) j r) := by show _ = _; rw [HC.out]; rfl
        rw [HF.out] at hsle ⊢
        have hf2 := HCl.out.2.1
        by_cases he : fR (needA xs) (everyA xs) j r = r
        · have HV := hid (HLg.out r (climb_stays HCl.out hle he))
          have de : (fR (needA xs) (everyA xs) j r == r) = true := by rw [he]; simp
          have HN2 : Hid (lgN xs j = r) := by show _ = _; unfold lgN; rw [← HV.out, if_neg (by omega)]
          have HB4 : Hid (lgB xs j = true) := by show _ = _; unfold lgB; rw [← HV.out, decide_eq_true (by omega)]
          generalize fR (needA xs) (everyA xs) j r = f at de
          go_wp2
          (try rw [Exit.noGoto_ret])
          go_ret2
          exact ⟨by rw [HN2.out, HB4.out]; rfl, HB2.out⟩
        · have de : (fR (needA xs) (everyA xs) j r == r) = false := by rw [beq_eq_false_iff_ne]; exact he
          have HN := hid (climb_step HT.out hk HCl.out)
          generalize fR (needA xs) (everyA xs) j r = f at de hsle hf2 he HN ⊢
          go_wp2
          go_roundw
          case rel => exact ⟨f, rfl, HN.out, hsle, HB2.out⟩
          case measure => simp [intOf]; omega
end Go.Proofs.Ytmcmkobdkkibkab
