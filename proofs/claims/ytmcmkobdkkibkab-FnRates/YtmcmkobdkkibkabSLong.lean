/-
  spec.l6Longest: how long a task takes at most, -1 for too long. Nothing old is written.
-/
import Derived.Test.YtmcmkobdkkibkabKIntRows
import Derived.Test.YtmcmkobdkkibkabAgnLoad
import Derived.Deep.QuietTactic
import Derived.BigQuiet
namespace Go.Proofs.Ytmcmkobdkkibkab
open Go.RowKit

theorem fR_part {xs : List AgEl} (h : goodA xs = true) {k : Nat} (hk : k < xs.length) {r : Int} (h0 : 0 ≤ r) (hr : r ≤ 200) : ∀ j, j ≤ k → 0 ≤ sumI (fun i => needA xs i * cl r (everyA xs i)) j ∧ sumI (fun i => needA xs i * cl r (everyA xs i)) j ≤ 2000 * (j : Int) := fun j hj =>
  ⟨sumI_nonneg j fun i hi => (part_in (goodA_tasks h) (by omega) h0 hr).1, sum_bound j fun i hi => (part_in (goodA_tasks h) (by omega) h0 hr).2⟩
set_option maxRecDepth 100000 in
set_option maxHeartbeats 16000000 in
theorem slongest_any (v : Value) (xs : List AgEl) (k : Nat) (w : World) (hr : AgReads w v xs) (hg : goodA xs = true) (hk : k < xs.length) :
    Calls Try.prog 90 #[v, .int .i64 (k : Nat)] w fun e w' => e = .returned (.int .i64 (longA xs k)) ∧ Below w.heap.size w w' := by
  have HR := hid hr
  have HG := hid hg
  have hlen := goodA_len hg
  have HT := hid (goodA_tasks hg)
  have HLg : Hid (∀ v, IsLong (needA xs) (everyA xs) k v → v = longA xs k) := fun v hv => isLong_eq hv (longC_is (goodA_tasks hg) hk)
  obtain ⟨gl, ol, cap, rfl, hcw⟩ := hr.cells k hk
  have hcap : xs.length ≤ cap := by obtain ⟨_, _, e, h, _⟩ := hr; cases e; exact h.2
  have hnk := (goodA_tasks hg).need k hk
  obtain ⟨C, hC⟩ : ∃ C, C = needA xs k := ⟨_, rfl⟩
  have ck0 : w.cell? ⟨gl, ol + k * 2, none⟩ = some (.int .i64 C) := by rw [hC]; exact (hcw k hk).1
  have HC := hid hC
  rw [← hC] at hnk
  have n0 : (0 : Int) ≤ (k : Int) := by omega
  have n1 : (k : Int) < (xs.length : Int) := by omega
  have n2 : (k : Int) ≤ (cap : Int) := by omega
  have n3 : k ≤ cap := by omega
  clear hr hg hcw hC
  go_enter Try.func90, Try.ntmps90
  go_wp2
  go_loopw [5] (fun rv wr => ∃ r : Int, rv = .int .i64 r ∧ Climb (needA xs) (everyA xs) k r ∧ r ≤ 20000 ∧ Below w.heap.size w wr) (fun rv _ => (201 - intOf rv).toNat)
  case atStart => exact ⟨C, rfl, by rw [HC.out]; exact climb_start HT.out hk, by omega, Below.refl _ _⟩
  case round =>
    obtain ⟨r, rfl, hcl, hr2, hbel⟩ := hrel
    have HCl := hid hcl
    have HB := hid hbel
    have hr0 := hcl.1
    clear hcl hbel
    by_cases hle : r ≤ 200
    · have dr : decide (r ≤ 200) = true := by simpa using hle
      have ck : wr.cell? ⟨gl, ol + k * 2, none⟩ = some (.int .i64 C) := (HB.out.cell (p := ⟨gl, ol + k * 2, none⟩) (lt_of_cell ck0)).trans ck0
      go_wp2
      go_loopw [6, 25] (fun nv jv wr => ∃ j : Nat, j ≤ k ∧ jv = .int .i64 j ∧ nv = .int .i64 (C + sumI (fun i => needA xs i * cl r (everyA xs i)) j) ∧ Below w.heap.size w wr) (fun _ jv _ => k - (intOf jv).toNat)
      case atStart => exact ⟨0, Nat.zero_le _, rfl, by simp [sumI], HB.out⟩
      case round =>
        obtain ⟨j, hj, rfl, rfl, hbel⟩ := hrel
        have HB2 := hid hbel
        clear hbel HB ck
        have hpt := fR_part HG.out hk hr0 hle j hj
        by_cases hjk : j < k
        · have hjn : j < xs.length := by omega
          obtain ⟨gl', ol', cap', e, hc⟩ := (HR.out.below HB2.out).cells j hjn
          cases e
          obtain ⟨p, hp⟩ : ∃ p, p = needA xs j := ⟨_, rfl⟩
          obtain ⟨q, hq⟩ : ∃ q, q = everyA xs j := ⟨_, rfl⟩
          have c0 : wr.cell? ⟨gl, ol + j * 2, none⟩ = some (.int .i64 p) := by rw [hp]; exact (hc j hjn).1
          have c1 : wr.cell? ⟨gl, ol + j * 2 + 1, none⟩ = some (.int .i64 q) := by rw [hq]; exact (hc j hjn).2
          have hnd := HT.out.need j hjn
          have hev := HT.out.every j hjn
          have hpi := part_in HT.out hjn hr0 hle
          have HS : Hid (sumI (fun i => needA xs i * cl r (everyA xs i)) (j + 1) = sumI (fun i => needA xs i * cl r (everyA xs i)) j + needA xs j * cl r (everyA xs j)) := rfl
          obtain ⟨c, hcc⟩ : ∃ c, c = cl r (everyA xs j) := ⟨_, rfl⟩
          rw [← hcc] at hpi HS
          have hcb := cl_nonneg (HT.out.one hjn) hr0
          have hcb2 := cl_le (b := 200) (HT.out.one hjn) hle (by omega)
          rw [← hcc] at hcb hcb2
          rw [← hp] at hnd hev hpi HS
          rw [← hq] at hev hcc
          obtain ⟨pc, hpc⟩ : ∃ pc, pc = p * c := ⟨_, rfl⟩
          rw [← hpc] at hpi HS
          obtain ⟨s, hs⟩ : ∃ s, s = sumI (fun i => needA xs i * cl r (everyA xs i)) j := ⟨_, rfl⟩
          rw [← hs] at hpt HS ⊢
          have hw1 : IntKind.i64.wrap (r + q) = r + q := by rw [IntKind.wrap_i64]; omega
          have hw2 : IntKind.i64.wrap (r + q - 1) = r + q - 1 := by rw [IntKind.wrap_i64]; omega
          have hdv : (r + q - 1).tdiv q = c := by rw [hcc]; exact Int.tdiv_eq_ediv_of_nonneg (by omega)
          have hw3 : IntKind.i64.wrap c = c := by rw [IntKind.wrap_i64]; omega
          have hmul : p * c = pc := hpc.symm
          have hw4 : IntKind.i64.wrap pc = pc := by rw [IntKind.wrap_i64]; omega
          have hw5 : IntKind.i64.wrap (C + s + pc) = C + s + pc := by rw [IntKind.wrap_i64]; omega
          have hq0 : (q == 0) = false := by rw [beq_eq_false_iff_ne]; omega
          have hq1 : q ≠ 0 := by omega
          have m0 : (0 : Int) ≤ (j : Int) := by omega
          have m1 : (j : Int) < (k : Int) := by omega
          clear hc hp hq hcc hpc hs
          go_wp2_with fail
          go_big_region
          go_wp2
          go_roundw
          case rel => exact ⟨j + 1, by omega, by go_num, by rw [HS.out, ← Int.add_assoc], (HB2.out.alloc HB2.out.size _).drew⟩
          case measure => simp [intOf]; omega
        · obtain rfl : j = k := by omega
          have HF : Hid (C + sumI (fun i => needA xs i * cl r (everyA xs i)) j = fR (needA xs) (everyA xs) j r) := by show _ = _; rw [HC.out]; rfl
          rw [HF.out]
          have hf1 : fR (needA xs) (everyA xs) j r ≤ 20000 := by rw [← HF.out]; omega
          have hf2 := HCl.out.2.1
          by_cases he : fR (needA xs) (everyA xs) j r = r
          · have HV := hid (HLg.out r (climb_stays HCl.out hle he))
            have de : (fR (needA xs) (everyA xs) j r == r) = true := by rw [he]; simp
            generalize fR (needA xs) (everyA xs) j r = f at de
            go_wp2
            go_ret
            exact ⟨by rw [← HV.out]; rfl, HB2.out⟩
          · have de : (fR (needA xs) (everyA xs) j r == r) = false := by rw [beq_eq_false_iff_ne]; exact he
            have HN := hid (climb_step HT.out hk HCl.out)
            generalize fR (needA xs) (everyA xs) j r = f at de hf1 hf2 he HN ⊢
            go_wp2
            go_roundw
            case rel => exact ⟨f, rfl, HN.out, hf1, HB2.out⟩
            case measure => simp [intOf]; omega
    · have dr : decide (r ≤ 200) = false := by simpa using hle
      have HV := hid (HLg.out (-1) (climb_out HCl.out (by omega)))
      go_wp2
      go_ret
      exact ⟨by rw [← HV.out]; rfl, HB.out⟩
end Go.Proofs.Ytmcmkobdkkibkab
