/-
  spec.l6All, spec.AllInTime: whether all tasks are in time. Nothing old is written.
-/
import Derived.Test.YtmcmkobdkkibkabSAgain
import Derived.Test.YtmcmkobdkkibkabSLong
namespace Go.Proofs.Ytmcmkobdkkibkab
open Go.RowKit

def okA (xs : List AgEl) (k : Nat) : Bool := decide (0 ≤ longA xs k ∧ longA xs k ≤ everyA xs k)
theorem allA_take (xs : List AgEl) (k : Nat) : (List.range (k + 1)).all (okA xs) = ((List.range k).all (okA xs) && okA xs k) := by simp [List.range_succ, List.all_append]
theorem allA_no {xs : List AgEl} {k : Nat} (hk : k < xs.length) (h : okA xs k = false) : allA xs = false := by
  rw [← Bool.not_eq_true]
  intro hh
  unfold allA at hh
  rw [List.all_eq_true] at hh
  have := hh k (List.mem_range.2 hk)
  change okA xs k = true at this
  rw [h] at this
  cases this
set_option maxRecDepth 100000 in
set_option maxHeartbeats 4000000 in
theorem sall_any (v : Value) (xs : List AgEl) (w : World) (hr : AgReads w v xs) (hg : goodA xs = true) :
    Calls Try.prog 99 #[v] w fun e w' => e = .returned (.bool (allA xs)) ∧ Below w.heap.size w w' := by
  have HR := hid hr
  have HG := hid hg
  have hlen := goodA_len hg
  obtain ⟨a, cap, rfl, _, _⟩ := hr
  clear hg
  go_enter Try.func99, Try.ntmps99
  go_wp2
  go_loopw [8] (fun kv wr => ∃ k : Nat, k ≤ xs.length ∧ kv = .int .i64 k ∧ (List.range k).all (okA xs) = true ∧ Below w.heap.size w wr) (fun kv _ => xs.length - (intOf kv).toNat)
  case atStart => exact ⟨0, Nat.zero_le _, rfl, rfl, Below.refl _ _⟩
  case round =>
    obtain ⟨k, hk, rfl, hall, hbel⟩ := hrel
    have HA := hid hall
    have HB := hid hbel
    clear hall hbel
    by_cases hlt : k < xs.length
    · obtain ⟨gl, ol, cap', e, hc⟩ := (HR.out.below HB.out).cells k hlt
      cases e
      obtain ⟨c0, c1⟩ := hc k hlt
      obtain ⟨p, hp⟩ : ∃ p, p = needA xs k := ⟨_, rfl⟩
      obtain ⟨q, hq⟩ : ∃ q, q = everyA xs k := ⟨_, rfl⟩
      have c0' : wr.cell? ⟨gl, ol + k * 2, none⟩ = some (.int .i64 p) := by rw [hp]; exact c0
      have c1' : wr.cell? ⟨gl, ol + k * 2 + 1, none⟩ = some (.int .i64 q) := by rw [hq]; exact c1
      obtain ⟨r, hr⟩ : ∃ r, r = longA xs k := ⟨_, rfl⟩
      have HK : Hid (okA xs k = decide (0 ≤ r ∧ r ≤ q)) := by show _ = _; unfold okA; rw [hr, hq]
      have HS := hid (allA_take xs k)
      have HV := hid hr
      have HBA : Hid (Below w.heap.size w (wr.alloc (.cells #[.int .i64 p, .int .i64 q] 64))) := HB.out.alloc HB.out.size _
      clear hc c0 c1 hp hq hr
      by_cases h0 : r < 0
      · have d0 : decide (r < 0) = true := by simpa using h0
        have HN := hid (allA_no hlt (by rw [HK.out, decide_eq_false (by omega)]))
        go_wp2_with fail
        refine (slongest_any _ xs k _ (HR.out.below HBA.out) HG.out hlt).mono ?_
        rintro e w2 ⟨rfl, b2⟩
        rw [← HV.out]
        have B2 : Hid (Below w.heap.size w w2) := HBA.out.trans (b2.mono HBA.out.size)
        clear b2
        go_wp2
        go_ret
        exact ⟨by rw [HN.out]; rfl, B2.out⟩
      · have d0 : decide (r < 0) = false := by simpa using h0
        by_cases h1 : q < r
        · have d1 : decide (q < r) = true := by simpa using h1
          have HN := hid (allA_no hlt (by rw [HK.out, decide_eq_false (by omega)]))
          go_wp2_with fail
          refine (slongest_any _ xs k _ (HR.out.below HBA.out) HG.out hlt).mono ?_
          rintro e w2 ⟨rfl, b2⟩
          rw [← HV.out]
          have B2 : Hid (Below w.heap.size w w2) := HBA.out.trans (b2.mono HBA.out.size)
          have cb : w2.cell? ⟨wr.heap.size, 1, none⟩ = some (.int .i64 q) := (b2.cell (p := ⟨wr.heap.size, 1, none⟩) (by show wr.heap.size < _; simp)).trans (cell_of_row _ _ _ _ _ (0, 0) (heap_alloc_new wr _))
          clear b2
          go_wp2
          go_ret
          exact ⟨by rw [HN.out]; rfl, B2.out⟩
        · have d1 : decide (q < r) = false := by simpa using h1
          have HN : Hid ((List.range (k + 1)).all (okA xs) = true) := by show _ = _; rw [HS.out, HA.out, HK.out, decide_eq_true (by omega)]; rfl
          go_wp2_with fail
          refine (slongest_any _ xs k _ (HR.out.below HBA.out) HG.out hlt).mono ?_
          rintro e w2 ⟨rfl, b2⟩
          rw [← HV.out]
          have B2 : Hid (Below w.heap.size w w2) := HBA.out.trans (b2.mono HBA.out.size)
          have cb : w2.cell? ⟨wr.heap.size, 1, none⟩ = some (.int .i64 q) := (b2.cell (p := ⟨wr.heap.size, 1, none⟩) (by show wr.heap.size < _; simp)).trans (cell_of_row _ _ _ _ _ (0, 0) (heap_alloc_new wr _))
          clear b2
          go_wp2
          go_roundw
          case rel => exact ⟨k + 1, by omega, by go_num, HN.out, B2.out⟩
          case measure => simp [intOf]; omega
    · obtain rfl : k = xs.length := by omega
      have HN : Hid (allA xs = true) := HA.out
      go_wp2
      go_ret
      exact ⟨by rw [HN.out]; rfl, HB.out⟩
set_option maxHeartbeats 1000000 in
theorem sallfn_no (v : Value) (xs : List AgEl) (w : World) (hr : AgReads w v xs) (hg : goodA xs = false) :
    Calls Try.prog 48 #[v] w fun e w' => e = .returned (.tuple #[.bool false, .bool false]) ∧ Below w.heap.size w w' := by
  have HR := hid hr
  clear hr
  go_enter Try.func48, Try.ntmps48
  go_wp2_with fail
  refine (sgoodAgain_eq _ xs false hg _ HR.out).mono ?_
  rintro e w1 ⟨rfl, b1⟩
  have B1 := hid b1
  clear b1
  go_wp2
  go_ret2
  exact ⟨rfl, B1.out⟩
set_option maxHeartbeats 1000000 in
theorem sallfn_yes (v : Value) (xs : List AgEl) (w : World) (hr : AgReads w v xs) (hg : goodA xs = true) :
    Calls Try.prog 48 #[v] w fun e w' => e = .returned (.tuple #[.bool (allA xs), .bool true]) ∧ Below w.heap.size w w' := by
  have HR := hid hr
  have HG := hid hg
  obtain ⟨b, hb⟩ : ∃ b, b = allA xs := ⟨_, rfl⟩
  rw [← hb]
  have HV := hid hb
  clear hr hg hb
  go_enter Try.func48, Try.ntmps48
  go_wp2_with fail
  refine (sgoodAgain_eq _ xs true HG.out _ HR.out).mono ?_
  rintro e w1 ⟨rfl, b1⟩
  have B1 := hid b1
  clear b1
  go_wp2_with fail
  refine (sall_any _ xs _ (HR.out.below B1.out) HG.out).mono ?_
  rintro e w2 ⟨rfl, b2⟩
  rw [← HV.out]
  have B2 : Hid (Below w.heap.size w w2) := B1.out.trans (b2.mono B1.out.size)
  clear b2
  go_wp2
  go_ret2
  exact ⟨rfl, B2.out⟩
end Go.Proofs.Ytmcmkobdkkibkab
