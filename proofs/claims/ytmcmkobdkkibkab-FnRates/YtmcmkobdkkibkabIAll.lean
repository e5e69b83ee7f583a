/-
  impl.AllInTime: whether all tasks are in time. Nothing old is written.
-/
import Derived.Test.YtmcmkobdkkibkabIAgain
import Derived.Test.YtmcmkobdkkibkabILong
namespace Go.Proofs.Ytmcmkobdkkibkab
open Go.RowKit

def okI (xs : List AgEl) (k : Nat) : Bool := decide (0 ≤ longA xs k ∧ longA xs k ≤ everyA xs k)
theorem allI_take (xs : List AgEl) (k : Nat) : (List.range (k + 1)).all (okI xs) = ((List.range k).all (okI xs) && okI xs k) := by simp [List.range_succ, List.all_append]
theorem allI_no {xs : List AgEl} {k : Nat} (hk : k < xs.length) (h : okI xs k = false) : allA xs = false := by
  rw [← Bool.not_eq_true]
  intro hh
  unfold allA at hh
  rw [List.all_eq_true] at hh
  have := hh k (List.mem_range.2 hk)
  change okI xs k = true at this
  rw [h] at this
  cases this
theorem okI_of (xs : List AgEl) (k : Nat) : okI xs k = (lgB xs k && decide (lgN xs k ≤ everyA xs k)) := by
  unfold okI lgB lgN
  by_cases h : 0 ≤ longA xs k
  · rw [if_neg (by omega)]; simp [h]
  · rw [decide_eq_false (p := 0 ≤ longA xs k) h, decide_eq_false (by omega)]; rfl
set_option maxHeartbeats 1000000 in
theorem iall_no (v : Value) (xs : List AgEl) (w : World) (hr : AgReads w v xs) (hg : goodA xs = false) :
    Calls Try.prog 47 #[v] w fun e w' => e = .returned (.tuple #[.bool false, .bool false]) ∧ Below w.heap.size w w' := by
  have HR := hid hr
  clear hr
  go_enter Try.func47, Try.ntmps47
  go_wp2_with fail
  refine (igoodAgain_eq _ xs false hg _ HR.out).mono ?_
  rintro e w1 ⟨rfl, b1⟩
  have B1 := hid b1
  clear b1
  go_wp2
  go_ret2
  exact ⟨rfl, B1.out⟩
set_option maxRecDepth 100000 in
set_option maxHeartbeats 4000000 in
theorem iall_yes (v : Value) (xs : List AgEl) (w : World) (hr : AgReads w v xs) (hg : goodA xs = true) :
    Calls Try.prog 47 #[v] w fun e w' => e = .returned (.tuple #[.bool (allA xs), .bool true]) ∧ Below w.heap.size w w' := by
  have HR := hid hr
  have HG := hid hg
  obtain ⟨a, cap, rfl, _, _⟩ := hr
  obtain ⟨b, hb⟩ : ∃ b, b = allA xs := ⟨_, rfl⟩
  rw [← hb]
  have HV := hid hb
  clear hg hb
  go_enter Try.func47, Try.ntmps47
  go_wp2_with fail
  refine (igoodAgain_eq _ xs true HG.out _ HR.out).mono ?_
  rintro e w1 ⟨rfl, b1⟩
  have B1 := hid b1
  clear b1
  go_wp2
  go_loopw [13] (fun i wr => ∃ k : Nat, k ≤ xs.length ∧ i = .int .i64 k ∧ (List.range k).all (okI xs) = true ∧ Below w.heap.size w wr) (fun i _ => xs.length - (intOf i).toNat)
  case atStart => exact ⟨0, Nat.zero_le _, rfl, rfl, B1.out⟩
  case round =>
    obtain ⟨k, hk, rfl, hall, hbel⟩ := hrel
    have HA := hid hall
    have HB := hid hbel
    clear hall hbel
    by_cases hlt : k < xs.length
    · obtain ⟨gl, ol, cap', e, hc⟩ := (HR.out.below HB.out).cells k hlt
      cases e
      obtain ⟨p, hp⟩ : ∃ p, p = needA xs k := ⟨_, rfl⟩
      obtain ⟨q, hq⟩ : ∃ q, q = everyA xs k := ⟨_, rfl⟩
      have c0 : wr.cell? ⟨gl, ol + k * 2, none⟩ = some (.int .i64 p) := by rw [hp]; exact (hc k hlt).1
      have c1 : wr.cell? ⟨gl, ol + k * 2 + 1, none⟩ = some (.int .i64 q) := by rw [hq]; exact (hc k hlt).2
      have HO := hid (okI_of xs k)
      rw [← hq] at HO
      have HBA : Hid (∀ ob, Below w.heap.size w (wr.alloc ob)) := fun ob => HB.out.alloc HB.out.size _
      have hwz : w.heap.size ≤ wr.heap.size := HB.out.size
      obtain ⟨x, hx⟩ : ∃ x, x = lgN xs k := ⟨_, rfl⟩
      obtain ⟨d, hd⟩ : ∃ d, d = lgB xs k := ⟨_, rfl⟩
      rw [← hx, ← hd] at HO
      have HX := hid hx
      have HD := hid hd
      clear hc hp hq hx hd
      go_wp2_with fail
      refine (ilongest_any _ xs k _ (HR.out.below (HBA.out _)) HG.out hlt).mono ?_
      rintro e w2 ⟨rfl, b2⟩
      rw [← HX.out, ← HD.out]
      have HB2 : Hid (Below w.heap.size w w2) := (HBA.out _).trans (b2.mono (by simp; omega))
      have e1 := (b2.cell (p := ⟨wr.heap.size, 1, none⟩) (by simp)).trans (cell_of_row _ _ _ _ _ (0, 0) (heap_alloc_new wr _))
      have E1 : w2.cell? ⟨wr.heap.size, 1, none⟩ = some (.int .i64 q) := e1
      clear b2 e1
      cases d
      · have hv : Hid (b = false) := by show _ = _; rw [HV.out]; exact allI_no hlt (by rw [HO.out]; rfl)
        go_wp2
        go_ret2
        exact ⟨by rw [hv.out]; rfl, HB2.out⟩
      · by_cases hq : q < x
        · have dq : decide (q < x) = true := by simpa using hq
          have hv : Hid (b = false) := by show _ = _; rw [HV.out]; exact allI_no hlt (by rw [HO.out, decide_eq_false (by omega)]; rfl)
          go_wp2
          go_ret2
          exact ⟨by rw [hv.out]; rfl, HB2.out⟩
        · have dq : decide (q < x) = false := by simpa using hq
          have HN : Hid ((List.range (k + 1)).all (okI xs) = true) := by show _ = _; rw [allI_take, HA.out, HO.out, decide_eq_true (by omega)]; rfl
          go_wp2
          go_roundw
          case rel => exact ⟨k + 1, by omega, by go_num, HN.out, HB2.out⟩
          case measure => simp [intOf]; omega
    · obtain rfl : k = xs.length := by omega
      have hv : Hid (b = true) := by show _ = _; rw [HV.out]; exact HA.out
      go_wp2
      go_ret2
      exact ⟨by rw [hv.out]; rfl, HB.out⟩
end Go.Proofs.Ytmcmkobdkkibkab
