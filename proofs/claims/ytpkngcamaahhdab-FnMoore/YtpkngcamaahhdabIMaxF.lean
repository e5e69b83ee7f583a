/-
  slices.MaxFunc over numbers by a key: the first one with the greatest. Nothing is written.
-/
import Derived.Test.YtpkngcamaahhdabICmp
import Derived.Test.YtpkngcamaahhdabIRows
namespace Go.Proofs.Ytpkngcamaahhdab
open Go.RowKit

theorem ofN_getD' (a : List Nat) (i : Nat) : (ofN a).getD i 0 = ((a.getD i 0 : Nat) : Int) := by
  by_cases h : i < a.length
  · simp [ofN, List.getD_eq_getElem?_getD, h]
  · simp [ofN, List.getD_eq_getElem?_getD, h]
theorem worstU_one (p : Nat → Int) (u : List Nat) : worstU p u 1 = 0 := by simp [worstU]
theorem worstU_next (p : Nat → Int) (u : List Nat) (n : Nat) : worstU p u (n + 1) = if p (u.getD (worstU p u n) 0) < p (u.getD n 0) then n else worstU p u n := rfl
set_option maxHeartbeats 4000000 in
theorem imaxf_any (g n cap bk G N : Nat) (f : Nat → Int) (us : List Nat) (w : World) (h0 : 0 < n) (hn : n ≤ 1000) (ho : IRow w g n cap (ofN us)) (hk : KeyIn G w bk N f) (hin : ∀ i, i < n → us.getD i 0 < N) :
    Calls Try.prog 82 #[.slice (some ⟨g, 0, none⟩) n cap, cmpV bk] w fun e w' => e = .returned (.int .i64 (us.getD (worst f us) 0 : Nat)) ∧ ∃ q, w' = w.drewN q := by
  have HO := hid ho
  have HK := hid hk
  have HI := hid hin
  have hul : us.length = n := by have := ho.len; rw [ofN, List.length_map] at this; exact this
  have HL : Hid (worst f us = worstU f us n) := by show _ = _; unfold worst; rw [hul]
  have c00 : w.cell? ⟨g, 0, none⟩ = some (.int .i64 (us.getD 0 0 : Nat)) := by have := ho.cell h0; rw [ofN_getD'] at this; exact this
  have d0 : decide ((n : Int) < 1) = false := by rw [decide_eq_false_iff_not]; omega
  have n0 : (0 : Int) < (n : Int) := by omega
  clear ho hk hin hul
  go_enter Try.func82, Try.ntmps82
  go_wp2
  go_loopw [5, 6] (fun m i wr => ∃ (t q : Nat), 1 ≤ t ∧ t ≤ n ∧ i = .int .i64 t ∧ m = .int .i64 (us.getD (worstU f us t) 0 : Nat) ∧ wr = w.drewN q) (fun _ i _ => n - (intOf i).toNat)
  case atStart => exact ⟨1, 0, by omega, by omega, rfl, by rw [worstU_one, List.getD_eq_getElem?_getD], rfl⟩
  case round =>
    obtain ⟨t, q, ht1, ht, rfl, rfl, hwr⟩ := hrel
    have HW := hid (worstU_next f us t)
    have hwl := worstU_in f us t (by omega)
    by_cases hlt : t < n
    · obtain ⟨x, hx⟩ : ∃ x, x = us.getD t 0 := ⟨_, rfl⟩
      obtain ⟨m, hm⟩ : ∃ m, m = us.getD (worstU f us t) 0 := ⟨_, rfl⟩
      have ct : wr.cell? ⟨g, t, none⟩ = some (.int .i64 (x : Nat)) := by
        have := HO.out.cell hlt
        rw [ofN_getD', ← hx] at this
        rw [hwr]
        exact this
      rw [← hx, ← hm] at HW
      rw [← hm]
      have hxN : x < N := by rw [hx]; exact HI.out t hlt
      have hmN : m < N := by rw [hm]; exact HI.out _ (by omega)
      have HC : Hid (Calls Try.prog 96 #[.int .i64 (x : Nat), .int .i64 (m : Nat), .pointer (some ⟨bk, 0, none⟩)] wr fun e w' => e = .returned (.int .i64 (cmpI5 (f x) (f m))) ∧ ∃ q', w' = wr.drewN q') := by
        rw [hwr]
        exact HK.out _ ((But.refl _ _).drewN q) x m hxN hmN
      have hcmp := cmpI5_gt (f x) (f m)
      generalize cmpI5 (f x) (f m) = cv at HC hcmp
      have HWR := hid hwr
      have n1 : (0 : Int) ≤ (t : Int) := by omega
      have n2 : (t : Int) < (n : Int) := by omega
      have HX := hid hx
      have HM := hid hm
      clear hx hm hwr hwl
      by_cases hcc : f m < f x
      · have d3 : decide (0 < cv) = true := by rw [hcmp]; simpa using hcc
        have HW' : Hid (worstU f us (t + 1) = t) := by show _ = _; rw [HW.out, if_pos hcc]
        clear hcmp HW
        go_wp2_with fail
        refine HC.out.mono ?_
        rintro e w2 ⟨rfl, q', hw2⟩
        have ct2 : w2.cell? ⟨g, t, none⟩ = some (.int .i64 (x : Nat)) := by rw [hw2]; exact ct
        have HW2 : Hid (w2 = w.drewN (q + q')) := by show _ = _; rw [hw2, HWR.out, World.drewN_drewN]
        clear hw2 ct
        go_wp2
        go_roundw
        case rel => exact ⟨t + 1, q + q', by omega, by omega, by go_num, by rw [HW'.out, ← HX.out], HW2.out⟩
        case measure => simp [intOf]; omega
      · have d3 : decide (0 < cv) = false := by rw [hcmp]; simpa using hcc
        have HW' : Hid (worstU f us (t + 1) = worstU f us t) := by show _ = _; rw [HW.out, if_neg hcc]
        clear hcmp HW
        go_wp2_with fail
        refine HC.out.mono ?_
        rintro e w2 ⟨rfl, q', hw2⟩
        have HW2 : Hid (w2 = w.drewN (q + q')) := by show _ = _; rw [hw2, HWR.out, World.drewN_drewN]
        clear hw2 ct
        go_wp2
        go_roundw
        case rel => exact ⟨t + 1, q + q', by omega, by omega, by go_num, by rw [HW'.out, ← HM.out], HW2.out⟩
        case measure => simp [intOf]; omega
    · obtain rfl : t = n := by omega
      have HWR := hid hwr
      clear hwr
      go_wp2
      go_ret
      exact ⟨by rw [HL.out]; rfl, q, HWR.out⟩
end Go.Proofs.Ytpkngcamaahhdab
