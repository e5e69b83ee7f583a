/-
  Good turns, told in another order: plain words. No program.
  slices.ContainsFunc with impl.wrongPacket, impl.goodPackets: whether packets are as the document says. Nothing is written.
  impl.goodCredit: whether a credit goes with what waits. Nothing is written.
-/
import Derived.Test.YtepnhbicmlfnhacTurnRun
import Derived.Test.YtepnhbicmlfnhacTurnFns
import Derived.Test.YtepnhbicmlfnhacKIntRows
namespace Go.Proofs.Ytepnhbicmlfnhac

def packB (xs : List Int) : Bool := decide (xs.length ≤ 30) && xs.all fun x => decide (1 ≤ x ∧ x ≤ 20)
def credB (c : Int) (xs : List Int) : Bool := (decide (0 < xs.length) || decide (c = 0)) && decide (0 ≤ c ∧ c ≤ 19)
def sentB (s : Int) : Bool := decide (0 ≤ s ∧ s ≤ 1000000)
def rokT (D : TuD) (k : Nat) : Bool := packB (D.f1.getD k []) && (credB (fl D.f2 k) (D.f1.getD k []) && sentB (fl D.f3 k))
theorem newOk_gt (D : TuD) : newOk D.f0 = (gt1 D && gt2 D) := rfl
theorem goodTu_new {D : TuD} (h : newOk D.f0 = false) : goodTu D = false := by
  cases e : goodTu D with
  | false => rfl
  | true =>
    unfold goodTu at e
    simp only [Bool.and_eq_true] at e
    rw [newOk_gt, e.1, e.2.1] at h
    cases h
theorem goodTu_len {D : TuD} (h : D.f1.length ≠ D.f0.length ∨ D.f2.length ≠ D.f0.length ∨ D.f3.length ≠ D.f0.length) : goodTu D = false := by
  cases e : goodTu D with
  | false => rfl
  | true =>
    have g := goodT_of e
    rcases h with h | h | h
    · exact absurd g.l1 h
    · exact absurd g.l2 h
    · exact absurd g.l3 h
theorem goodTu_row {D : TuD} {k : Nat} (hk : k < D.f1.length) (h : rokT D k = false) : goodTu D = false := by
  cases e : goodTu D with
  | false => rfl
  | true =>
    have g := goodT_of e
    obtain ⟨h1, h2, h3⟩ := g.k k hk
    have hr : rokT D k = true := by
      unfold rokT packB credB sentB
      simp only [Bool.and_eq_true, Bool.or_eq_true, decide_eq_true_eq]
      refine ⟨⟨h1, fl_all h2⟩, ⟨?_, g.c k⟩, g.s k⟩
      by_cases h0 : 0 < (D.f1.getD k []).length
      · exact .inl h0
      · exact .inr (h3 (by omega))
    rw [hr] at h
    cases h
theorem goodTu_at {D : TuD} (hn : newOk D.f0 = true) (l1 : D.f1.length = D.f0.length) (l2 : D.f2.length = D.f0.length) (l3 : D.f3.length = D.f0.length) (h : ∀ k, k < D.f1.length → rokT D k = true) : goodTu D = decide (0 ≤ D.f4 ∧ D.f4 < (D.f0.length : Int)) := by
  by_cases ha : 0 ≤ D.f4 ∧ D.f4 < (D.f0.length : Int)
  · rw [decide_eq_true ha]
    refine goodTu_of ?_
    unfold newOk at hn
    simp only [Bool.and_eq_true, decide_eq_true_eq] at hn
    have hr : ∀ k, k < D.f1.length → ((D.f1.getD k []).length ≤ 30 ∧ ∀ j, j < (D.f1.getD k []).length → 1 ≤ fl (D.f1.getD k []) j ∧ fl (D.f1.getD k []) j ≤ 20) ∧ ((0 < (D.f1.getD k []).length ∨ fl D.f2 k = 0) ∧ 0 ≤ fl D.f2 k ∧ fl D.f2 k ≤ 19) ∧ 0 ≤ fl D.f3 k ∧ fl D.f3 k ≤ 1000000 := by
      intro k hk
      have := h k hk
      unfold rokT packB credB sentB at this
      simp only [Bool.and_eq_true, Bool.or_eq_true, decide_eq_true_eq] at this
      exact ⟨⟨this.1.1, all_fl this.1.2⟩, this.2.1, this.2.2⟩
    refine ⟨by omega, all_fl hn.2, l1, l2, l3, fun i => ?_, fun i => ?_, by omega, fun i hi => ⟨(hr i hi).1.1, (hr i hi).1.2, fun e => ?_⟩⟩
    · by_cases hi : i < D.f1.length
      · exact (hr i hi).2.1.2
      · rw [fl_out (by omega)]; omega
    · by_cases hi : i < D.f1.length
      · exact (hr i hi).2.2
      · rw [fl_out (by omega)]; omega
    · rcases (hr i hi).2.1.1 with h | h
      · omega
      · exact h
  · rw [decide_eq_false ha]
    cases e : goodTu D with
    | false => rfl
    | true =>
      have g := goodT_of e
      have := g.at_
      exact absurd ⟨this.1, by omega⟩ ha
end Go.Proofs.Ytepnhbicmlfnhac
namespace Go.Proofs.Ytepnhbicmlfnhac
open Go.RowKit

/-- slices.IndexFunc with wrongPacket: below 0 just where all are good. -/
theorem pkindex_any (v : Value) (xs : List Int) (w : World) (hr : KReads w v xs) :
    Calls Try.prog 120 #[v, pkV] w fun e w' => ∃ r : Int, e = .returned (.int .i64 r) ∧ decide (0 ≤ r) = !(xs.all pkB) ∧ w' = w := by
  have HR := hid hr
  obtain ⟨a, cap, rfl, hl, _⟩ := hr
  go_enter Try.func120, Try.ntmps120
  go_wp2
  go_loopw [8] (fun i wr => ∃ k : Nat, k ≤ xs.length ∧ i = .int .i64 k ∧ (xs.take k).all pkB = true ∧ w = wr) (fun i _ => xs.length - (intOf i).toNat)
  case atStart => exact ⟨0, Nat.zero_le _, rfl, rfl, rfl⟩
  case round =>
    obtain ⟨k, hk, rfl, hall, rfl⟩ := hrel
    have HL := hid hall
    clear hall
    by_cases hlt : k < xs.length
    · obtain ⟨g, o, cap', e, hc⟩ := HR.out.cells k hlt
      cases e
      obtain ⟨x, hx0⟩ : ∃ x, x = xs.getD k 0 := ⟨_, rfl⟩
      have hck : w.cell? ⟨g, o + k, none⟩ = some (.int .i64 x) := by rw [hx0]; exact hc k hlt
      obtain ⟨b, hb⟩ : ∃ b, pkB (xs.getD k 0) = b := ⟨_, rfl⟩
      have HK := hid hb
      have HKX : Hid (pkB x = b) := by rw [hx0]; exact hb
      have HS : Hid ((xs.take (k + 1)).all pkB = b) := by show _ = _; rw [pk_take xs k hlt, HL.out, hb, Bool.true_and]
      clear hc hb hx0
      go_wp2_with fail
      refine (pkwrong_eq x b HKX.out _).mono ?_
      rintro e w' ⟨rfl, hw⟩; obtain rfl := hw.symm
      cases b
      · have hv : Hid (xs.all pkB = false) := pk_false k hlt HK.out
        go_wp2
        go_ret
        exact ⟨_, rfl, by rw [hv.out]; simp, rfl⟩
      · go_wp2
        go_roundw
        case rel => exact ⟨k + 1, by omega, by go_num, HS.out, by first | rfl | trivial⟩
        case measure => simp [intOf]; omega
    · have hv : Hid (xs.all pkB = true) := by show _ = _; have := HL.out; rw [List.take_of_length_le (by omega)] at this; exact this
      go_wp2
      go_ret
      exact ⟨_, rfl, by rw [hv.out]; rfl, rfl⟩
theorem pkcontains_any (v : Value) (xs : List Int) (t : Bool) (ht : xs.all pkB = t) (w : World) (hr : KReads w v xs) :
    Calls Try.prog 109 #[v, pkV] w fun e w' => e = .returned (.bool (!t)) ∧ w' = w := by
  have HR := hid hr
  have HT := hid ht
  clear hr ht
  go_enter Try.func109, Try.ntmps109
  go_wp2_with fail
  refine (pkindex_any v xs _ HR.out).mono ?_
  rintro e w' ⟨r, rfl, hd, hw⟩; obtain rfl := hw.symm
  rw [HT.out] at hd
  go_wp2
  go_ret
  exact ⟨by rw [← hd]; rfl, rfl⟩
set_option maxHeartbeats 1000000 in
theorem ipackets_eq (v : Value) (xs : List Int) (t : Bool) (h : packB xs = t) (w : World) (hr : KReads w v xs) :
    Calls Try.prog 94 #[v] w fun e w' => e = .returned (.bool t) ∧ w' = w := by
  have HT : Hid ((decide (xs.length ≤ 30) && xs.all pkB) = t) := h
  clear h
  have HR := hid hr
  obtain ⟨a, cap, rfl, _, _⟩ := hr
  by_cases h8 : xs.length ≤ 30
  · obtain ⟨b, hb⟩ : ∃ b, xs.all pkB = b := ⟨_, rfl⟩
    have HA : Hid (t = b) := by show _ = _; rw [← HT.out, hb]; simp [h8]
    have hd : decide ((xs.length : Int) ≤ 30) = true := by simp; omega
    have HB := hid hb
    clear hb
    go_enter Try.func94, Try.ntmps94
    go_wp2_with fail
    refine (pkcontains_any _ xs b HB.out _ HR.out).mono ?_
    rintro e w' ⟨rfl, hw⟩; obtain rfl := hw.symm
    go_wp2
    go_ret
    exact ⟨by rw [HA.out]; simp, rfl⟩
  · have hv : Hid (t = false) := by show _ = _; rw [← HT.out]; simp [h8]
    have hd : decide ((xs.length : Int) ≤ 30) = false := by simp; omega
    go_enter Try.func94, Try.ntmps94
    go_wp2
    go_ret
    exact ⟨by rw [hv.out]; rfl, rfl⟩
end Go.Proofs.Ytepnhbicmlfnhac
namespace Go.Proofs.Ytepnhbicmlfnhac
open Go.RowKit

set_option maxHeartbeats 1000000 in
theorem icredit_eq (c : Int) (v : Value) (xs : List Int) (t : Bool) (h : credB c xs = t) (w : World) (hr : KReads w v xs) :
    Calls Try.prog 95 #[.int .i64 c, v] w fun e w' => e = .returned (.bool t) ∧ w' = w := by
  have HT := hid h
  clear h
  unfold credB at HT
  obtain ⟨a, cap, rfl, _, _⟩ := hr
  by_cases h0 : xs.length = 0
  · obtain rfl := List.length_eq_zero_iff.1 h0
    have HA : Hid (t = decide (c = 0)) := by
      show _ = _
      rw [← HT.out]
      by_cases hc : c = 0
      · subst hc; rfl
      · simp [hc]
    clear HT h0
    by_cases hc : c = 0
    · subst hc
      go_enter Try.func95, Try.ntmps95
      go_wp2
      go_ret
      exact ⟨by rw [HA.out]; rfl, rfl⟩
    · go_enter Try.func95, Try.ntmps95
      go_wp2
      go_ret
      exact ⟨by rw [HA.out]; simp [hc], rfl⟩
  · have hp : 0 < xs.length := by omega
    have HA : Hid (t = decide (0 ≤ c ∧ c ≤ 19)) := by show _ = _; rw [← HT.out, decide_eq_true hp]; rfl
    have hne : ¬ ((xs.length : Int) = 0) := by omega
    clear HT h0 hp
    by_cases h1 : 0 ≤ c
    · have d1 : decide (0 ≤ c) = true := by simpa using h1
      by_cases h2 : c < 20
      · have d2 : decide (c < 20) = true := by simpa using h2
        go_enter Try.func95, Try.ntmps95
        go_wp2
        go_ret
        exact ⟨by rw [HA.out, decide_eq_true (by omega)]; rfl, rfl⟩
      · have d2 : decide (c < 20) = false := by simpa using h2
        go_enter Try.func95, Try.ntmps95
        go_wp2
        go_ret
        exact ⟨by rw [HA.out, decide_eq_false (by omega)]; rfl, rfl⟩
    · have d1 : decide (0 ≤ c) = false := by simpa using h1
      go_enter Try.func95, Try.ntmps95
      go_wp2
      go_ret
      exact ⟨by rw [HA.out, decide_eq_false (by omega)]; rfl, rfl⟩
end Go.Proofs.Ytepnhbicmlfnhac
