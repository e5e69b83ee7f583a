/-
  slices.Min, slices.Max over numbers, impl.SpreadOf. Nothing old is written.
-/
import Derived.Test.YtepnhbicmlfnhadIGoodSh
import Derived.Test.YtepnhbicmlfnhadShBox
import Derived.Deep.QuietTactic
import Derived.BigQuiet
namespace Go.Proofs.Ytepnhbicmlfnhad
open Go.RowKit

theorem kcellsS {w : World} {v : Value} {ss : List Int} (h : KReads w v ss) (h0 : 0 < ss.length) : ∃ g o cap, v = .slice (some ⟨g, o, none⟩) ss.length cap ∧ ss.length ≤ cap ∧ ∀ i, i < ss.length → w.cell? ⟨g, o + i, none⟩ = some (.int .i64 (fl ss i)) := by
  obtain ⟨a, cap, rfl, hl, h⟩ := h
  rcases h with h | ⟨b, off, rfl, hc⟩
  · subst h; simp at h0
  · exact ⟨b, off, cap, rfl, hl.2, fun i hi => hc i hi⟩
def minPS (p q : Int) : Int := if q < p then q else p
def maxPS (p q : Int) : Int := if p < q then q else p

theorem minS_run (p q : Int) : ∀ (ts : Array TypeId) (ty : TypeId) (w : World), (Builtin.min_ ts ty #[.int .i64 p, .int .i64 q]).run Try.prog w = .ok (.int .i64 (minPS p q)) w := fun ts ty w => by simp [Builtin.min_, Builtin.min2, minPS]
set_option maxHeartbeats 1000000 in
theorem sliceMinS (v : Value) (ss : List Int) (w : World) (hr : KReads w v ss) (h0 : 0 < ss.length) (hlen : ss.length ≤ 1000) :
    Calls Try.prog 37 #[v] w fun e w' => ∃ r : Int, e = .returned (.int .i64 r) ∧ (∀ c : Int, c ≤ r ↔ ∀ i, i < ss.length → c ≤ fl ss i) ∧ w' = w := by
  obtain ⟨g, o, cap, rfl, _, hc⟩ := kcellsS hr h0
  have HC := hid hc
  have c0 : w.cell? ⟨g, o, none⟩ = some (.int .i64 (fl ss 0)) := hc 0 h0
  have hd : decide ((ss.length : Int) < 1) = false := by simp; omega
  have n0 : (0 : Int) < (ss.length : Int) := by omega
  clear hc hr
  go_enter Try.func37, Try.ntmps37
  go_wp2
  go_loopw [3, 4] (fun m i wr => ∃ (t : Nat) (r : Int), t ≤ ss.length ∧ i = .int .i64 t ∧ m = .int .i64 r ∧ (∀ c : Int, c ≤ r ↔ ∀ i, i < t → c ≤ fl ss i) ∧ (0 < t ∧ w = wr)) (fun _ i _ => ss.length - (intOf i).toNat)
  case atStart =>
    refine ⟨1, fl ss 0, by omega, rfl, rfl, fun c => ⟨fun h i hi => ?_, fun h => h 0 (by omega)⟩, by omega, rfl⟩
    obtain rfl : i = 0 := by omega
    exact h
  case round =>
    obtain ⟨t, r, ht, rfl, rfl, hm, ht0, rfl⟩ := hrel
    have HM := hid hm
    clear hm
    by_cases hlt : t < ss.length
    · obtain ⟨x, hx⟩ : ∃ x, x = fl ss t := ⟨_, rfl⟩
      have hck := HC.out t hlt
      rw [← hx] at hck
      have hrun := minS_run r x
      have HX := hid hx
      have m0 : (0 : Int) ≤ (t : Int) := by omega
      have m1 : (t : Int) < (ss.length : Int) := by omega
      have HN : Hid (∀ c : Int, c ≤ minPS r x ↔ ∀ i, i < t + 1 → c ≤ fl ss i) := fun c => by
        have h1 := HM.out c
        have h2 : c ≤ minPS r x ↔ (c ≤ r ∧ c ≤ x) := by unfold minPS; split <;> omega
        rw [h2, h1]
        constructor
        · intro h i hi
          by_cases e : i = t
          · rw [e, ← HX.out]; exact h.2
          · exact h.1 i (by omega)
        · intro h
          exact ⟨fun i hi => h i (by omega), by rw [HX.out]; exact h t (by omega)⟩
      generalize minPS r x = r2 at hrun HN
      clear hx c0
      go_wp2
      go_roundw
      case rel => exact ⟨t + 1, r2, by omega, by go_num, rfl, HN.out, by omega, trivial⟩
      case measure => simp [intOf]; omega
    · obtain rfl : t = ss.length := by omega
      go_wp2
      go_ret
      exact ⟨_, rfl, HM.out, rfl⟩

theorem maxS_run (p q : Int) : ∀ (ts : Array TypeId) (ty : TypeId) (w : World), (Builtin.max_ ts ty #[.int .i64 p, .int .i64 q]).run Try.prog w = .ok (.int .i64 (maxPS p q)) w := fun ts ty w => by simp [Builtin.max_, Builtin.max2, maxPS]
set_option maxHeartbeats 1000000 in
theorem sliceMaxS (v : Value) (ss : List Int) (w : World) (hr : KReads w v ss) (h0 : 0 < ss.length) (hlen : ss.length ≤ 1000) :
    Calls Try.prog 36 #[v] w fun e w' => ∃ r : Int, e = .returned (.int .i64 r) ∧ (∀ c : Int, r ≤ c ↔ ∀ i, i < ss.length → fl ss i ≤ c) ∧ w' = w := by
  obtain ⟨g, o, cap, rfl, _, hc⟩ := kcellsS hr h0
  have HC := hid hc
  have c0 : w.cell? ⟨g, o, none⟩ = some (.int .i64 (fl ss 0)) := hc 0 h0
  have hd : decide ((ss.length : Int) < 1) = false := by simp; omega
  have n0 : (0 : Int) < (ss.length : Int) := by omega
  clear hc hr
  go_enter Try.func36, Try.ntmps36
  go_wp2
  go_loopw [3, 4] (fun m i wr => ∃ (t : Nat) (r : Int), t ≤ ss.length ∧ i = .int .i64 t ∧ m = .int .i64 r ∧ (∀ c : Int, r ≤ c ↔ ∀ i, i < t → fl ss i ≤ c) ∧ (0 < t ∧ w = wr)) (fun _ i _ => ss.length - (intOf i).toNat)
  case atStart =>
    refine ⟨1, fl ss 0, by omega, rfl, rfl, fun c => ⟨fun h i hi => ?_, fun h => h 0 (by omega)⟩, by omega, rfl⟩
    obtain rfl : i = 0 := by omega
    exact h
  case round =>
    obtain ⟨t, r, ht, rfl, rfl, hm, ht0, rfl⟩ := hrel
    have HM := hid hm
    clear hm
    by_cases hlt : t < ss.length
    · obtain ⟨x, hx⟩ : ∃ x, x = fl ss t := ⟨_, rfl⟩
      have hck := HC.out t hlt
      rw [← hx] at hck
      have hrun := maxS_run r x
      have HX := hid hx
      have m0 : (0 : Int) ≤ (t : Int) := by omega
      have m1 : (t : Int) < (ss.length : Int) := by omega
      have HN : Hid (∀ c : Int, maxPS r x ≤ c ↔ ∀ i, i < t + 1 → fl ss i ≤ c) := fun c => by
        have h1 := HM.out c
        have h2 : maxPS r x ≤ c ↔ (r ≤ c ∧ x ≤ c) := by unfold maxPS; split <;> omega
        rw [h2, h1]
        constructor
        · intro h i hi
          by_cases e : i = t
          · rw [e, ← HX.out]; exact h.2
          · exact h.1 i (by omega)
        · intro h
          exact ⟨fun i hi => h i (by omega), by rw [HX.out]; exact h t (by omega)⟩
      generalize maxPS r x = r2 at hrun HN
      clear hx c0
      go_wp2
      go_roundw
      case rel => exact ⟨t + 1, r2, by omega, by go_num, rfl, HN.out, by omega, trivial⟩
      case measure => simp [intOf]; omega
    · obtain rfl : t = ss.length := by omega
      go_wp2
      go_ret
      exact ⟨_, rfl, HM.out, rfl⟩

theorem imax_eq (v : Value) (ss : List Int) (w : World) (hr : KReads w v ss) (h0 : 0 < ss.length) (hlen : ss.length ≤ 1000) (r : Int) (h : mxL ss ss.length = r) :
    Calls Try.prog 36 #[v] w fun e w' => e = .returned (.int .i64 r) ∧ w' = w :=
  (sliceMaxS v ss w hr h0 hlen).mono fun e w' ⟨r', he, hc, hw⟩ => ⟨by rw [he, mx_only h0 hc, h], hw⟩
theorem imin_eq (v : Value) (ss : List Int) (w : World) (hr : KReads w v ss) (h0 : 0 < ss.length) (hlen : ss.length ≤ 1000) (r : Int) (h : mnL ss ss.length = r) :
    Calls Try.prog 37 #[v] w fun e w' => e = .returned (.int .i64 r) ∧ w' = w :=
  (sliceMinS v ss w hr h0 hlen).mono fun e w' ⟨r', he, hc, hw⟩ => ⟨by rw [he, mn_only h0 hc, h], hw⟩
def sprRI (D : ShD) : Int := bif goodS D then sprS D else 0
set_option maxRecDepth 100000 in
set_option maxHeartbeats 4000000 in
theorem ispread_any (v : Value) (D : ShD) (w : World) (hr : ShReads w v D) (r : Int) (t : Bool) (hr0 : sprRI D = r) (ht : goodS D = t) :
    Calls Try.prog 10 #[v] w fun e w' => e = .returned (.tuple #[.int .i64 r, .bool t]) ∧ Below w.heap.size w w' := by
  have HR := hid hr
  have HT := hid ht
  have HX := hid hr0
  obtain ⟨v0, rfl, r0⟩ := hr
  have HR0 := hid r0
  obtain ⟨a0, p0, rfl, _, _⟩ := r0
  obtain ⟨z, hz⟩ : ∃ z, z = D.f1 := ⟨_, rfl⟩
  rw [← hz] at HR ⊢
  have PB := hid (boxL_new w [.slice a0 D.f0.length p0, .int .i64 z] 25)
  obtain ⟨q0, q1⟩ := PB.out.two
  have BW : Hid (Below w.heap.size w (w.alloc (.cells #[.slice a0 D.f0.length p0, .int .i64 z] 25))) := (Below.refl _ _).alloc (Nat.le_refl _) _
  clear ht hr0 hz
  go_enter Try.func10, Try.ntmps10
  go_wp2_with fail
  refine (igoodS_eq _ D t HT.out _ (HR.out.below BW.out)).mono ?_
  rintro e w1 ⟨rfl, b1⟩
  replace BW := hid (BW.out.trans (b1.mono BW.out.size))
  replace PB := hid (PB.out.below b1 PB.out.lt)
  clear q0 q1 b1
  obtain ⟨q0, q1⟩ := PB.out.two
  cases t
  · have HV : Hid (r = 0) := by show _ = _; rw [← HX.out]; unfold sprRI; rw [HT.out]; rfl
    go_wp2
    go_ret2
    exact ⟨by rw [HV.out]; rfl, BW.out⟩
  · have HV : Hid (sprS D = r) := by show _ = _; rw [← HX.out]; unfold sprRI; rw [HT.out]; rfl
    have HG := (goodS_iff D).1 HT.out
    have hl1 := HG.l1
    have hl5 := HG.l5
    obtain ⟨mx, hmx⟩ : ∃ m, mxL D.f0 D.f0.length = m := ⟨_, rfl⟩
    obtain ⟨mn, hmn⟩ : ∃ m, mnL D.f0 D.f0.length = m := ⟨_, rfl⟩
    have hw1 : IntKind.i64.wrap (mx - mn) = r := by have h1 := HG.ends; have h2 := HV.out; unfold sprS at h2; rw [hmx, hmn] at h1 h2; rw [IntKind.wrap_i64]; omega
    have HRW := hid (HR0.out.below BW.out)
    have HRN : Hid (∀ n, KReads (w1.drewN n) (.slice a0 D.f0.length p0) D.f0) := fun n => HRW.out
    have HMX : Hid (∀ n, Calls Try.prog 36 #[.slice a0 D.f0.length p0] (w1.drewN n) fun e w' => e = .returned (.int .i64 mx) ∧ w' = w1.drewN n) := fun n => imax_eq _ D.f0 _ (HRN.out n) hl1 (by omega) mx hmx
    have HMN : Hid (∀ n, Calls Try.prog 37 #[.slice a0 D.f0.length p0] (w1.drewN n) fun e w' => e = .returned (.int .i64 mn) ∧ w' = w1.drewN n) := fun n => imin_eq _ D.f0 _ (HRN.out n) hl1 (by omega) mn hmn
    clear HG hmx hmn hl1 hl5 HRW HRN HV HX
    go_wp2_with fail
    go_quiet (first
      | (go_at_call 36; exact Calls.quiet_of_same (HMX.out _))
      | (go_at_call 37; exact Calls.quiet_of_same (HMN.out _)))
    go_wp2
    go_ret2
    exact ⟨rfl, below_dN BW.out _⟩
end Go.Proofs.Ytepnhbicmlfnhad
