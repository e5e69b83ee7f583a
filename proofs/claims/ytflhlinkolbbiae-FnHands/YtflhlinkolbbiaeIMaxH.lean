/-
  slices.Max over sums of hands. Nothing is written.
-/
import Derived.Test.YtflhlinkolbbiaeHandFns
import Derived.Test.YtflhlinkolbbiaeFlowFns
namespace Go.Proofs.Ytflhlinkolbbiae
open Go.RowKit

theorem kcellsH {w : World} {v : Value} {ss : List Int} (h : KReads w v ss) (h0 : 0 < ss.length) : ∃ g o cap, v = .slice (some ⟨g, o, none⟩) ss.length cap ∧ ss.length ≤ cap ∧ ∀ i, i < ss.length → w.cell? ⟨g, o + i, none⟩ = some (.int .i64 (fl ss i)) := by
  obtain ⟨a, cap, rfl, hl, h⟩ := h
  rcases h with h | ⟨b, off, rfl, hc⟩
  · subst h; simp at h0
  · exact ⟨b, off, cap, rfl, hl.2, fun i hi => hc i hi⟩
def maxPH (p q : Int) : Int := if p < q then q else p

theorem maxH_run (p q : Int) : ∀ (ts : Array TypeId) (ty : TypeId) (w : World), (Builtin.max_ ts ty #[.int .i64 p, .int .i64 q]).run Try.prog w = .ok (.int .i64 (maxPH p q)) w := fun ts ty w => by simp [Builtin.max_, Builtin.max2, maxPH]
set_option maxHeartbeats 1000000 in
theorem sliceMaxH (v : Value) (ss : List Int) (w : World) (hr : KReads w v ss) (h0 : 0 < ss.length) (hlen : ss.length ≤ 1000) :
    Calls Try.prog 84 #[v] w fun e w' => ∃ r : Int, e = .returned (.int .i64 r) ∧ (∀ c : Int, r ≤ c ↔ ∀ i, i < ss.length → fl ss i ≤ c) ∧ w' = w := by
  obtain ⟨g, o, cap, rfl, _, hc⟩ := kcellsH hr h0
  have HC := hid hc
  have c0 : w.cell? ⟨g, o, none⟩ = some (.int .i64 (fl ss 0)) := hc 0 h0
  have hd : decide ((ss.length : Int) < 1) = false := by simp; omega
  have n0 : (0 : Int) < (ss.length : Int) := by omega
  clear hc hr
  go_enter Try.func84, Try.ntmps84
  go_wp2
  go_loopw [3, 4] (fun m i wr => ∃ (t : Nat) (r : Int), t ≤ ss.length ∧ i = .int .i64 t ∧ m = .int .i64 r ∧ (∀ c : Int, r ≤ c ↔ ∀ i, i < t → fl ss i ≤ c) ∧ (0 < t ∧ w = wr)) (fun _ i _ => ss.length - (intOf i).toNat)
  case atStart =>
    refine ⟨1, fl ss 0, by omega, rfl, rfl, fun c => ⟨fun h i hi => ?_, fun h => h 0 (by omega)⟩, by omega, rfl⟩
    obtain rfl : i = 0 := by omega
    exact h
  case round =>
    obtain ⟨t, r, ht, rfl, rfl, hm, ht0, rfl⟩ := hrel
    have HM := hid hm
    clear hm
    by_cases hlt : t < ss.length
    · obtain ⟨x, hx⟩ : ∃ x, x = fl ss t := ⟨_, rfl⟩
      have hck := HC.out t hlt
      rw [← hx] at hck
      have hrun := maxH_run r x
      have HX := hid hx
      have m0 : (0 : Int) ≤ (t : Int) := by omega
      have m1 : (t : Int) < (ss.length : Int) := by omega
      have HN : Hid (∀ c : Int, maxPH r x ≤ c ↔ ∀ i, i < t + 1 → fl ss i ≤ c) := fun c => by
        have h1 := HM.out c
        have h2 : maxPH r x ≤ c ↔ (r ≤ c ∧ x ≤ c) := by unfold maxPH; split <;> omega
        rw [h2, h1]
        constructor
        · intro h i hi
          by_cases e : i = t
          · rw [e, ← HX.out]; exact h.2
          · exact h.1 i (by omega)
        · intro h
          exact ⟨fun i hi => h i (by omega), by rw [HX.out]; exact h t (by omega)⟩
      generalize maxPH r x = r2 at hrun HN
      clear hx c0
      go_wp2
      go_roundw
      case rel => exact ⟨t + 1, r2, by omega, by go_num, rfl, HN.out, by omega, trivial⟩
      case measure => simp [intOf]; omega
    · obtain rfl : t = ss.length := by omega
      go_wp2
      go_ret
      exact ⟨_, rfl, HM.out, rfl⟩

theorem imaxH_eq (v : Value) (s : List Nat) (r : Nat) (h : maxN s = r) (w : World) (hr : KReads w v (ofN s)) (h0 : 0 < s.length) (hlen : s.length ≤ 1000) :
    Calls Try.prog 84 #[v] w fun e w' => e = .returned (.int .i64 r) ∧ w' = w := by
  refine (sliceMaxH v (ofN s) w hr (by rw [List.length_map]; exact h0) (by rw [List.length_map]; exact hlen)).mono ?_
  rintro e w' ⟨q, rfl, hq, hw⟩
  refine ⟨?_, hw⟩
  have hl : (ofN s).length = s.length := List.length_map ..
  have : q = (r : Int) := by
    have a1 := (hq r).2 fun i _ => by
      rw [show fl (ofN s) i = (ofN s).getD i 0 from rfl, ofN_at, ← h]
      have := maxN_ge s i
      omega
    obtain ⟨k, hk, e⟩ := maxN_at h0
    have a2 := (hq q).1 (Int.le_refl _) k (by omega)
    rw [show fl (ofN s) k = (ofN s).getD k 0 from rfl, ofN_at, ← e, h] at a2
    omega
  rw [this]
end Go.Proofs.Ytflhlinkolbbiae
