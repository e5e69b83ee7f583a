/-
  spec.l3Is: whether a list of work is a heap. Nothing old is written.
-/
import Derived.Test.YtndbdioignmaeaaSLess
import Derived.Deep.RegionHeld3
namespace Go.Proofs.Ytndbdioignmaeaa
open Go.RowKit

theorem half_wrap (k : Nat) (h0 : 0 < k) (h1 : k ≤ 1048576) : IntKind.i64.wrap ((k : Int) - 1) = ((k - 1 : Nat) : Int) := by rw [IntKind.wrap_i64]; omega
set_option maxHeartbeats 1000000 in
theorem l3Is_eq (v : Value) (xs : List WkEl) (t : Bool) (h : heapB xs = t) (w : World) (hr : WkReads w v xs) (hx : xs.length ≤ 1048576) :
    Calls Try.prog 74 #[v] w fun e w' => e = .returned (.bool t) ∧ Below w.heap.size w w' := by
  have HT := hid h
  clear h
  have HR := hid hr
  obtain ⟨a, cap, rfl, _, _⟩ := hr
  go_enter Try.func74, Try.ntmps74
  go_wp2
  go_loopw [3] (fun i wr => ∃ k : Nat, 0 < k ∧ (k ≤ xs.length ∨ k = 1) ∧ i = .int .i64 k ∧ (∀ j, 0 < j → j < k → j < xs.length → okW xs j = true) ∧ Below w.heap.size w wr) (fun i _ => xs.length - (intOf i).toNat)
  case atStart => exact ⟨1, by omega, .inr rfl, rfl, fun j h1 h2 => by omega, Below.refl _ _⟩
  case round =>
    obtain ⟨k, hk0, hk, rfl, hall, hbel⟩ := hrel
    have HA := hid hall
    have HB := hid hbel
    clear hall hbel
    by_cases hlt : k < xs.length
    · obtain ⟨g, o, cap', e, hc⟩ := (HR.out.below HB.out).cells k hlt
      cases e
      obtain ⟨x, hx0⟩ : ∃ x, x = xs.getD k (0, 0, 0) := ⟨_, rfl⟩
      obtain ⟨y, hy0⟩ : ∃ y, y = xs.getD ((k - 1) / 2) (0, 0, 0) := ⟨_, rfl⟩
      have hck := hc k hlt
      have hcp := hc ((k - 1) / 2) (by omega)
      rw [← hx0] at hck
      rw [← hy0] at hcp
      obtain ⟨c0, c1, c2⟩ := hck
      obtain ⟨m, hm⟩ : ∃ m, m = (k - 1) / 2 := ⟨_, rfl⟩
      rw [← hm] at hcp
      obtain ⟨d0, d1, d2⟩ := hcp
      obtain ⟨k1, hk1⟩ : ∃ k1, k1 = k - 1 := ⟨_, rfl⟩
      have hw : IntKind.i64.wrap ((k : Int) - 1) = (k1 : Int) := by rw [IntKind.wrap_i64]; omega
      have hq1 : ((k1 : Int).tdiv 2) = (m : Int) := by rw [hm, hk1]; rfl
      have hq2 : (k1 : Int) / 2 = (m : Int) := by omega
      have hq3 : IntKind.i64.wrap (m : Int) = (m : Int) := by rw [IntKind.wrap_i64]; omega
      have hmk : m < k := by omega
      have hga : g < wr.heap.size := lt_of_cell c0
      have n0 : (0 : Int) ≤ (k : Int) := by omega
      have n1 : (k : Int) < (xs.length : Int) := by omega
      have n2 : (0 : Int) ≤ (m : Int) := by omega
      have n3 : (m : Int) < (xs.length : Int) := by omega
      obtain ⟨b, hb⟩ : ∃ b, lessB x y = b := ⟨_, rfl⟩
      have HO : Hid (okW xs k = !b) := by show _ = _; unfold okW; rw [← hx0, ← hy0, hb]
      have HL := hid hb
      clear hc hb hx0 hy0 hm hk1
      go_wp2_with fail
      go_region_held3 (fun w' => (w'.cell? ⟨g, o + k * 3, none⟩ = some (.int .i64 x.1) ∧ w'.cell? ⟨g, o + k * 3 + 1, none⟩ = some (.int .i64 x.2.1) ∧ w'.cell? ⟨g, o + k * 3 + 2, none⟩ = some (.int .i64 x.2.2)) ∧ w'.cell? ⟨g, o + m * 3, none⟩ = some (.int .i64 y.1) ∧ w'.cell? ⟨g, o + m * 3 + 1, none⟩ = some (.int .i64 y.2.1) ∧ w'.cell? ⟨g, o + m * 3 + 2, none⟩ = some (.int .i64 y.2.2)) (go_keep)
        (first | (go_at_call 92; refine (l3Less_eq x y b HL.out _).mono ?_; rintro e w2 ⟨rfl, b2⟩; obtain ⟨e0, e1, e2⟩ := WkCells.below (show WkCells wr.drew g (o + k * 3) x from ⟨c0, c1, c2⟩) b2 hga; obtain ⟨e3, e4, e5⟩ := WkCells.below (show WkCells wr.drew g (o + m * 3) y from ⟨d0, d1, d2⟩) b2 hga))
      cases b
      · go_wp2
        go_roundw
        case rel =>
          refine ⟨k + 1, by omega, .inl (by omega), by go_num, fun j h1 h2 h3 => ?_, HB.out.drew.trans (b2.mono HB.out.size)⟩
          by_cases e : j = k
          · subst e; rw [HO.out]; rfl
          · exact HA.out j h1 (by omega) h3
        case measure => simp [intOf]; omega
      · have hv : Hid (t = false) := by rw [← HT.out]; exact heapB_no hk0 hlt (by rw [HO.out]; rfl)
        go_wp2
        go_ret
        exact ⟨by rw [hv.out]; rfl, HB.out.drew.trans (b2.mono HB.out.size)⟩
    · have hv : Hid (t = true) := by rw [← HT.out]; exact (heapB_iff xs).2 fun j h1 h2 => HA.out j h1 (by omega) h2
      go_wp2
      go_ret
      exact ⟨by rw [hv.out]; rfl, HB.out⟩
end Go.Proofs.Ytndbdioignmaeaa
