/-
  impl's methods less and swap of a list of work, goodWork, goodWorks. Nothing old is written.
-/
import Derived.Test.YtndbdioignmaeaaIGoodWk
import Derived.Test.YtndbdioignmaeaaWkForm
namespace Go.Proofs.Ytndbdioignmaeaa
open Go.RowKit

abbrev lessV (v : Value) : Value := .func (.func 79) #[v] #[]
set_option maxHeartbeats 2000000 in
theorem wless_eq (v : Value) (xs : List WkEl) (i j : Nat) (t : Bool) (h : lessB (xs.getD i wz) (xs.getD j wz) = t) (w : World) (hr : WkReads w v xs) (hi : i < xs.length) (hj : j < xs.length) :
    Calls Try.prog 79 #[v, .int .i64 i, .int .i64 j] w fun e w' => e = .returned (.bool t) ∧ Below w.heap.size w w' := by
  have HT := hid h
  clear h
  obtain ⟨g, o, cap, rfl, hc⟩ := hr.cells i hi
  obtain ⟨x, hx0⟩ : ∃ x, x = xs.getD i (0, 0, 0) := ⟨_, rfl⟩
  obtain ⟨y, hy0⟩ : ∃ y, y = xs.getD j (0, 0, 0) := ⟨_, rfl⟩
  have hck := hc i hi
  have hcp := hc j hj
  rw [← hx0] at hck
  rw [← hy0] at hcp
  obtain ⟨c0, c1, c2⟩ := hck
  obtain ⟨d0, d1, d2⟩ := hcp
  have HL : Hid (lessB x y = t) := by rw [hx0, hy0]; exact HT.out
  have hga : g < w.heap.size := lt_of_cell c0
  have n0 : (0 : Int) ≤ (i : Int) := by omega
  have n1 : (i : Int) < (xs.length : Int) := by omega
  have n2 : (0 : Int) ≤ (j : Int) := by omega
  have n3 : (j : Int) < (xs.length : Int) := by omega
  clear hc hx0 hy0 hr HT
  go_enter Try.func79, Try.ntmps79
  go_wp2_with fail
  go_region_held3 (fun w' => (w'.cell? ⟨g, o + i * 3, none⟩ = some (.int .i64 x.1) ∧ w'.cell? ⟨g, o + i * 3 + 1, none⟩ = some (.int .i64 x.2.1) ∧ w'.cell? ⟨g, o + i * 3 + 2, none⟩ = some (.int .i64 x.2.2)) ∧ w'.cell? ⟨g, o + j * 3, none⟩ = some (.int .i64 y.1) ∧ w'.cell? ⟨g, o + j * 3 + 1, none⟩ = some (.int .i64 y.2.1) ∧ w'.cell? ⟨g, o + j * 3 + 2, none⟩ = some (.int .i64 y.2.2)) (go_keep)
    (first | (go_at_call 81; refine (lessWork_eq x y t HL.out _).mono ?_; rintro e w2 ⟨rfl, b2⟩; obtain ⟨e0, e1, e2⟩ := WkCells.below (show WkCells w.drew g (o + i * 3) x from ⟨c0, c1, c2⟩) b2 hga; obtain ⟨e3, e4, e5⟩ := WkCells.below (show WkCells w.drew g (o + j * 3) y from ⟨d0, d1, d2⟩) b2 hga))
  go_wp2
  go_ret
  exact ⟨rfl, (Below.refl _ _).drew.trans b2⟩

set_option maxHeartbeats 1000000 in
theorem igoodWorks_eq (v : Value) (xs : List WkEl) (t : Bool) (h : goodW xs = t) (w : World) (hr : WkReads w v xs) :
    Calls Try.prog 77 #[v] w fun e w' => e = .returned (.bool t) ∧ Below w.heap.size w w' := by
  have HT : Hid ((xs.all wkB && decide (xs.length ≤ 40)) = t) := h
  clear h
  have HR := hid hr
  obtain ⟨a, cap, rfl, _, _⟩ := hr
  by_cases h40 : xs.length ≤ 40
  · have HA : Hid (t = xs.all wkB) := by show _ = _; rw [← HT.out]; simp [h40]
    have hd : decide ((40 : Int) < (xs.length : Int)) = false := by simp; omega
    go_enter Try.func77, Try.ntmps77
    go_wp2
    go_loopw [10] (fun i wr => ∃ k : Nat, k ≤ xs.length ∧ i = .int .i64 k ∧ (xs.take k).all wkB = true ∧ Below w.heap.size w wr) (fun i _ => xs.length - (intOf i).toNat)
    case atStart => exact ⟨0, Nat.zero_le _, rfl, rfl, Below.refl _ _⟩
    case round =>
      obtain ⟨k, hk, rfl, hall, hbel⟩ := hrel
      have HL := hid hall
      have HB := hid hbel
      clear hall hbel
      by_cases hlt : k < xs.length
      · obtain ⟨g, o, cap', e, hc⟩ := (HR.out.below HB.out).cells k hlt
        cases e
        obtain ⟨x, hx0⟩ : ∃ x, x = xs.getD k (0, 0, 0) := ⟨_, rfl⟩
        have hck := hc k hlt
        rw [← hx0] at hck
        obtain ⟨c0, c1, c2⟩ := hck
        obtain ⟨b, hb⟩ : ∃ b, wkB (xs.getD k (0, 0, 0)) = b := ⟨_, rfl⟩
        have HK := hid hb
        have HKX : Hid (wkB x = b) := by rw [hx0]; exact hb
        have HS : Hid ((xs.take (k + 1)).all wkB = b) := by show _ = _; rw [all_take xs k hlt, HL.out, hb, Bool.true_and]
        clear hc hb hx0
        go_wp2_with fail
        refine (igoodWork_eq x b HKX.out _).mono ?_
        rintro e w2 ⟨rfl, b2⟩
        have B2 : Hid (Below w.heap.size w w2) := (HB.out.alloc HB.out.size _).trans (b2.mono (by have := HB.out.size; simp; omega))
        clear b2
        cases b
        · have hv : Hid (t = false) := by show _ = _; rw [HA.out]; exact all_false k hlt HK.out
          go_wp2
          go_ret
          exact ⟨by rw [hv.out]; rfl, B2.out⟩
        · go_wp2
          go_roundw
          case rel => exact ⟨k + 1, by omega, by go_num, HS.out, B2.out⟩
          case measure => simp [intOf]; omega
      · have hv : Hid (t = true) := by show _ = _; rw [HA.out]; have := HL.out; rw [List.take_of_length_le (by omega)] at this; exact this
        go_wp2
        go_ret
        exact ⟨by rw [hv.out]; rfl, HB.out⟩
  · have hv : Hid (t = false) := by show _ = _; rw [← HT.out]; simp [h40]
    go_enter Try.func77, Try.ntmps77
    go_wp2
    go_ret
    exact ⟨by rw [hv.out]; rfl, Below.refl _ _⟩
end Go.Proofs.Ytndbdioignmaeaa
