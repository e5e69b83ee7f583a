/-
  impl.goodOrder: whether an order has all numbers, each once. Nothing old is written.
-/
import Derived.Test.YtpkngcamaahhdabIRows
import Derived.Test.YtpkngcamaahhdabMooreMath
namespace Go.Proofs.Ytpkngcamaahhdab
open Go.RowKit

theorem info_bool : (Try.prog.info? 4).map (fun i => (i.zero, i.size, i.bytes)) = some (some (.bool false), 1, 1) := by kernel_rfl
/-- In block g lie n marks. -/
def BRow (w : World) (g n : Nat) (f : Nat → Bool) : Prop := ∀ i, i < n → w.cell? ⟨g, i, none⟩ = some (.bool (f i)) ∧ w.frozen? ⟨g, i, none⟩ = false
theorem BRow.made (w : World) (n : Nat) : BRow (w.alloc (.cells (madeCells #[.bool false] n) 4)) w.heap.size n (fun _ => false) := by
  intro i hi
  refine ⟨?_, frozen_of_row _ _ _ _ _ (heap_alloc_new w _)⟩
  rw [cell_of_row _ _ _ _ _ (0, 0) (heap_alloc_new w _), ← Array.getElem?_toList, toList_madeCells_one, List.getElem?_replicate, if_pos hi]
theorem BRow.set {w : World} {g n : Nat} {f f' : Nat → Bool} (h : BRow w g n f) (j : Nat) (hj : j < n) (hf : ∀ i, f' i = (f i || decide (i = j))) : BRow (w.setCell ⟨g, j, none⟩ (.bool true)) g n f' := by
  intro i hi
  refine ⟨?_, by simpa using (h i hi).2⟩
  by_cases e : i = j
  · subst e
    rw [World.cell?_setCell_same _ _ _ (u := .bool (f i)) (h i hi).1, hf]
    simp
  · rw [World.cell?_setCell_other _ _ _ _ (by simp <;> omega), (h i hi).1, hf, decide_eq_false e, Bool.or_false]
theorem BRow.feq {w : World} {g n : Nat} {f f' : Nat → Bool} (h : BRow w g n f) (hf : ∀ i, f' i = f i) : BRow w g n f' := by
  rw [show f' = f from funext hf]
  exact h
theorem has_take' {xs : List Int} {n : Int} {k : Nat} (hk : k < xs.length) : (xs.take (k + 1)).contains n = ((xs.take k).contains n || decide (n = xs.getD k 0)) := by
  rw [List.take_succ_eq_append_getElem hk]
  simp only [List.contains_eq_mem, List.mem_append, List.mem_singleton, List.getD_eq_getElem?_getD, List.getElem?_eq_getElem hk, Option.getD_some]
  rw [Bool.eq_iff_iff]
  simp only [decide_eq_true_eq, Bool.or_eq_true]
set_option maxRecDepth 100000 in
set_option maxHeartbeats 4000000 in
theorem igoodOrder_eq (v : Value) (xs : List Int) (n : Nat) (t : Bool) (h : ordB n xs = t) (hn : n ≤ 1000) (w : World) (hr : KReads w v xs) :
    Calls Try.prog 49 #[v, .int .i64 n] w fun e w' => e = .returned (.bool t) ∧ Below w.heap.size w w' := by
  have HT : Hid ((decide (xs.length = n) && ordU n xs n) = t) := h
  clear h
  have HR := hid hr
  obtain ⟨a, cap, rfl, ⟨hlen, hcap⟩, _⟩ := hr
  obtain ⟨i0, hi, hz0, hz1, hz2⟩ := info_parts info_bool
  by_cases hl : xs.length = n
  · subst hl
    have HT' : Hid (ordU xs.length xs xs.length = t) := by show _ = _; rw [← HT.out]; simp
    clear HT
    go_enter Try.func49, Try.ntmps49
    go_wp2_with (at_make; refine wpList_make_row _ rfl _ _ 98 rfl 4 i0 (.bool false) Try.underlying98 hi hz0 hz1 rfl .i64 .i64 xs.length rfl rfl (by rw [hz2]; omega) (by omega) ?_)
    go_loopw [16] (fun i wr => ∃ k : Nat, k ≤ xs.length ∧ i = .int .i64 k ∧ ordU xs.length xs k = true ∧ BRow wr w.heap.size xs.length (fun i => (xs.take k).contains (i : Int)) ∧ Below w.heap.size w wr) (fun i _ => xs.length - (intOf i).toNat)
    case atStart => exact ⟨0, Nat.zero_le _, rfl, rfl, (BRow.made w xs.length).feq (fun _ => rfl), (Below.refl _ _).alloc (Nat.le_refl _) _⟩
    case round =>
      obtain ⟨k, hk, rfl, hu, hrow, hbel⟩ := hrel
      have HU := hid hu
      have HW := hid hrow
      have HB := hid hbel
      clear hu hrow hbel
      by_cases hlt : k < xs.length
      · obtain ⟨g, o, cap', e, hc⟩ := (HR.out.below HB.out).cells k hlt
        cases e
        have HS := hid (ordU_succ xs.length xs k)
        have HNo : Hid (∀ b : Bool, (decide (0 ≤ xs.getD k 0 ∧ xs.getD k 0 ≤ (xs.length : Int) - 1) && !(xs.take k).contains (xs.getD k 0)) = false → ordU xs.length xs xs.length = false) := fun _ hb => ordU_no hlt hb
        have HC : Hid (∀ i : Nat, (xs.take (k + 1)).contains (i : Int) = ((xs.take k).contains (i : Int) || decide ((i : Int) = xs.getD k 0))) := fun i => has_take' hlt
        obtain ⟨p, hp⟩ : ∃ p, p = xs.getD k 0 := ⟨_, rfl⟩
        have c0 : wr.cell? ⟨g, o + k, none⟩ = some (.int .i64 (xs.getD k 0)) := hc k hlt
        rw [← hp] at c0
        rw [← hp] at HS HNo HC
        clear hc hp
        by_cases h1 : p < 0
        · have hv : Hid (t = false) := by show _ = _; rw [← HT'.out]; exact HNo.out false (by rw [decide_eq_false (p := 0 ≤ p ∧ p ≤ (xs.length : Int) - 1) (by omega)]; rfl)
          have d1 : decide (p < 0) = true := by simpa using h1
          go_wp2
          go_ret
          exact ⟨by rw [hv.out]; rfl, HB.out⟩
        · have d1 : decide (p < 0) = false := by simpa using h1
          by_cases h2 : (xs.length : Int) ≤ p
          · have hv : Hid (t = false) := by show _ = _; rw [← HT'.out]; exact HNo.out false (by rw [decide_eq_false (p := 0 ≤ p ∧ p ≤ (xs.length : Int) - 1) (by omega)]; rfl)
            have d2 : decide ((xs.length : Int) ≤ p) = true := by simpa using h2
            go_wp2
            go_ret
            exact ⟨by rw [hv.out]; rfl, HB.out⟩
          · have d2 : decide ((xs.length : Int) ≤ p) = false := by simpa using h2
            have H1 : Hid (decide (0 ≤ p ∧ p ≤ (xs.length : Int) - 1) = true) := by show _ = _; rw [decide_eq_true_eq]; omega
            obtain ⟨j, rfl⟩ : ∃ j : Nat, p = (j : Int) := ⟨p.toNat, by omega⟩
            have hj : j < xs.length := by omega
            obtain ⟨b, hb⟩ : ∃ b, (xs.take k).contains (j : Int) = b := ⟨_, rfl⟩
            have H2 := hid hb
            have n0 : (0 : Int) ≤ (j : Int) := by omega
            have n1 : (j : Int) < (xs.length : Int) := by omega
            have cj : wr.cell? ⟨w.heap.size, j, none⟩ = some (.bool b) := by have := (HW.out j hj).1; rw [← hb]; exact this
            have fj : wr.frozen? ⟨w.heap.size, j, none⟩ = false := (HW.out j hj).2
            have HW2 : Hid (BRow (wr.setCell ⟨w.heap.size, j, none⟩ (.bool true)) w.heap.size xs.length (fun i => (xs.take (k + 1)).contains (i : Int))) := HW.out.set j hj fun i => by
              rw [HC.out i]
              congr 1
              rw [Bool.eq_iff_iff, decide_eq_true_eq, decide_eq_true_eq]
              omega
            have HB2 : Hid (Below w.heap.size w (wr.setCell ⟨w.heap.size, j, none⟩ (.bool true))) := HB.out.setCell (by simp) _
            clear hb h1 h2
            cases b
            · have H3 : Hid (ordU xs.length xs (k + 1) = true) := by show _ = _; rw [HS.out, HU.out, H1.out, H2.out]; rfl
              go_wp2
              go_roundw
              case rel => exact ⟨k + 1, by omega, by go_num, H3.out, HW2.out, HB2.out⟩
              case measure => simp [intOf]; omega
            · have hv : Hid (t = false) := by show _ = _; rw [← HT'.out]; exact HNo.out false (by rw [H1.out, H2.out]; rfl)
              go_wp2
              go_ret
              exact ⟨by rw [hv.out]; rfl, HB.out⟩
      · have hv : Hid (t = true) := by show _ = _; have := HU.out; rw [show k = xs.length by omega, HT'.out] at this; exact this
        go_wp2
        go_ret
        exact ⟨by rw [hv.out]; rfl, HB.out⟩
  · have hv : Hid (t = false) := by show _ = _; rw [← HT.out, decide_eq_false hl]; rfl
    go_enter Try.func49, Try.ntmps49
    go_wp2
    go_ret
    exact ⟨by rw [hv.out]; rfl, Below.refl _ _⟩
end Go.Proofs.Ytpkngcamaahhdab
