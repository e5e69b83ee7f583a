/-
  impl.sumsOf, impl.goodOut: sums of a list, in memory of their own; whether what goes out is as said. Nothing old is written.
-/
import Derived.Test.YtcieefggijjekacUntilMath
import Derived.Test.YtcieefggijjekacIRows
namespace Go.Proofs.Ytcieefggijjekac
open Go.RowKit

set_option maxRecDepth 100000 in
set_option maxHeartbeats 8000000 in
theorem isums_any (v : Value) (xs : List Int) (w : World) (hr : KReads w v xs) (hlen : xs.length ≤ 40) (hb : ∀ k, k ≤ xs.length → 0 ≤ psum (fl xs) k ∧ psum (fl xs) k ≤ 2400) :
    Calls Try.prog 49 #[v] w fun e w' => e = .returned (.slice (some ⟨w.heap.size, 0, none⟩) xs.length xs.length) ∧ ∃ zs : List Int, IRow w' w.heap.size xs.length xs.length zs ∧ (∀ i, i < xs.length → zs.getD i 0 = psum (fl xs) (i + 1)) ∧ Below w.heap.size w w' := by
  have HR := hid hr
  have HP := hid hb
  obtain ⟨a, cap, rfl, _, _⟩ := hr
  obtain ⟨i0, hi, hz0, hz1, hz2⟩ := info_parts info_int
  clear hb
  go_enter Try.func49, Try.ntmps49
  go_wp2_with (at_make; refine wpList_make_row _ rfl _ _ 23 rfl 3 i0 (.int .i64 0) Try.underlying23 hi hz0 hz1 rfl .i64 .i64 xs.length rfl rfl (by rw [hz2]; omega) (by omega) ?_)
  have O0 : Hid (IRow (w.alloc (.cells (madeCells #[.int .i64 0] xs.length) 3)) w.heap.size xs.length xs.length (List.replicate xs.length 0)) := IRow.made w _ (by omega)
  go_loopw [4, 12] (fun t i wr => ∃ k : Nat, k ≤ xs.length ∧ i = .int .i64 k ∧ t = .int .i64 (psum (fl xs) k) ∧ ∃ zs : List Int, IRow wr w.heap.size xs.length xs.length zs ∧ (∀ j, j < k → zs.getD j 0 = psum (fl xs) (j + 1)) ∧ Below w.heap.size w wr) (fun _ i _ => xs.length - (intOf i).toNat)
  case atStart => exact ⟨0, by omega, rfl, rfl, _, O0.out, fun j h => absurd h (by omega), (Below.refl _ _).alloc (Nat.le_refl _) _⟩
  case round =>
    obtain ⟨k, hk, rfl, rfl, zs, hown, hz, hbel⟩ := hrel
    have HO := hid hown
    have HB := hid hbel
    have HZ := hid hz
    clear hown hbel hz O0
    by_cases hlt : k < xs.length
    · obtain ⟨g, o, cap', e, hc⟩ := (HR.out.below HB.out).cells k hlt
      cases e
      have HS : Hid (psum (fl xs) (k + 1) = psum (fl xs) k + fl xs k) := rfl
      have hp1 := HP.out (k + 1) (by omega)
      have hp0 := HP.out k (by omega)
      rw [HS.out] at hp1
      obtain ⟨x, hx⟩ : ∃ x, x = fl xs k := ⟨_, rfl⟩
      have cx : wr.cell? ⟨g, o + k, none⟩ = some (.int .i64 x) := by rw [hx]; exact hc k hlt
      obtain ⟨s, hs⟩ : ∃ s, s = psum (fl xs) k := ⟨_, rfl⟩
      rw [← hs, ← hx] at HS hp1
      rw [← hs] at hp0 ⊢
      have hw1 : IntKind.i64.wrap (s + x) = s + x := by rw [IntKind.wrap_i64]; omega
      have hfr : wr.frozen? ⟨w.heap.size, k, none⟩ = false := HO.out.free k
      have hcl : wr.cell? ⟨w.heap.size, k, none⟩ = some (.int .i64 (zs.getD k 0)) := HO.out.cell hlt
      have HSet : Hid (IRow (wr.setCell ⟨w.heap.size, k, none⟩ (.int .i64 (s + x))) w.heap.size xs.length xs.length (zs.set k (s + x))) := HO.out.set k _
      have HZ2 : Hid (∀ j, j < k + 1 → (zs.set k (s + x)).getD j 0 = psum (fl xs) (j + 1)) := fun j hj => by
        have hl := HO.out.len
        by_cases e : j = k
        · rw [e, HS.out]; simp [List.getD_eq_getElem?_getD, hl, hlt]
        · rw [List.getD_eq_getElem?_getD, List.getElem?_set_ne (by omega), ← List.getD_eq_getElem?_getD]; exact HZ.out j (by omega)
      have HB2 : Hid (Below w.heap.size w (wr.setCell ⟨w.heap.size, k, none⟩ (.int .i64 (s + x)))) := HB.out.setCell (by simp) _
      have n0 : (0 : Int) ≤ (k : Int) := by omega
      have n1 : (k : Int) < (xs.length : Int) := by omega
      clear hc hx hs hp0 hp1
      go_wp2
      go_roundw
      case rel => exact ⟨k + 1, by omega, by go_num, by rw [HS.out], _, HSet.out, HZ2.out, HB2.out⟩
      case measure => simp [intOf]; omega
    · obtain rfl : k = xs.length := by omega
      go_wp2
      go_ret
      exact ⟨rfl, zs, HO.out, HZ.out, HB.out⟩
set_option maxRecDepth 100000 in
set_option maxHeartbeats 8000000 in
theorem igoodOut_eq (v u : Value) (xs ys : List Int) (t : Bool) (h : outAll xs ys = t) (w : World) (hr : KReads w v xs) (hu : KReads w u ys) (hf : flowB xs = true) :
    Calls Try.prog 48 #[v, u] w fun e w' => e = .returned (.bool t) ∧ w' = w := by
  have HR := hid hr
  have HU := hid hu
  have HT := hid h
  have HF := hid hf
  have hlen := flowB_len hf
  obtain ⟨a, cap, rfl, _, _⟩ := hr
  obtain ⟨a1, cap1, rfl, _, _⟩ := hu
  clear h hf
  by_cases hl : ys.length = xs.length
  · have HL := hid hl
    have d1 : decide ((ys.length : Int) = (xs.length : Int)) = true := by rw [decide_eq_true_eq]; omega
    have d2 : decide (ys.length = xs.length) = true := by rw [decide_eq_true_eq]; exact hl
    rw [hl]
    clear hl d1 d2
    go_enter Try.func48, Try.ntmps48
    go_wp2
    go_loopw [5, 15] (fun s i wr => ∃ k : Nat, k ≤ xs.length ∧ i = .int .i64 k ∧ s = .int .i64 (psum (fl xs) k - psum (fl ys) k) ∧ OutTo (fl xs) (fl ys) k ∧ w = wr) (fun _ i _ => xs.length - (intOf i).toNat)
    case atStart => exact ⟨0, by omega, rfl, rfl, OutTo.zero _ _, rfl⟩
    case round =>
      obtain ⟨k, hk, rfl, rfl, hto, rfl⟩ := hrel
      have HTo := hid hto
      clear hto
      by_cases hlt : k < xs.length
      · obtain ⟨g, o, cap', e, hc⟩ := HR.out.cells k hlt
        cases e
        obtain ⟨g1, o1, cap1', e, hc1⟩ := HU.out.cells k (by rw [HL.out]; exact hlt)
        rw [HL.out] at e
        cases e
        have hp1 := psum_in (f := fl xs) (b := 60) (flowB_in HF.out) k
        have hfi := flowB_in HF.out k
        have ho := HTo.out.2
        have HSX : Hid (psum (fl xs) (k + 1) = psum (fl xs) k + fl xs k) := rfl
        have HSY : Hid (psum (fl ys) (k + 1) = psum (fl ys) k + fl ys k) := rfl
        obtain ⟨x, hx⟩ : ∃ x, x = fl xs k := ⟨_, rfl⟩
        have cx : w.cell? ⟨g, o + k, none⟩ = some (.int .i64 x) := by rw [hx]; exact hc k hlt
        obtain ⟨y, hy⟩ : ∃ y, y = fl ys k := ⟨_, rfl⟩
        have cy : w.cell? ⟨g1, o1 + k, none⟩ = some (.int .i64 y) := by rw [hy]; exact hc1 k (by rw [HL.out]; exact hlt)
        obtain ⟨s, hs⟩ : ∃ s, s = psum (fl xs) k - psum (fl ys) k := ⟨_, rfl⟩
        have hsb : 0 ≤ s ∧ s ≤ 2400 := by rw [hs]; omega
        have HSS : Hid (psum (fl xs) (k + 1) - psum (fl ys) (k + 1) = s + x - y) := by show _ = _; rw [HSX.out, HSY.out, hs, hx, hy]; omega
        rw [← hx] at hfi
        rw [← hs]
        have hw1 : IntKind.i64.wrap (s + x) = s + x := by rw [IntKind.wrap_i64]; omega
        have n0 : (0 : Int) ≤ (k : Int) := by omega
        have n1 : (k : Int) < (xs.length : Int) := by omega
        have HX := hid hx
        have HY := hid hy
        have HSe := hid hs
        clear hc hc1 hx hy hs hp1 ho
        by_cases h0 : y < 0
        · have d1 : decide (y < 0) = true := by simpa using h0
          have HV : Hid (t = false) := by
            show _ = _
            rw [← HT.out]
            exact outAll_neg (k := k) (by rw [HL.out]; exact hlt) (by rw [← HY.out]; exact h0)
          go_wp2
          go_ret
          exact ⟨by rw [HV.out]; rfl, rfl⟩
        · have d1 : decide (y < 0) = false := by simpa using h0
          by_cases h1 : s + x < y
          · have d2 : decide (s + x < y) = true := by simpa using h1
            have HV : Hid (t = false) := by
              show _ = _
              rw [← HT.out]
              refine outAll_more (k := k) hlt ?_
              have := HSS.out
              omega
            go_wp2
            go_ret
            exact ⟨by rw [HV.out]; rfl, rfl⟩
          · have d2 : decide (s + x < y) = false := by simpa using h1
            have hw2 : IntKind.i64.wrap (s + x - y) = s + x - y := by rw [IntKind.wrap_i64]; omega
            have HN : Hid (OutTo (fl xs) (fl ys) (k + 1)) := HTo.out.succ (by rw [← HY.out]; omega) (by rw [← HY.out, ← HX.out, ← HSe.out]; omega)
            go_wp2
            go_roundw
            case rel => exact ⟨k + 1, by omega, by go_num, by rw [HSS.out], HN.out, by first | rfl | trivial⟩
            case measure => simp [intOf]; omega
      · obtain rfl : k = xs.length := by omega
        have HV : Hid (t = true) := by show _ = _; rw [← HT.out]; exact outAll_yes HF.out HL.out HTo.out
        go_wp2
        go_ret
        exact ⟨by rw [HV.out]; rfl, rfl⟩
  · have d1 : ((ys.length : Int) != (xs.length : Int)) = true := by rw [bne_iff_ne]; omega
    have HV : Hid (t = false) := by show _ = _; rw [← HT.out]; exact outAll_len hl
    clear hl
    go_enter Try.func48, Try.ntmps48
    go_wp2
    go_ret
    exact ⟨by rw [HV.out]; rfl, rfl⟩
end Go.Proofs.Ytcieefggijjekac
