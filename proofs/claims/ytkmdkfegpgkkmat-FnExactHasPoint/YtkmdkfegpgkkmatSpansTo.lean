/-
  laws.toSpanS answers with new spans that read as its argument, laws.eqSpanS with true for two slices that read alike; nothing old is written.
-/
import Derived.Test.YtkmdkfegpgkkmatSpans
import Derived.Deep.RegionWith
namespace Go.Proofs.Ytkmdkfegpgkkmat
open Go.RowKit

theorem toSpan_any (p q : Int) (w : World) : Calls Try.prog 11 #[.agg #[.int .i64 p, .int .i64 q]] w fun e w' => e = .returned (.agg #[.int .i64 p, .int .i64 q]) ∧ Below w.heap.size w w' := by
  go_enter Try.func11, Try.ntmps11
  go_wp2
  go_returns
  refine ⟨rfl, ?_⟩
  go_grown
theorem eqSpan_same (p q : Int) (w : World) : Calls Try.prog 18 #[.agg #[.int .i64 p, .int .i64 q], .agg #[.int .i64 p, .int .i64 q]] w fun e w' => e = .returned (.bool true) ∧ Below w.heap.size w w' := by
  go_enter Try.func18, Try.ntmps18
  go_wp2
  go_ret
  refine ⟨rfl, ?_⟩
  go_grown

set_option maxHeartbeats 1000000 in
theorem eqSpanS_same (va vb : Value) (xs : List Sp) (w : World) (ha : SReads w va xs) (hb : SReads w vb xs) :
    Calls Try.prog 9 #[va, vb] w fun e w' => e = .returned (.bool true) ∧ Below w.heap.size w w' := by
  obtain ⟨a, ca, rfl, hl, hxa⟩ := ha
  obtain ⟨b, cb, rfl, _, hxb⟩ := hb
  have hd : ((xs.length : Int) != (xs.length : Int)) = false := by simp
  have HA := hid hxa
  have HB := hid hxb
  clear hxa hxb
  go_enter Try.func9, Try.ntmps9
  go_wp2
  go_loopw [5] (fun i wr => ∃ k : Nat, k ≤ xs.length ∧ i = .int .i64 k ∧ Below w.heap.size w wr) (fun i _ => xs.length - (intOf i).toNat)
  case atStart => exact ⟨0, Nat.zero_le _, rfl, Below.refl _ _⟩
  case round =>
    obtain ⟨k, hk, rfl, hal⟩ := hrel
    by_cases hlt : k < xs.length
    · obtain ⟨ga, oa, rfl, hca⟩ : ∃ b off, a = some ⟨b, off, none⟩ ∧ ∀ i, i < xs.length → w.cell? ⟨b, off + i * 2, none⟩ = some (.int .i64 (xs.getD i (0, 0)).1) ∧ w.cell? ⟨b, off + i * 2 + 1, none⟩ = some (.int .i64 (xs.getD i (0, 0)).2) := by
        rcases HA.out with h | h
        · subst h; simp at hlt
        · exact h
      obtain ⟨gb, ob, rfl, hcb⟩ : ∃ a off, b = some ⟨a, off, none⟩ ∧ ∀ i, i < xs.length → w.cell? ⟨a, off + i * 2, none⟩ = some (.int .i64 (xs.getD i (0, 0)).1) ∧ w.cell? ⟨a, off + i * 2 + 1, none⟩ = some (.int .i64 (xs.getD i (0, 0)).2) := by
        rcases HB.out with h | h
        · subst h; simp at hlt
        · exact h
      have h1 := (hal.cell (p := ⟨ga, oa + k * 2, none⟩) (lt_of_cell (hca k hlt).1)).trans (hca k hlt).1
      have h2 := (hal.cell (p := ⟨ga, oa + k * 2 + 1, none⟩) (lt_of_cell (hca k hlt).2)).trans (hca k hlt).2
      have h3 := (hal.cell (p := ⟨gb, ob + k * 2, none⟩) (lt_of_cell (hcb k hlt).1)).trans (hcb k hlt).1
      have h4 := (hal.cell (p := ⟨gb, ob + k * 2 + 1, none⟩) (lt_of_cell (hcb k hlt).2)).trans (hcb k hlt).2
      have HL := hid hal
      clear hal hca hcb
      generalize (xs.getD k (0, 0)).1 = p at h1 h3
      generalize (xs.getD k (0, 0)).2 = q at h2 h4
      go_wp2_with fail
      go_region_with (go_at_call 18; refine (eqSpan_same p q _).mono ?_; rintro e w' ⟨rfl, hb⟩)
      all_goals go_wp2
      all_goals go_roundw
      case rel => exact ⟨k + 1, by omega, by go_num, HL.out.drew.trans (hb.mono HL.out.size)⟩
      case measure => simp [intOf]; omega
      case rel => exact ⟨k + 1, by omega, by go_num, HL.out.drew.trans (hb.mono HL.out.size)⟩
      case measure => simp [intOf]; omega
    · go_wp2
      go_ret
      exact ⟨rfl, hal⟩

/-- The first k of xs, then empty spans. -/
def spart (xs : List Sp) (k : Nat) : List Sp := xs.take k ++ List.replicate (xs.length - k) (0, 0)
theorem length_spart (xs : List Sp) (k : Nat) (h : k ≤ xs.length) : (spart xs k).length = xs.length := by simp [spart]; omega
theorem spart_zero (xs : List Sp) : spart xs 0 = List.replicate xs.length (0, 0) := by simp [spart]
theorem spart_all (xs : List Sp) : spart xs xs.length = xs := by simp [spart]
theorem spart_step (xs : List Sp) (k : Nat) (h : k < xs.length) : (spart xs k).set k (xs.getD k (0, 0)) = spart xs (k + 1) := by
  have e : List.replicate (xs.length - k) ((0, 0) : Sp) = (0, 0) :: List.replicate (xs.length - (k + 1)) (0, 0) := by rw [show xs.length - k = (xs.length - (k + 1)) + 1 by omega, List.replicate_succ]
  unfold spart
  rw [e, List.set_append_right _ _ (by simp; omega)]
  simp [List.getD_eq_getElem?_getD, h, Nat.min_eq_left (Nat.le_of_lt h)]
  rw [List.take_succ_eq_append_getElem h, List.append_assoc]
  rfl

set_option maxHeartbeats 1000000 in
theorem toSpanS_any (va : Value) (xs : List Sp) (w : World) (ha : SReads w va xs) (hx : xs.length ≤ 1048576) :
    Calls Try.prog 7 #[va] w fun e w' => ∃ v, e = .returned v ∧ SOwn w.heap.size w' v xs ∧ Below w.heap.size w w' := by
  obtain ⟨a, ca, rfl, hl, hxa⟩ := ha
  obtain ⟨i0, hi, hz0, hz1, hz2⟩ := info_parts info_span
  have HC := hid hxa
  clear hxa
  go_enter Try.func7, Try.ntmps7
  go_wp2_with (at_make; refine wpList_make_full _ rfl _ _ 26 rfl w.heap.size 34 i0 (.agg #[.int .i64 0, .int .i64 0]) 2 Try.underlying26 hi hz0 hz1 .i64 .i64 _ _ xs.length rfl rfl rfl rfl (by rw [hz2]; omega) (by unfold maxLen; omega) (Nat.le_refl _) ?_; intro w1 hown1 hgrow1)
  have B1 : Hid (Below w.heap.size w w1) := (Below.refl _ _).grown hgrow1 (Nat.le_refl _) (by intro k hk; cases hk)
  have O1 : Hid (SOwn w.heap.size w1 (.slice (some ⟨w.heap.size, 0, none⟩) xs.length xs.length) (spart xs 0)) := by
    show SOwn _ _ _ _
    rw [spart_zero]
    refine SOwn.of_owns (n := xs.length) ?_ (by simpa using hl)
    rw [← made_zero]
    exact hown1
  clear hown1 hgrow1
  go_loopw [4] (fun i wr => ∃ k : Nat, k ≤ xs.length ∧ i = .int .i64 k ∧ SOwn w.heap.size wr (.slice (some ⟨w.heap.size, 0, none⟩) xs.length xs.length) (spart xs k) ∧ Below w.heap.size w wr) (fun i _ => xs.length - (intOf i).toNat)
  case atStart => exact ⟨0, Nat.zero_le _, rfl, O1.out, B1.out⟩
  case round =>
    obtain ⟨k, hk, rfl, hown, hbel⟩ := hrel
    by_cases hlt : k < xs.length
    · obtain ⟨b, off, rfl, hc⟩ : ∃ b off, a = some ⟨b, off, none⟩ ∧ ∀ i, i < xs.length → w.cell? ⟨b, off + i * 2, none⟩ = some (.int .i64 (xs.getD i (0, 0)).1) ∧ w.cell? ⟨b, off + i * 2 + 1, none⟩ = some (.int .i64 (xs.getD i (0, 0)).2) := by
        rcases HC.out with h | h
        · subst h; simp at hlt
        · exact h
      have h1 := (hbel.cell (p := ⟨b, off + k * 2, none⟩) (lt_of_cell (hc k hlt).1)).trans (hc k hlt).1
      have h2 := (hbel.cell (p := ⟨b, off + k * 2 + 1, none⟩) (lt_of_cell (hc k hlt).2)).trans (hc k hlt).2
      have HO := hid hown
      have HB := hid hbel
      obtain ⟨x, hx0⟩ : ∃ x, x = xs.getD k (0, 0) := ⟨_, rfl⟩
      rw [← hx0] at h1 h2
      have HX := hid hx0
      clear hc hown hbel hx0
      go_wp2_with fail
      refine (toSpan_any _ _ _).mono ?_
      rintro e w2 ⟨rfl, b2⟩
      have hl2 := length_spart xs k hk
      have hset := SOwn.set (xs := spart xs k) (by rw [hl2]; exact HO.out.below b2) k x (by omega)
      rw [show (spart xs k).set k x = spart xs (k + 1) by rw [HX.out]; exact spart_step xs k hlt, hl2] at hset
      obtain ⟨hown2, _, hfz, c0, c1⟩ := hset
      have HO2 := hid hown2
      have HB2 : Hid (Below w.heap.size w w2) := HB.out.trans (b2.mono HB.out.size)
      have f0 := hfz (k * 2)
      have f1 := hfz (k * 2 + 1)
      clear hown2 b2 hl2 hfz HO HB
      generalize ((spart xs k).getD k (0, 0)).1 = y1 at c0
      generalize ((spart xs k).getD k (0, 0)).2 = y2 at c1
      go_wp2
      go_roundw
      case rel => exact ⟨k + 1, by omega, by go_num, HO2.out, (HB2.out.setCell (Nat.le_refl _) _).setCell (Nat.le_refl _) _⟩
      case measure => simp [intOf]; omega
    · obtain rfl : k = xs.length := by omega
      rw [spart_all] at hown
      go_wp2
      go_ret
      exact ⟨_, rfl, hown, hbel⟩
end Go.Proofs.Ytkmdkfegpgkkmat
