/-
  cmp.Compare over int; impl.RelationOf over the table relationRows as it is laid: in which way two spans stand; nothing old is written.
-/
import Derived.Test.YtobkockikpgcoaaDoorRelMath
import Derived.Test.YtobkockikpgcoaaDoorGoodSpan
import Derived.Deep.RegionHeld3
import Derived.ChangeKeysEq
namespace Go.Proofs.YtobkockikpgcoaaDoor
open Go.RowKit

/-- The table's cells. -/
def RTab (w : World) : Prop := ∀ i, i < 52 → w.cell? ⟨1, i, none⟩ = some (.int .i64 (signRows.getD i 0))
theorem RTab.lt {w : World} (h : RTab w) : 1 < w.heap.size := lt_of_cell (h 0 (by decide))
theorem RTab.below {w w' : World} (h : RTab w) (hb : Below w.heap.size w w') : RTab w' := fun i hi => (hb.cell (p := ⟨1, i, none⟩) h.lt).trans (h i hi)

theorem isNaN_any (x : Int) (w : World) : Calls Tryd.prog 81 #[.int .i64 x] w fun e w' => e = .returned (.bool false) ∧ w' = w := by
  have hd : (x != x) = false := by simp
  go_enter Tryd.func81, Tryd.ntmps81
  go_wp2
  go_ret
  exact ⟨rfl, rfl⟩
theorem compare_any (x y : Int) (w : World) : Calls Tryd.prog 62 #[.int .i64 x, .int .i64 y] w fun e w' => e = .returned (.int .i64 (sg x y)) ∧ w' = w := by
  have hs := hid (sg_cases x y)
  rcases (by omega : x < y ∨ x = y ∨ y < x) with h | h | h
  · have hv : Hid (sg x y = -1) := by have := hs.out; show _ = _; omega
    go_enter Tryd.func62, Tryd.ntmps62
    go_wp2_with (first | (go_at_call 81; refine (isNaN_any _ _).mono ?_; rintro e w' ⟨rfl, rfl⟩))
    go_ret
    exact ⟨by rw [hv.out]; rfl, rfl⟩
  · have hv : Hid (sg x y = 0) := by have := hs.out; show _ = _; omega
    subst h
    go_enter Tryd.func62, Tryd.ntmps62
    go_wp2_with (first | (go_at_call 81; refine (isNaN_any _ _).mono ?_; rintro e w' ⟨rfl, rfl⟩))
    go_ret
    exact ⟨by rw [hv.out]; rfl, rfl⟩
  · have hv : Hid (sg x y = 1) := by have := hs.out; show _ = _; omega
    go_enter Tryd.func62, Tryd.ntmps62
    go_wp2_with (first | (go_at_call 81; refine (isNaN_any _ _).mono ?_; rintro e w' ⟨rfl, rfl⟩))
    go_ret
    exact ⟨by rw [hv.out]; rfl, rfl⟩

theorem info_int8 : (Tryd.prog.info? 3).map (fun i => (i.zero, i.size, i.bytes)) = some (some (.int .i64 0), 1, 8) := by kernel_rfl
theorem cells_int1 : Tryd.prog.cellsOf 3 = 1 := by kernel_rfl
set_option linter.unusedSimpArgs false in
theorem eq4_run (y0 y1 y2 y3 z0 z1 z2 z3 : Int) (w : World) :
    (Op.equalIn 10000 93 (.agg #[.int .i64 y0, .int .i64 y1, .int .i64 y2, .int .i64 y3]) (.agg #[.int .i64 z0, .int .i64 z1, .int .i64 z2, .int .i64 z3])).run Tryd.prog w = .ok (y0 == z0 && (y1 == z1 && (y2 == z2 && y3 == z3))) w := by
  obtain ⟨i0, hi, _⟩ := info_parts info_int8
  rw [run_equalIn_array w 9999 _ _ Tryd.underlying93 hi, cells_int1]
  have he : ∀ (a b : Int), (Op.equalIn 9999 3 (.int .i64 a) (.int .i64 b)).run Tryd.prog w = .ok (a == b) w := fun a b => run_equalIn_int w 9998 3 .i64 .i64 a b Tryd.underlying3
  have p0 : ∀ (a b c d : Int), (part 3 #[.int .i64 a, .int .i64 b, .int .i64 c, .int .i64 d] 0).run Tryd.prog w = .ok (.int .i64 a) w := fun a b c d => by simp [part, isAgg, run_underlying Tryd.underlying3]
  have p1 : ∀ (a b c d : Int), (part 3 #[.int .i64 a, .int .i64 b, .int .i64 c, .int .i64 d] 1).run Tryd.prog w = .ok (.int .i64 b) w := fun a b c d => by simp [part, isAgg, run_underlying Tryd.underlying3]
  have p2 : ∀ (a b c d : Int), (part 3 #[.int .i64 a, .int .i64 b, .int .i64 c, .int .i64 d] 2).run Tryd.prog w = .ok (.int .i64 c) w := fun a b c d => by simp [part, isAgg, run_underlying Tryd.underlying3]
  have p3 : ∀ (a b c d : Int), (part 3 #[.int .i64 a, .int .i64 b, .int .i64 c, .int .i64 d] 3).run Tryd.prog w = .ok (.int .i64 d) w := fun a b c d => by simp [part, isAgg, run_underlying Tryd.underlying3]
  rw [show List.range 4 = [0, 1, 2, 3] from rfl]
  simp only [Op.eqItems, Sem.run_bind, Nat.mul_one, p0, p1, p2, p3, Result.andThen_ok, he]
  cases h0 : y0 == z0 <;> cases h1 : y1 == z1 <;> cases h2 : y2 == z2 <;> cases h3 : y3 == z3 <;>
    simp only [Op.eqItems, Sem.run_bind, p0, p1, p2, p3, Result.andThen_ok, he, h0, h1, h2, h3, Bool.not_true, Bool.not_false, Bool.false_eq_true, if_true, if_false, Sem.run_pure, Bool.and_true, Bool.and_false, Bool.true_and, Bool.false_and]

set_option maxHeartbeats 4000000 in
theorem irel_yes (p q r s : Int) (w : World) (hT : RTab w) (ha : spB (p, q) = true) (hb : spB (r, s) = true) :
    Calls Tryd.prog 31 #[.agg #[.int .i64 p, .int .i64 q], .agg #[.int .i64 r, .int .i64 s]] w fun e w' => e = .returned (.tuple #[.int .i64 (ways (p, q) (r, s)), .bool true]) ∧ Below w.heap.size w w' := by
  have HT := hid hT
  clear hT
  go_enter Tryd.func31, Tryd.ntmps31
  go_wp2_with fail
  refine (goodSpan_yes p q _ ha).mono ?_
  rintro e w1 ⟨rfl, b1⟩
  have c0 := (b1.cell (p := ⟨w.heap.size, 0, none⟩) (by first | (simp; done) | (simp; omega))).trans (show _ = some (.int .i64 p) by simp)
  have c1 := (b1.cell (p := ⟨w.heap.size, 1, none⟩) (by first | (simp; done) | (simp; omega))).trans (show _ = some (.int .i64 q) by simp)
  have c2 := (b1.cell (p := ⟨w.heap.size + 1, 0, none⟩) (by first | (simp; done) | (simp; omega))).trans (show _ = some (.int .i64 r) by simp)
  have c3 := (b1.cell (p := ⟨w.heap.size + 1, 1, none⟩) (by first | (simp; done) | (simp; omega))).trans (show _ = some (.int .i64 s) by simp)
  have B1 : Hid (Below w.heap.size w w1) := by
    show Below _ _ _
    refine Below.trans ?_ (b1.mono (by simp; omega))
    go_grown
  clear b1
  go_wp2_with fail
  refine (goodSpan_yes r s _ hb).mono ?_
  rintro e w2 ⟨rfl, b2⟩
  have d0 := (b2.cell (p := ⟨w.heap.size, 0, none⟩) (lt_of_cell c0)).trans c0
  have d1 := (b2.cell (p := ⟨w.heap.size, 1, none⟩) (lt_of_cell c1)).trans c1
  have d2 := (b2.cell (p := ⟨w.heap.size + 1, 0, none⟩) (lt_of_cell c2)).trans c2
  have d3 := (b2.cell (p := ⟨w.heap.size + 1, 1, none⟩) (lt_of_cell c3)).trans c3
  have B2 : Hid (Below w.heap.size w w2) := B1.out.trans (b2.mono B1.out.size)
  clear b2 c0 c1 c2 c3 B1
  go_wp2_with fail
  go_region_held3 (fun w' => w'.cell? ⟨w.heap.size, 0, none⟩ = some (.int .i64 p) ∧ w'.cell? ⟨w.heap.size, 1, none⟩ = some (.int .i64 q) ∧ w'.cell? ⟨w.heap.size + 1, 0, none⟩ = some (.int .i64 r) ∧ w'.cell? ⟨w.heap.size + 1, 1, none⟩ = some (.int .i64 s)) (go_keep)
    (first | (go_at_call 62; refine (compare_any _ _ _).mono ?_; rintro e w' ⟨rfl, rfl⟩))
  all_goals
    go_wp2
    go_loopw [37] (fun i wr => ∃ k : Nat, k ≤ 13 ∧ i = .int .i64 k ∧ (∀ j, j < k → ¬ rowAt (p, q) (r, s) j) ∧ (wr.cell? ⟨w2.heap.size, 0, none⟩ = some (.int .i64 (sg p r)) ∧ wr.cell? ⟨w2.heap.size, 1, none⟩ = some (.int .i64 (sg p s)) ∧ wr.cell? ⟨w2.heap.size, 2, none⟩ = some (.int .i64 (sg q r)) ∧ wr.cell? ⟨w2.heap.size, 3, none⟩ = some (.int .i64 (sg q s))) ∧ RTab wr ∧ Below w.heap.size w wr) (fun i _ => 13 - (intOf i).toNat)
    case atStart =>
      have hB : ∀ wz, Below w2.heap.size w2 wz → Below w.heap.size w wz := fun wz h => B2.out.trans (h.mono B2.out.size)
      refine ⟨0, by omega, rfl, fun j hj => absurd hj (Nat.not_lt_zero j), ⟨by simp, by simp, by simp, by simp⟩, HT.out.below (hB _ ?_), hB _ ?_⟩
      · go_grown
      · go_grown
    case round =>
      obtain ⟨k, hk, rfl, hso, ⟨s0, s1, s2, s3⟩, hT, hbel⟩ := hrel
      have HS := hid hso
      have HT2 := hid hT
      have HB := hid hbel
      by_cases hlt : k < 13
      · have t0 := hT (k * 4) (by omega)
        have t1 := hT (k * 4 + 1) (by omega)
        have t2 := hT (k * 4 + 2) (by omega)
        have t3 := hT (k * 4 + 3) (by omega)
        have hk0 : (0 : Int) ≤ (k : Int) := by omega
        have hk1 : (k : Int) < 13 := by omega
        by_cases hr : rowAt (p, q) (r, s) k
        · have hv := hid (row_ways (a := (p, q)) (b := (r, s)) ((spB_iff _).1 ha).2.1 ((spB_iff _).1 hb).2.1 k hlt hr)
          obtain ⟨r0, r1, r2, r3⟩ := hr
          rw [r0] at t0
          rw [r1] at t1
          rw [r2] at t2
          rw [r3] at t3
          clear r0 r1 r2 r3 hso hT hbel
          have hE : ∀ w', (Op.equalIn 10000 93 (.agg #[.int .i64 (sg p r), .int .i64 (sg p s), .int .i64 (sg q r), .int .i64 (sg q s)]) (.agg #[.int .i64 (sg p r), .int .i64 (sg p s), .int .i64 (sg q r), .int .i64 (sg q s)])).run Tryd.prog w' = .ok true w' := fun w' => by
            rw [eq4_run]; simp
          go_wp2
          go_region_held3 (fun w' => w'.cell? ⟨1, k * 4, none⟩ = some (.int .i64 (sg p r)) ∧ w'.cell? ⟨1, k * 4 + 1, none⟩ = some (.int .i64 (sg p s)) ∧ w'.cell? ⟨1, k * 4 + 2, none⟩ = some (.int .i64 (sg q r)) ∧ w'.cell? ⟨1, k * 4 + 3, none⟩ = some (.int .i64 (sg q s)) ∧
            w'.cell? ⟨w2.heap.size, 0, none⟩ = some (.int .i64 (sg p r)) ∧ w'.cell? ⟨w2.heap.size, 1, none⟩ = some (.int .i64 (sg p s)) ∧ w'.cell? ⟨w2.heap.size, 2, none⟩ = some (.int .i64 (sg q r)) ∧ w'.cell? ⟨w2.heap.size, 3, none⟩ = some (.int .i64 (sg q s))) (go_keep) (fail)
          go_wp2
          go_ret2
          exact ⟨by rw [hv.out]; rfl, HB.out.drew⟩
        · have hno : ¬ (signRows.getD (k * 4) 0 = sg p r ∧ signRows.getD (k * 4 + 1) 0 = sg p s ∧ signRows.getD (k * 4 + 2) 0 = sg q r ∧ signRows.getD (k * 4 + 3) 0 = sg q s) := hr
          have hst : Hid (∀ j, j < k + 1 → ¬ rowAt (p, q) (r, s) j) := fun j hj => by
            by_cases e : j = k
            · subst e; exact hr
            · exact HS.out j (by omega)
          generalize signRows.getD (k * 4) 0 = y0 at t0 hno
          generalize signRows.getD (k * 4 + 1) 0 = y1 at t1 hno
          generalize signRows.getD (k * 4 + 2) 0 = y2 at t2 hno
          generalize signRows.getD (k * 4 + 3) 0 = y3 at t3 hno
          clear hso hT hbel hr
          generalize sg p r = z0 at s0 hno
          generalize sg p s = z1 at s1 hno
          generalize sg q r = z2 at s2 hno
          generalize sg q s = z3 at s3 hno
          have S0 := hid s0
          have S1 := hid s1
          have S2 := hid s2
          have S3 := hid s3
          have hE : ∀ w', (Op.equalIn 10000 93 (.agg #[.int .i64 y0, .int .i64 y1, .int .i64 y2, .int .i64 y3]) (.agg #[.int .i64 z0, .int .i64 z1, .int .i64 z2, .int .i64 z3])).run Tryd.prog w' = .ok false w' := fun w' => by
            rw [eq4_run]
            congr 1
            rw [Bool.eq_false_iff]
            intro h
            simp only [Bool.and_eq_true, beq_iff_eq] at h
            exact hno h
          clear hno
          go_wp2
          go_region_held3 (fun w' => w'.cell? ⟨1, k * 4, none⟩ = some (.int .i64 y0) ∧ w'.cell? ⟨1, k * 4 + 1, none⟩ = some (.int .i64 y1) ∧ w'.cell? ⟨1, k * 4 + 2, none⟩ = some (.int .i64 y2) ∧ w'.cell? ⟨1, k * 4 + 3, none⟩ = some (.int .i64 y3) ∧
            w'.cell? ⟨w2.heap.size, 0, none⟩ = some (.int .i64 z0) ∧ w'.cell? ⟨w2.heap.size, 1, none⟩ = some (.int .i64 z1) ∧ w'.cell? ⟨w2.heap.size, 2, none⟩ = some (.int .i64 z2) ∧ w'.cell? ⟨w2.heap.size, 3, none⟩ = some (.int .i64 z3)) (go_keep) (fail)
          go_wp2
          go_roundw
          case rel => exact ⟨k + 1, by omega, by go_num, hst.out, ⟨S0.out, S1.out, S2.out, S3.out⟩, fun i hi => HT2.out i hi, HB.out.drew⟩
          case measure => simp [intOf]; omega
      · obtain ⟨k', hk', hr⟩ := some_row (a := (p, q)) (b := (r, s)) ((spB_iff _).1 ha).2.1 ((spB_iff _).1 hb).2.1
        exact absurd hr (hso k' (by omega))
end Go.Proofs.YtobkockikpgcoaaDoor
