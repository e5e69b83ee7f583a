/-
  impl.lateIn: the jobs that are late in slots, in memory of its own. Nothing old is written.
-/
import Derived.Test.YtobkockikpgcoabISlots
import Derived.Test.YtobkockikpgcoabRFMarks
import Derived.Test.YtobkockikpgcoabLateKit
import Derived.Test.YtobkockikpgcoabOwnsSame
import Derived.Maps.AppendAt
namespace Go.Proofs.Ytobkockikpgcoab
open Go.RowKit Go.Shelf
attribute [local go_sem] Oper.semAt_some

theorem slots_stops (n : Nat) (hn : 1 ≤ n) (B1 B2 gs os len cap k : Nat) (s : Nat → Int) (hlen : len ≤ 1000) (w : World) (h1 : B1 < w.heap.size) (h2 : B2 < w.heap.size) (h3 : gs < w.heap.size)
    (hb1 : w.cell? ⟨B1, 0, none⟩ = some (.slice (some ⟨gs, os, none⟩) len cap)) (hb2 : w.cell? ⟨B2, 0, none⟩ = some (.int .i64 k)) (hc : ∀ i, i < len → w.cell? ⟨gs, os + i, none⟩ = some (.int .i64 (s i))) :
    SeqStopsK Fence.wide n Try.prog 41 #[.pointer (some ⟨B1, 0, none⟩), .pointer (some ⟨B2, 0, none⟩)] encS (KeepS B2 gs) (fun ys => ys = occU s k len) (fun pre => pre <+: occU s k len) 1000 w := fun l J Jx W hW _ _ hY h0 =>
  slots1_in n hn l B1 B2 gs os len cap k s J Jx hlen hY W ((hW.cell (p := ⟨B1, 0, none⟩) h1).trans hb1) ((hW.cell (p := ⟨B2, 0, none⟩) h2).trans hb2) (fun i hi => (hW.cell (p := ⟨gs, os + i, none⟩) h3).trans (hc i hi)) h0

set_option maxRecDepth 100000 in
set_option maxHeartbeats 8000000 in
theorem ilate_any (v vs : Value) (xs : List JbEl) (ss : List Int) (w : World) (hr : JbReads w v xs) (hs : KReads w vs ss) (hg : goodJ xs = true) (h24 : ss.length = 24) :
    Calls Try.prog 21 #[v, vs] w fun e w' => ∃ u, e = .returned u ∧ KOwn w.heap.size w'.heap.size w' u (lateL xs ss) ∧ Below w.heap.size w w' := by
  have HR := hid hr
  have HG := hid hg
  have hlen := goodJ_len hg
  obtain ⟨a, cap, rfl, _, _⟩ := hr
  obtain ⟨gs, os, caps, rfl, hcaps, hcs⟩ := kcells_at hs (by omega)
  rw [h24] at hcs hcaps ⊢
  have HC := hid hcs
  have hgs : gs < w.heap.size := lt_of_cell (hcs 0 (by omega))
  obtain ⟨i0, hi, hz0, hz1, hz2⟩ := info_parts info_int
  clear hg hs hcs h24
  refine (callsIn_wide (n := 9)).1 ?_
  refine callsIn_of_wp_marks Try.func21 rfl trivial ?_ rfl
  simp only [Try.ntmps21, List.size_toArray, List.length_cons, List.length_nil, Nat.reduceAdd, Nat.reduceSub, Array.replicate_succ, Array.replicate_zero, List.push_toArray, List.append_toArray, List.nil_append, List.cons_append]
  gi_wp2
  refine wpIn_loop (fun a' W => ∃ (ds : List Deferred) (k : Nat) (o i u6 u7 u8 u12 u13 u14 u15 u16 u17 u18 u19 u20 u21 u22 u23 u24 u25 u26 u27 u28 u29 u30 u31 u32 u33 : Value), (k ≤ xs.length ∧ i = .int .i64 k ∧ W.ownsRow w.heap.size 3 1 o (lateU xs ss k).length (kflat (lateU xs ss k)) ∧ Below w.heap.size w W ∧ Marks W w.heap.size W.heap.size ds) ∧ a' = { tmps := #[.slice a xs.length cap, .slice (some ⟨gs, os, none⟩) 24 caps, undef, undef, .slice none 0 0, o, u6, u7, u8, .slice a xs.length cap, .int .i64 (xs.length : Int), i, u12, u13, u14, u15, u16, u17, u18, u19, u20, u21, u22, u23, u24, u25, u26, u27, u28, u29, u30, u31, u32, u33, undef], defers := ds })
    (fun a' _ => xs.length - (intOf (a'.tmps.getD 11 undef)).toNat) ?_ ?_
  · exact ⟨[], 0, _, _, _, _, _, _, _, _, _, _, _, _, _, _, _, _, _, _, _, _, _, _, _, _, _, _, _, ⟨Nat.zero_le _, rfl, World.ownsRow_nil _ _ _ _, Below.refl _ _, trivial⟩, rfl⟩
  · rintro _ wr ⟨ds, k, o, i, u6, u7, u8, u12, u13, u14, u15, u16, u17, u18, u19, u20, u21, u22, u23, u24, u25, u26, u27, u28, u29, u30, u31, u32, u33, ⟨hk, rfl, hrow, hbel, hmk⟩, rfl⟩
    have HRow := hid hrow
    have HB := hid hbel
    have HM := hid hmk
    clear hrow hbel hmk
    by_cases hlt : k < xs.length
    · obtain ⟨g, o', cap', e, hc⟩ := (HR.out.below HB.out).cells k hlt
      cases e
      obtain ⟨p, hp⟩ : ∃ p, p = (xs.getD k (0, 0, 0)).1 := ⟨_, rfl⟩
      obtain ⟨q, hq⟩ : ∃ q, q = (xs.getD k (0, 0, 0)).2.1 := ⟨_, rfl⟩
      obtain ⟨r, hr⟩ : ∃ r, r = (xs.getD k (0, 0, 0)).2.2 := ⟨_, rfl⟩
      obtain ⟨c0, c1, c2⟩ := hc k hlt
      rw [← hp] at c0
      rw [← hq] at c1
      rw [← hr] at c2
      have hj := jobB_in (goodJ_at HG.out k hlt)
      rw [← hp, ← hq, ← hr] at hj
      obtain ⟨E, rfl⟩ : ∃ E : Nat, r = (E : Int) := ⟨r.toNat, by omega⟩
      have HLB : Hid (lateB xs ss k = decide (cS (sl ss) k E < q)) := by
        show decide _ = _
        rw [← hq, ← hr, Int.toNat_natCast]
      have hll := length_lateU xs ss k
      have hE : E ≤ 24 := by omega
      have hE1 : (0 : Int) ≤ (E : Int) := by omega
      have hE2 : (E : Int) ≤ (caps : Int) := by omega
      clear hc hp hq hr
      gi_wp2_with (refine ⟨trivial, ?_⟩; gi_at_call 33; refine (callsIn_wide.2 (slotsOf_any _ E _ k _)).mono ?_; rintro e w2 ⟨rfl, hw2⟩; have HW := hid hw2; clear hw2)
      have hB2 : Below wr.heap.size wr w2 := by rw [HW.out]; exact ((((Below.refl _ _).alloc (Nat.le_refl _) _).alloc (by simp) _).alloc (by simp; omega) _).alloc (by simp; omega) _
      have hsz2 : w2.heap.size = wr.heap.size + 4 := by rw [HW.out]; simp
      have hbx0 : Boxed w2 (wr.heap.size + 1) 3 (.int .i64 q) := by
        have := Boxed.new (wr.alloc (.cells #[.int .i64 p, .int .i64 q, .int .i64 (E : Int)] 34)) 3 (.int .i64 q)
        rw [World.size_alloc] at this
        rw [HW.out]
        exact (this.alloc _).alloc _
      have hbx1 : Boxed w2 (wr.heap.size + 1 + 1) 46 (.slice (some ⟨gs, os, none⟩) E caps) := by
        have := Boxed.new ((wr.alloc (.cells #[.int .i64 p, .int .i64 q, .int .i64 (E : Int)] 34)).alloc (.cells #[.int .i64 q] 3)) 46 (.slice (some ⟨gs, os, none⟩) E caps)
        simp only [World.size_alloc] at this
        rw [HW.out]
        exact this.alloc _
      have hbx2 : Boxed w2 (wr.heap.size + 1 + 1 + 1) 3 (.int .i64 k) := by
        have := Boxed.new (((wr.alloc (.cells #[.int .i64 p, .int .i64 q, .int .i64 (E : Int)] 34)).alloc (.cells #[.int .i64 q] 3)).alloc (.cells #[.slice (some ⟨gs, os, none⟩) E caps] 46)) 3 (.int .i64 k)
        simp only [World.size_alloc] at this
        rw [HW.out]
        exact this
      have hgr : gs < wr.heap.size := Nat.lt_of_lt_of_le hgs HB.out.size
      have hwr : w.heap.size ≤ wr.heap.size := HB.out.size
      clear HW
      refine wpIn_rangeFunc_ownF rfl (by omega) (gf := 41) (lb := #[.pointer (some ⟨wr.heap.size + 1 + 1, 0, none⟩), .pointer (some ⟨wr.heap.size + 1 + 1 + 1, 0, none⟩)]) rfl trivial (enters_of Try.func41 (by kernel_rfl) rfl)
        (slots_stops 8 (by omega) (wr.heap.size + 1 + 1) (wr.heap.size + 1 + 1 + 1) gs os E caps k (sl ss) (by omega) w2 (by omega) (by omega) (by omega) hbx1.cell hbx2.cell (fun i hi => (hB2.cell (p := ⟨gs, os + i, none⟩) hgr).trans ((HB.out.cell (p := ⟨gs, os + i, none⟩) hgs).trans (HC.out i (by omega)))))
        (fun h k => KeepS.t h k) (KeepS.b (by omega) (by omega)) (Below.refl _ _) (fun _ => rfl)
        (fun pre W => Boxed W (wr.heap.size + 1) 3 (.int .i64 (q - (pre.length : Int))) ∧ Below wr.heap.size wr W)
        (fun _ _ _ => False)
        (OwnFrom.and (Go.Own.from (boxed_own (β := List Nat) (wr.heap.size + 1) 3 (fun s => .int .i64 (q - (s.length : Int)))) _) (ownFrom_below (Nat.le_refl _) (by omega)))
        (fun _ _ _ _ _ hs _ _ => hs)
        ⟨by simpa using hbx0, hB2⟩
        (fun x => { tmps := #[.slice (some ⟨g, o', none⟩) xs.length cap, .slice (some ⟨gs, os, none⟩) 24 caps, undef, undef, .slice none 0 0, o, .int .i64 k, .pointer (some ⟨wr.heap.size, 0, none⟩), .pointer (some ⟨wr.heap.size + 1, 0, none⟩), .slice (some ⟨g, o', none⟩) xs.length cap, .int .i64 (xs.length : Int), .int .i64 k, .bool true, .int .i64 k, .pointer (some ⟨g, o' + k * 3, none⟩), .agg #[.int .i64 p, .int .i64 q, .int .i64 (E : Int)], .pointer (some ⟨wr.heap.size, 1, none⟩), .int .i64 q, .slice (some ⟨gs, os, none⟩) 24 caps, .pointer (some ⟨wr.heap.size, 2, none⟩), .int .i64 (E : Int), .slice (some ⟨gs, os, none⟩) E caps, .int .i64 k, .func (.func 41) #[] #[.pointer (some ⟨wr.heap.size + 1 + 1, 0, none⟩), .pointer (some ⟨wr.heap.size + 1 + 1 + 1, 0, none⟩)], .int .i64 (x : Int), u25, u26, u27, u28, u29, u30, u31, u32, u33, undef], defers := [] }) ?assign ?body ?done ?stop
      case assign =>
        intro l x W K hK
        gi_wp2
        exact hK
      case body =>
        rintro l pre x W ⟨hbx, hbW⟩ hpl
        have hc := hbx.cell
        have hf := hbx.frozen
        have hw1 : IntKind.i64.wrap (q - (pre.length : Int) - 1) = q - (pre.length : Int) - 1 := by rw [IntKind.wrap_i64]; omega
        have HX := hid hbx
        have HBW := hid hbW
        clear hbx hbW
        gi_wp2
        refine ⟨KeepsOthers.setCell _ _ _, ⟨Below.heap_setCell _ _ _ _ (by show _ ≠ _; simp only []; omega), Below.heap_setCell _ _ _ _ (by simp; omega)⟩, ?_, HBW.out.setCell (by simp) _⟩
        have := HX.out.set (.int .i64 (q - (pre.length : Int) - 1))
        rw [show q - ((pre ++ [x]).length : Int) = q - (pre.length : Int) - 1 by simp; omega]
        exact this
      case done =>
        rintro D ys W hD rfl ⟨hbx, hbW⟩ hK
        rw [occU_len] at hbx
        obtain ⟨c, hc⟩ : ∃ c, c = cS (sl ss) k E := ⟨_, rfl⟩
        rw [← hc] at hbx HLB
        have hcell := hbx.cell
        have HBW := hid hbW
        have HRW : Hid (W.ownsRow w.heap.size 3 1 o (lateU xs ss k).length (kflat (lateU xs ss k))) := owns_same HRow.out (fun g _ _ hg => HBW.out.block g (Array.getElem?_eq_some_iff.1 hg).1)
        have HMW := hid ((HM.out.below HBW.out).cons (D := D) (by omega) (by omega) hK)
        have HBB : Hid (Below w.heap.size w W) := HB.out.trans (HBW.out.mono hwr)
        have hsW := HBW.out.size
        clear hbx hbW hK hc HRow HM HB
        by_cases hcq : c < q
        · have HV : Hid (lateU xs ss (k + 1) = lateU xs ss k ++ [(k : Int)]) := by
            show (if _ then _ else _) = _
            rw [HLB.out, if_pos (by simpa using hcq)]
          have hd : decide (0 < q - c) = true := by simp; omega
          clear HLB
          gi_wp2_with (gi_at_builtin; refine wpListIn_append_own _ rfl _ _ 46 rfl w.heap.size 3 i0 (.int .i64 0) 1 8 Try.underlying46 hi hz0 hz1 hz2 rfl (by decide) _ _ _ rfl (HRW.out.alloc _) ⟨W.heap.size, 0, none⟩ 1 1 [.int .i64 (k : Int)] rfl rfl (cell_one_new _ _ _) (by simp [Value.oneCell']) (by unfold maxLen; omega) (by omega) (by simp; omega) ?_; intro v' w1 hown' hgrow _; obtain ⟨g', capn, rfl⟩ := ownsRow_succ hown')
          have HRn : Hid (w1.ownsRow w.heap.size 3 1 (.slice (some ⟨g', 0, none⟩) ((lateU xs ss k).length + 1) capn) (lateU xs ss (k + 1)).length (kflat (lateU xs ss (k + 1)))) := by
            show World.ownsRow _ _ _ _ _ _ _
            rw [HV.out, kflat_append, List.length_append]
            exact hown'
          have HBn : Hid (Below w.heap.size w w1) := grown_below HBB.out (by omega) hgrow (owns_base HRW.out) (Nat.le_refl _)
          have hgrow2 : World.grownBy _ w1 o.ownBlock := hgrow
          have hko : KeepsOthers W w1 := (KeepsOthers.alloc W _).trans (KeepsOthers.of_grownBy hgrow2 (fun j ob ej hj => by
            rcases (HRW.out.alloc _).2 with ⟨rfl, _⟩ | ⟨gg, _, _, rfl, _, hgb, _⟩
            · simp [Value.ownBlock] at ej
            · obtain rfl : gg = j := by simpa [Value.ownBlock] using ej
              rw [hgb] at hj; cases hj; rfl))
          have HMn := hid ((HMW.out.others hko).up hko.size)
          exact ⟨⟨_, k + 1, _, _, _, _, _, _, _, _, _, _, _, _, _, _, _, _, _, _, _, _, _, _, _, _, _, _, _, ⟨by omega, by go_num, HRn.out, HBn.out, HMn.out⟩, rfl⟩, by simp [intOf]; omega⟩
        · have HV : Hid (lateU xs ss (k + 1) = lateU xs ss k) := by
            show (if _ then _ else _) = _
            rw [HLB.out, if_neg (by simpa using hcq)]
          have hd : decide (0 < q - c) = false := by simp; omega
          have HRn : Hid (W.ownsRow w.heap.size 3 1 o (lateU xs ss (k + 1)).length (kflat (lateU xs ss (k + 1)))) := by
            show World.ownsRow _ _ _ _ _ _ _
            rw [HV.out]
            exact HRW.out
          clear HLB
          gi_wp2
          exact ⟨⟨_, k + 1, o, .int .i64 ((k : Int) + 1), ⟨by omega, by go_num, HRn.out, HBB.out, HMW.out⟩, ⟨rfl, rfl⟩, rfl⟩, by simp [intOf]; omega⟩
      case stop =>
        rintro D c pre W _ _ h _
        exact h.elim
    · obtain rfl : k = xs.length := by omega
      have hll := length_lateU xs ss xs.length
      gi_wp2
      refine leaves_marks ds wr.heap.size wr HB.out.size HM.out fun W' hb hc hs => ?_
      exact ⟨_, results_tmp rfl _ _ _, o, rfl, KOwn.of_owns (owns_same HRow.out (fun g cur z hg => (hc g cur _ z hg).trans hg.symm)) (by show (lateU xs ss xs.length).length ≤ _; omega), HB.out.trans hb⟩
end Go.Proofs.Ytobkockikpgcoab
