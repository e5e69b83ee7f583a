/-
  impl.isSchedule: whether slots are a schedule of jobs, job by job. Nothing old is written.
-/
import Derived.Test.YtobkockikpgcoavILate
namespace Go.Proofs.Ytobkockikpgcoav
open Go.RowKit Go.Shelf
attribute [local go_sem] Oper.semAt_some

theorem occ_at (s : Nat → Int) (k n i : Nat) (h : i < (occU s k n).length) : (occU s k n).getD i 0 < n ∧ s ((occU s k n).getD i 0) = (k : Int) ∧ cS s k ((occU s k n).getD i 0) = (i : Int) := by
  induction n with
  | zero => simp [occU] at h
  | succ n ih =>
    unfold occU at h ⊢
    split
    · rename_i e
      rw [if_pos e] at h
      by_cases hi : i < (occU s k n).length
      · have := ih hi
        rw [show (occU s k n ++ [n]).getD i 0 = (occU s k n).getD i 0 by simp [List.getD_eq_getElem?_getD, List.getElem?_append_left hi]]
        exact ⟨by omega, this.2⟩
      · have hi2 : i = (occU s k n).length := by rw [List.length_append] at h; simp at h; omega
        rw [show (occU s k n ++ [n]).getD i 0 = n by rw [hi2]; simp [List.getD_eq_getElem?_getD]]
        exact ⟨by omega, e, by rw [hi2, occU_len]⟩
    · rename_i e
      rw [if_neg e] at h
      have := ih h
      exact ⟨by omega, this.2⟩
theorem occ_of (s : Nat → Int) (k n t : Nat) (ht : t < n) (e : s t = (k : Int)) : ∃ i, i < (occU s k n).length ∧ (occU s k n).getD i 0 = t := by
  induction n with
  | zero => omega
  | succ n ih =>
    unfold occU
    by_cases hn : t = n
    · subst hn
      rw [if_pos e]
      exact ⟨(occU s k t).length, by simp, by simp [List.getD_eq_getElem?_getD]⟩
    · obtain ⟨i, hi, he⟩ := ih (by omega)
      split
      · exact ⟨i, by rw [List.length_append]; omega, by rw [show (occU s k n ++ [n]).getD i 0 = (occU s k n).getD i 0 by simp [List.getD_eq_getElem?_getD, List.getElem?_append_left hi]]; exact he⟩
      · exact ⟨i, hi, he⟩
/-- The places so far are none ahead of its start, and no more than are needed. -/
def okPre (p q : Int) (pre : List Nat) : Prop := ∀ i, i < pre.length → p ≤ ((pre.getD i 0 : Nat) : Int) ∧ (i : Int) < q
theorem okPre_snoc {p q : Int} {pre : List Nat} {x : Nat} (h : okPre p q pre) (h1 : p ≤ (x : Int)) (h2 : (pre.length : Int) < q) : okPre p q (pre ++ [x]) := by
  intro i hi
  by_cases hl : i < pre.length
  · have := h i hl
    rwa [show (pre ++ [x]).getD i 0 = pre.getD i 0 by simp [List.getD_eq_getElem?_getD, List.getElem?_append_left hl]]
  · have e : i = pre.length := by rw [List.length_append] at hi; simp at hi; omega
    rw [show (pre ++ [x]).getD i 0 = x by rw [e]; simp [List.getD_eq_getElem?_getD], e]
    exact ⟨h1, h2⟩
theorem okPre_len {p q : Int} {pre : List Nat} (h : okPre p q pre) (hq : 0 ≤ q) : (pre.length : Int) ≤ q := by
  by_cases h0 : pre.length = 0
  · omega
  · have := (h (pre.length - 1) (by omega)).2
    omega
theorem marks_own {β : Type} {n0 n1 B : Nat} {ds : List Deferred} (h : n1 ≤ B) : OwnFrom B (fun (_ : β) W => Marks W n0 n1 ds) := fun _ W W' row hs hg hr => hs.keep fun k hk hh => by
  refine (hg.block k (Array.getElem?_eq_some_iff.1 hh).1 (fun e => ?_)).trans hh
  have := (hr k e.symm).1
  omega

set_option maxRecDepth 100000 in
set_option maxHeartbeats 8000000 in
theorem isched_eq (v vs : Value) (xs : List JbEl) (ss : List Int) (t0 : Bool) (ht0 : schedB xs ss = t0) (w : World) (hr : JbReads w v xs) (hs : KReads w vs ss) (hg : goodJ xs = true) (hgs : goodS xs.length ss = true) :
    Calls Try.prog 35 #[v, vs] w fun e w' => e = .returned (.bool t0) ∧ Below w.heap.size w w' := by
  have HR := hid hr
  have HG := hid hg
  have HT := hid ht0
  have HGS := hid hgs
  have hlen := goodJ_len hg
  have h24 := goodS_len hgs
  obtain ⟨a, cap, rfl, _, _⟩ := hr
  obtain ⟨gs, os, caps, rfl, hcaps, hcs⟩ := kcells_at hs (by omega)
  rw [h24] at hcs hcaps ⊢
  have HC := hid hcs
  have hgsl : gs < w.heap.size := lt_of_cell (hcs 0 (by omega))
  clear hg hs hcs h24 hgs ht0
  refine (callsIn_wide (n := 9)).1 ?_
  refine callsIn_of_wp_marks Try.func35 rfl trivial ?_ rfl
  simp only [Try.ntmps35, List.size_toArray, List.length_cons, List.length_nil, Nat.reduceAdd, Nat.reduceSub, Array.replicate_succ, Array.replicate_zero, List.push_toArray, List.append_toArray, List.nil_append, List.cons_append]
  gi_wp2
  refine wpIn_loop (fun a' W => ∃ (ds : List Deferred) (k : Nat) (i u5 u6 u7 u8 u12 u13 u14 u15 u16 u17 u18 u19 u20 u21 u22 u23 u24 u25 u26 u27 u28 u29 u30 u31 u32 : Value), (k ≤ xs.length ∧ i = .int .i64 k ∧ (∀ j t, j < k → t < 24 → sl ss t = (j : Int) → jobOk xs ss j t = true) ∧ Boxed W w.heap.size 4 (.bool false) ∧ Below w.heap.size w W ∧ Marks W w.heap.size W.heap.size ds) ∧ a' = { tmps := #[.slice a xs.length cap, .slice (some ⟨gs, os, none⟩) 24 caps, undef, undef, .pointer (some ⟨w.heap.size, 0, none⟩), u5, u6, u7, u8, .slice a xs.length cap, .int .i64 (xs.length : Int), i, u12, u13, u14, u15, u16, u17, u18, u19, u20, u21, u22, u23, u24, u25, u26, u27, u28, u29, u30, u31, u32], defers := ds })
    (fun a' _ => xs.length - (intOf (a'.tmps.getD 11 undef)).toNat) ?_ ?_
  · exact ⟨[], 0, _, _, _, _, _, _, _, _, _, _, _, _, _, _, _, _, _, _, _, _, _, _, _, _, _, _, ⟨Nat.zero_le _, rfl, fun j t h => by omega, Boxed.new w 4 _, (Below.refl _ _).alloc (Nat.le_refl _) _, trivial⟩, rfl⟩
  · rintro _ wr ⟨ds, k, i, u5, u6, u7, u8, u12, u13, u14, u15, u16, u17, u18, u19, u20, u21, u22, u23, u24, u25, u26, u27, u28, u29, u30, u31, u32, ⟨hk, rfl, hok, hbr, hbel, hmk⟩, rfl⟩
    have HO := hid hok
    have HBR := hid hbr
    have HB := hid hbel
    have HM := hid hmk
    have hwr : w.heap.size < wr.heap.size := hbr.lt
    clear hok hbr hbel hmk
    by_cases hlt : k < xs.length
    · obtain ⟨g, o', cap', e, hc⟩ := (HR.out.below HB.out).cells k hlt
      cases e
      obtain ⟨p, hp⟩ : ∃ p, p = (xs.getD k (0, 0, 0)).1 := ⟨_, rfl⟩
      obtain ⟨q, hq⟩ : ∃ q, q = (xs.getD k (0, 0, 0)).2.1 := ⟨_, rfl⟩
      obtain ⟨r, hr⟩ : ∃ r, r = (xs.getD k (0, 0, 0)).2.2 := ⟨_, rfl⟩
      obtain ⟨c0, c1, c2⟩ := hc k hlt
      rw [← hp] at c0
      rw [← hq] at c1
      rw [← hr] at c2
      have hj := jobB_in (goodJ_at HG.out k hlt)
      rw [← hp, ← hq, ← hr] at hj
      have HJ : Hid (∀ t, jobOk xs ss k t = (decide (p ≤ (t : Int)) && decide (cS (sl ss) k t < q))) := fun t => by rw [hp, hq]; rfl
      clear hc hp hq hr
      gi_wp2_with (refine ⟨trivial, ?_⟩; gi_at_call 50; refine (callsIn_wide.2 (slotsOf_any _ 24 _ k _)).mono ?_; rintro e w2 ⟨rfl, hw2⟩; have HW := hid hw2; clear hw2)
      have hB2 : Below wr.heap.size wr w2 := by rw [HW.out]; exact ((((Below.refl _ _).alloc (Nat.le_refl _) _).alloc (by simp) _).alloc (by simp; omega) _).alloc (by simp; omega) _
      have hsz2 : w2.heap.size = wr.heap.size + 4 := by rw [HW.out]; simp
      have hxc : w2.cell? ⟨wr.heap.size, 0, none⟩ = some (.int .i64 p) := by
        rw [HW.out, World.cell?_alloc_lt _ _ _ (by simp; omega), World.cell?_alloc_lt _ _ _ (by simp; omega), World.cell?_alloc_lt _ _ _ (by simp)]
        simp
      have hbx0 : Boxed w2 (wr.heap.size + 1) 3 (.int .i64 q) := by
        have := Boxed.new (wr.alloc (.cells #[.int .i64 p, .int .i64 q, .int .i64 r] 47)) 3 (.int .i64 q)
        rw [World.size_alloc] at this
        rw [HW.out]
        exact (this.alloc _).alloc _
      have hbx1 : Boxed w2 (wr.heap.size + 1 + 1) 24 (.slice (some ⟨gs, os, none⟩) 24 caps) := by
        have := Boxed.new ((wr.alloc (.cells #[.int .i64 p, .int .i64 q, .int .i64 r] 47)).alloc (.cells #[.int .i64 q] 3)) 24 (.slice (some ⟨gs, os, none⟩) 24 caps)
        simp only [World.size_alloc] at this
        rw [HW.out]
        exact this.alloc _
      have hbx2 : Boxed w2 (wr.heap.size + 1 + 1 + 1) 3 (.int .i64 k) := by
        have := Boxed.new (((wr.alloc (.cells #[.int .i64 p, .int .i64 q, .int .i64 r] 47)).alloc (.cells #[.int .i64 q] 3)).alloc (.cells #[.slice (some ⟨gs, os, none⟩) 24 caps] 24)) 3 (.int .i64 k)
        simp only [World.size_alloc] at this
        rw [HW.out]
        exact this
      have hgr : gs < wr.heap.size := by omega
      clear HW
      refine wpIn_rangeFunc_ownF rfl (by omega) (gf := 56) (lb := #[.pointer (some ⟨wr.heap.size + 1 + 1, 0, none⟩), .pointer (some ⟨wr.heap.size + 1 + 1 + 1, 0, none⟩)]) rfl trivial (enters_of Try.func56 (by kernel_rfl) rfl)
        (slots_stops 8 (by omega) (wr.heap.size + 1 + 1) (wr.heap.size + 1 + 1 + 1) gs os 24 caps k (sl ss) (by omega) w2 (by omega) (by omega) (by omega) hbx1.cell hbx2.cell (fun i hi => (hB2.cell (p := ⟨gs, os + i, none⟩) hgr).trans ((HB.out.cell (p := ⟨gs, os + i, none⟩) hgsl).trans (HC.out i hi))))
        (fun h k => KeepS.t h k) (KeepS.b (by omega) (by omega)) (Below.refl _ _) (fun _ => rfl)
        (fun pre W => (Boxed W (wr.heap.size + 1) 3 (.int .i64 (q - (pre.length : Int))) ∧ W.cell? ⟨wr.heap.size, 0, none⟩ = some (.int .i64 p) ∧ okPre p q pre) ∧ Below wr.heap.size wr W)
        (fun c pre W => ((c = .ret ∧ ∃ pre' x, pre = pre' ++ [x] ∧ okPre p q pre' ∧ ¬ (p ≤ ((x : Nat) : Int) ∧ (pre'.length : Int) < q)) ∧ Boxed W w.heap.size 4 (.bool false)) ∧ (Below w.heap.size w W ∧ Marks W w.heap.size wr.heap.size ds))
        (OwnFrom.and (Go.Own.from (fun s A B row hs hg hr => ⟨boxed_own (β := List Nat) (wr.heap.size + 1) 3 (fun s => .int .i64 (q - (s.length : Int))) s A B row hs.1 hg hr, cell_kept hs.2.1 hg hr, hs.2.2⟩) _) (ownFrom_below (Nat.le_refl _) (by omega)))
        (fun c => OwnFrom.and (Go.Own.from (fun s A B row hs hg hr => ⟨hs.1, boxed_own (β := List Nat) w.heap.size 4 (fun _ => .bool false) s A B row hs.2 hg hr⟩) _) (OwnFrom.and (ownFrom_below (Nat.le_refl _) (by omega)) (marks_own (by omega))))
        ⟨⟨by simpa using hbx0, hxc, fun i hi => by simp at hi⟩, hB2⟩
        (fun x => { tmps := #[.slice (some ⟨g, o', none⟩) xs.length cap, .slice (some ⟨gs, os, none⟩) 24 caps, undef, undef, .pointer (some ⟨w.heap.size, 0, none⟩), .int .i64 k, .pointer (some ⟨wr.heap.size, 0, none⟩), .pointer (some ⟨wr.heap.size + 1, 0, none⟩), .int .i64 (x : Int), .slice (some ⟨g, o', none⟩) xs.length cap, .int .i64 (xs.length : Int), .int .i64 k, .bool true, .int .i64 k, .pointer (some ⟨g, o' + k * 3, none⟩), .agg #[.int .i64 p, .int .i64 q, .int .i64 r], .pointer (some ⟨wr.heap.size, 1, none⟩), .int .i64 q, .slice (some ⟨gs, os, none⟩) 24 caps, .int .i64 k, .func (.func 56) #[] #[.pointer (some ⟨wr.heap.size + 1 + 1, 0, none⟩), .pointer (some ⟨wr.heap.size + 1 + 1 + 1, 0, none⟩)], .int .i64 (x : Int), u22, u23, u24, u25, u26, u27, u28, u29, u30, u31, u32], defers := [] }) ?assign ?body ?done ?stop
      case assign =>
        intro l x W K hK
        gi_wp2
        exact hK
      case body =>
        rintro l pre x W ⟨⟨hbx, hxc, hpre⟩, hbW⟩ hpl
        have hpq := okPre_len hpre (by omega)
        have HX := hid hbx
        have HP := hid hpre
        have HBW := hid hbW
        have HXC := hid hxc
        have HRB := hid (boxed_below HBR.out hbW hwr)
        have HBW2 : Hid (Below w.heap.size w W) := HB.out.trans (hbW.mono (by omega))
        have HMW := hid (HM.out.below hbW)
        have rc := HRB.out.cell
        have rf := HRB.out.frozen
        have hc := hbx.cell
        have hf := hbx.frozen
        clear hbx hpre hbW
        by_cases h1 : (x : Int) < p
        · gi_wp2
          exact ⟨KeepsOthers.setCell _ _ _, ⟨⟨rfl, pre, x, rfl, HP.out, by omega⟩, HRB.out.set _⟩, HBW2.out.setCell (p := ⟨w.heap.size, 0, none⟩) (Nat.le_refl _) _, HMW.out.others (KeepsOthers.setCell _ _ _)⟩
        have d1 : decide ((x : Int) < p) = false := by simp; omega
        by_cases h2 : q - (pre.length : Int) = 0
        · have d2 : (q - (pre.length : Int) == 0) = true := by simpa using h2
          gi_wp2
          exact ⟨KeepsOthers.setCell _ _ _, ⟨⟨rfl, pre, x, rfl, HP.out, by omega⟩, HRB.out.set _⟩, HBW2.out.setCell (p := ⟨w.heap.size, 0, none⟩) (Nat.le_refl _) _, HMW.out.others (KeepsOthers.setCell _ _ _)⟩
        have d2 : (q - (pre.length : Int) == 0) = false := by rw [beq_eq_false_iff_ne]; exact h2
        have hw1 : IntKind.i64.wrap (q - (pre.length : Int) - 1) = q - (pre.length : Int) - 1 := by rw [IntKind.wrap_i64]; omega
        gi_wp2
        refine ⟨KeepsOthers.setCell _ _ _, ⟨Below.heap_setCell _ _ _ _ (by show _ ≠ _; simp only []; omega), Below.heap_setCell _ _ _ _ (by simp; omega)⟩, ⟨?_, ?_, okPre_snoc HP.out (by omega) (by omega)⟩, HBW.out.setCell (by simp) _⟩
        · have := HX.out.set (.int .i64 (q - (pre.length : Int) - 1))
          rw [show q - ((pre ++ [x]).length : Int) = q - (pre.length : Int) - 1 by simp; omega]
          exact this
        · rw [World.cell?_setCell_other _ _ _ _ (by simp)]
          exact HXC.out
      case done =>
        rintro D ys W hD rfl ⟨⟨hbx, hxc, hpre⟩, hbW⟩ hK
        have HON : Hid (∀ j t, j < k + 1 → t < 24 → sl ss t = (j : Int) → jobOk xs ss j t = true) := fun j t h1 h2 h3 => by
          by_cases e : j = k
          · subst e
            obtain ⟨i, hi, he⟩ := occ_of (sl ss) j 24 t h2 h3
            have h4 := occ_at (sl ss) j 24 i hi
            have h5 := hpre i hi
            rw [he] at h4 h5
            rw [HJ.out, h4.2.2, decide_eq_true h5.1, decide_eq_true h5.2]
            rfl
          · exact HO.out j t (by omega) h2 h3
        have HRB := hid (boxed_below HBR.out hbW hwr)
        have HBB : Hid (Below w.heap.size w W) := HB.out.trans (hbW.mono (by omega))
        have HMW := hid ((HM.out.below hbW).cons (D := D) (by omega) (by omega) hK)
        clear hbx hxc hpre hbW hK
        gi_wp2
        exact ⟨⟨_, k + 1, _, _, _, _, _, _, _, _, _, _, _, _, _, _, _, _, _, _, _, _, _, _, _, _, _, _, ⟨by omega, by go_num, HON.out, HRB.out, HBB.out, HMW.out⟩, rfl⟩, by simp [intOf]; omega⟩
      case stop =>
        rintro D c pre W hD hpr ⟨⟨⟨rfl, pre', x, rfl, hpre, hno⟩, hbx⟩, hbW, hmk⟩ hK
        have hv : Hid (t0 = false) := by
          show _ = _
          obtain ⟨rest, hrest⟩ := hpr
          have hi : pre'.length < (occU (sl ss) k 24).length := by rw [← hrest]; simp
          have hx : (occU (sl ss) k 24).getD pre'.length 0 = x := by rw [← hrest]; simp [List.getD_eq_getElem?_getD]
          have h4 := occ_at (sl ss) k 24 pre'.length hi
          rw [hx] at h4
          rw [← HT.out]
          refine schedB_no h4.1 h4.2.1 ?_
          rw [HJ.out, h4.2.2, Bool.and_eq_false_iff, decide_eq_false_iff_not, decide_eq_false_iff_not]
          omega
        have HBX := hid hbx
        have HBB := hid hbW
        have HMW := hid (hmk.cons (D := D) (by omega) (by omega) hK)
        clear hbx hbW hmk hK hno hpre hpr
        gi_wp2
        refine leaves_marks _ W.heap.size W HBB.out.size HMW.out fun W' hb hcs hs => ?_
        have hb3 : Boxed W' w.heap.size 4 (.bool false) := hcs _ _ _ _ HBX.out
        have g1 := hb3.cell
        refine ⟨_, ?_, by rw [hv.out], HBB.out.trans hb⟩
        simp [results, Try.f35, go_sem, g1]
    · obtain rfl : k = xs.length := by omega
      have hv : Hid (t0 = true) := by
        show _ = _
        rw [← HT.out]
        exact schedB_yes HGS.out (fun j t h1 h2 h3 => HO.out j t h1 h2 h3)
      have hc := HBR.out.cell
      have hf := HBR.out.frozen
      gi_wp2
      refine leaves_marks ds wr.heap.size _ (by simp; omega) (HM.out.others (KeepsOthers.setCell _ _ _)) fun W' hb hcs hs => ?_
      have hb2 := HBR.out.set (.bool true)
      have hb3 : Boxed W' w.heap.size 4 (.bool true) := hcs _ _ _ _ hb2
      have g1 := hb3.cell
      refine ⟨_, ?_, by rw [hv.out], (HB.out.setCell (p := ⟨w.heap.size, 0, none⟩) (Nat.le_refl _) _).trans hb⟩
      simp [results, Try.f35, go_sem, g1]
end Go.Proofs.Ytobkockikpgcoav
