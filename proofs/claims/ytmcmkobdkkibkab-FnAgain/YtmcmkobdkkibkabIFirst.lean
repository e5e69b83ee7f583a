/-
  impl.FirstDone: when the first coming of a task is done: just as long as it takes at most. Nothing old is written.
-/
import Derived.Test.YtmcmkobdkkibkabIAgain
import Derived.Test.YtmcmkobdkkibkabIRunA
import Derived.Test.YtmcmkobdkkibkabISlots6
import Derived.Test.YtmcmkobdkkibkabThereFn
import Derived.Test.YtmcmkobdkkibkabRFMarks
namespace Go.Proofs.Ytmcmkobdkkibkab
open Go.RowKit Go.Shelf
attribute [local go_sem] Oper.semAt_some

/-- The boxes of what FirstDone tells. -/
def FdBox (n0 : Nat) (r0 r1 r2 : Value) (W : World) : Prop :=
  Boxed W n0 3 r0 ∧ Boxed W (n0 + 1) 4 r1 ∧ Boxed W (n0 + 1 + 1) 4 r2
theorem FdBox.own {β : Type} (n0 : Nat) (r0 r1 r2 : β → Value) : Go.Own (fun s W => FdBox n0 (r0 s) (r1 s) (r2 s) W) := fun s A B row hs hg hr =>
  ⟨boxed_own n0 _ r0 s A B row hs.1 hg hr, boxed_own _ _ r1 s A B row hs.2.1 hg hr, boxed_own _ _ r2 s A B row hs.2.2 hg hr⟩
theorem FdBox.below {n0 n : Nat} {r0 r1 r2 : Value} {A B : World} (h : FdBox n0 r0 r1 r2 A) (hb : Below n A B) (hn : n0 + 2 < n) : FdBox n0 r0 r1 r2 B :=
  ⟨boxed_below h.1 hb (by omega), boxed_below h.2.1 hb (by omega), boxed_below h.2.2 hb (by omega)⟩
theorem FdBox.set {n0 : Nat} {r0 r1 r2 : Value} {A : World} (h : FdBox n0 r0 r1 r2 A) (q0 q1 q2 : Value) :
    FdBox n0 q0 q1 q2 (((A.setCell ⟨n0, 0, none⟩ q0).setCell ⟨n0 + 1, 0, none⟩ q1).setCell ⟨n0 + 1 + 1, 0, none⟩ q2) :=
  ⟨((h.1.set _).other (by omega) _).other (by omega) _, ((h.2.1.other (by omega) _).set _).other (by omega) _, ((h.2.2.other (by omega) _).other (by omega) _).set _⟩
theorem FdBox.other {n0 : Nat} {r0 r1 r2 : Value} {A : World} (h : FdBox n0 r0 r1 r2 A) {b : Nat} (hb : n0 + 2 < b) (q : Value) : FdBox n0 r0 r1 r2 (A.setCell ⟨b, 0, none⟩ q) :=
  ⟨h.1.other (by omega) _, h.2.1.other (by omega) _, h.2.2.other (by omega) _⟩
theorem others_set3 (n0 : Nat) (A : World) (q0 q1 q2 : Value) : KeepsOthers A (((A.setCell ⟨n0, 0, none⟩ q0).setCell ⟨n0 + 1, 0, none⟩ q1).setCell ⟨n0 + 1 + 1, 0, none⟩ q2) :=
  ((KeepsOthers.setCell _ _ _).trans (KeepsOthers.setCell _ _ _)).trans (KeepsOthers.setCell _ _ _)
theorem below_set3 {n0 : Nat} {w A : World} (h : Below n0 w A) (q0 q1 q2 : Value) : Below n0 w (((A.setCell ⟨n0, 0, none⟩ q0).setCell ⟨n0 + 1, 0, none⟩ q1).setCell ⟨n0 + 1 + 1, 0, none⟩ q2) :=
  ((h.setCell (by simp) _).setCell (by simp) _).setCell (by simp; omega) _
theorem fdbox_new (w : World) (r0 r1 r2 : Value) : FdBox w.heap.size r0 r1 r2 (((w.alloc (.cells #[r0] 3)).alloc (.cells #[r1] 4)).alloc (.cells #[r2] 4)) := by
  have h1 := Boxed.new w 3 r0
  have h2 := Boxed.new (w.alloc (.cells #[r0] 3)) 4 r1
  have h3 := Boxed.new ((w.alloc (.cells #[r0] 3)).alloc (.cells #[r1] 4)) 4 r2
  simp only [World.size_alloc] at h2 h3
  exact ⟨(h1.alloc _).alloc _, h2.alloc _, h3⟩

set_option maxHeartbeats 4000000 in
theorem ifirst_no (v : Value) (xs : List AgEl) (k : Int) (w : World) (hr : AgReads w v xs) (hn : thereI xs k = false) :
    Calls Try.prog 39 #[v, .int .i64 k] w fun e w' => e = .returned (.tuple #[.int .i64 0, .bool false, .bool false]) ∧ Below w.heap.size w w' := by
  have HR := hid hr
  have HN := hid hn
  obtain ⟨a, cap, rfl, _, _⟩ := hr
  clear hn
  obtain ⟨b, hb⟩ : ∃ b, goodA xs = b := ⟨_, rfl⟩
  have HG := hid hb
  clear hb
  have HE : ∀ w1, Below (((w.alloc (.cells #[.int .i64 0] 3)).alloc (.cells #[.bool false] 4)).alloc (.cells #[.bool false] 4)).heap.size (((w.alloc (.cells #[.int .i64 0] 3)).alloc (.cells #[.bool false] 4)).alloc (.cells #[.bool false] 4)) w1 → FdBox w.heap.size (.int .i64 0) (.bool false) (.bool false) w1 ∧ Below w.heap.size w w1 := fun w1 b1 =>
    ⟨(fdbox_new w (.int .i64 0) (.bool false) (.bool false)).below b1 (by simp), (show Below w.heap.size w _ by go_grown).trans (b1.mono (by simp; omega))⟩
  have HE' := hid HE
  clear HE
  cases b
  · go_enter Try.func39, Try.ntmps39
    go_wp2_with fail
    refine (igoodAgain_eq _ xs false HG.out _ (HR.out.below (by go_grown))).mono ?_
    rintro e w1 ⟨rfl, b1⟩
    obtain ⟨V, b2⟩ := HE'.out w1 b1
    have c1 := V.1.cell; have f1 := V.1.frozen; have c2 := V.2.1.cell; have f2 := V.2.1.frozen; have c3 := V.2.2.cell; have f3 := V.2.2.frozen
    have HV := hid V
    have HB := hid b2
    clear V b1 b2
    go_wp2
    (try simp only [Exit.inBlock, Exit.then])
    have hV4 := HV.out.set (.int .i64 0) (.bool false) (.bool false)
    have g1 := hV4.1.cell; have g2 := hV4.2.1.cell; have g3 := hV4.2.2.cell
    refine bodyPost_ret (v := .tuple #[.int .i64 0, .bool false, .bool false]) (by simp [results, Try.f39, go_sem, g1, g2, g3]) rfl ?_
    exact ⟨rfl, below_set3 HB.out _ _ _⟩
  · by_cases h0 : k < 0
    · have d0 : decide (k < 0) = true := by simpa using h0
      go_enter Try.func39, Try.ntmps39
      go_wp2_with fail
      refine (igoodAgain_eq _ xs true HG.out _ (HR.out.below (by go_grown))).mono ?_
      rintro e w1 ⟨rfl, b1⟩
      obtain ⟨V, b2⟩ := HE'.out w1 b1
      have c1 := V.1.cell; have f1 := V.1.frozen; have c2 := V.2.1.cell; have f2 := V.2.1.frozen; have c3 := V.2.2.cell; have f3 := V.2.2.frozen
      have HV := hid V
      have HB := hid b2
      clear V b1 b2
      go_wp2
      (try simp only [Exit.inBlock, Exit.then])
      have hV4 := HV.out.set (.int .i64 0) (.bool false) (.bool false)
      have g1 := hV4.1.cell; have g2 := hV4.2.1.cell; have g3 := hV4.2.2.cell
      refine bodyPost_ret (v := .tuple #[.int .i64 0, .bool false, .bool false]) (by simp [results, Try.f39, go_sem, g1, g2, g3]) rfl ?_
      exact ⟨rfl, below_set3 HB.out _ _ _⟩
    · have d0 : decide (k < 0) = false := by simpa using h0
      have d1 : decide ((xs.length : Int) ≤ k) = true := by
        have := HN.out
        unfold thereI at this
        rw [HG.out, decide_eq_true (p := 0 ≤ k) (by omega), Bool.true_and, Bool.true_and, decide_eq_false_iff_not] at this
        rw [decide_eq_true_eq]
        omega
      go_enter Try.func39, Try.ntmps39
      go_wp2_with fail
      refine (igoodAgain_eq _ xs true HG.out _ (HR.out.below (by go_grown))).mono ?_
      rintro e w1 ⟨rfl, b1⟩
      obtain ⟨V, b2⟩ := HE'.out w1 b1
      have c1 := V.1.cell; have f1 := V.1.frozen; have c2 := V.2.1.cell; have f2 := V.2.1.frozen; have c3 := V.2.2.cell; have f3 := V.2.2.frozen
      have HV := hid V
      have HB := hid b2
      clear V b1 b2
      go_wp2
      (try simp only [Exit.inBlock, Exit.then])
      have hV4 := HV.out.set (.int .i64 0) (.bool false) (.bool false)
      have g1 := hV4.1.cell; have g2 := hV4.2.1.cell; have g3 := hV4.2.2.cell
      refine bodyPost_ret (v := .tuple #[.int .i64 0, .bool false, .bool false]) (by simp [results, Try.f39, go_sem, g1, g2, g3]) rfl ?_
      exact ⟨rfl, below_set3 HB.out _ _ _⟩
set_option maxRecDepth 100000 in
set_option maxHeartbeats 8000000 in
theorem ifirst_yes (v : Value) (xs : List AgEl) (k : Nat) (w : World) (hr : AgReads w v xs) (hg : goodA xs = true) (hk : k < xs.length) :
    Calls Try.prog 39 #[v, .int .i64 (k : Nat)] w fun e w' => e = .returned (.tuple #[.int .i64 (lgN xs k), .bool (lgB xs k), .bool true]) ∧ Below w.heap.size w w' := by
  have HR := hid hr
  have HG := hid hg
  obtain ⟨LN, hLN⟩ : ∃ LN, LN = lgN xs k := ⟨_, rfl⟩
  obtain ⟨LB, hLB⟩ : ∃ LB, LB = lgB xs k := ⟨_, rfl⟩
  rw [← hLN, ← hLB]
  have HLN := hid hLN
  have HLB := hid hLB
  clear hLN hLB
  have d0 : decide ((k : Int) < 0) = false := by rw [decide_eq_false_iff_not]; omega
  have d1 : decide ((xs.length : Int) ≤ (k : Int)) = false := by rw [decide_eq_false_iff_not]; omega
  obtain ⟨gl, ol, cap, rfl, hcw⟩ := hr.cells k hk
  have hnk := (goodA_tasks hg).need k hk
  obtain ⟨C, hC⟩ : ∃ C, C = needA xs k := ⟨_, rfl⟩
  have ck0 : w.cell? ⟨gl, ol + k * 2, none⟩ = some (.int .i64 C) := by rw [hC]; exact (hcw k hk).1
  have CK := hid ck0
  have HC := hid hC
  rw [← hC] at hnk
  have n0 : (0 : Int) ≤ (k : Int) := by omega
  have n1 : (k : Int) < (xs.length : Int) := by omega
  clear hr hg hcw hC ck0
  have HE : Hid (∀ w1, Below (((w.alloc (.cells #[.int .i64 0] 3)).alloc (.cells #[.bool false] 4)).alloc (.cells #[.bool false] 4)).heap.size (((w.alloc (.cells #[.int .i64 0] 3)).alloc (.cells #[.bool false] 4)).alloc (.cells #[.bool false] 4)) w1 → FdBox w.heap.size (.int .i64 0) (.bool false) (.bool false) w1 ∧ Below w.heap.size w w1) := fun w1 b1 =>
    ⟨(fdbox_new w (.int .i64 0) (.bool false) (.bool false)).below b1 (by simp), (show Below w.heap.size w _ by go_grown).trans (b1.mono (by simp; omega))⟩
  refine (callsIn_wide (n := 9)).1 ?_
  refine callsIn_of_wp_marks Try.func39 rfl trivial ?_ rfl
  simp only [Try.ntmps39, List.size_toArray, List.length_cons, List.length_nil, Nat.reduceAdd, Nat.reduceSub, Array.replicate_succ, Array.replicate_zero, List.push_toArray, List.append_toArray, List.nil_append, List.cons_append]
  gi_wp2_with (first
    | (refine ⟨trivial, ?_⟩; gi_at_call 41; refine (callsIn_wide.2 (igoodAgain_eq _ xs true HG.out _ (HR.out.below (by go_grown)))).mono ?_; rintro e w1 ⟨rfl, b1⟩; obtain ⟨V1, b1'⟩ := HE.out w1 b1; have hs1 : w.heap.size + 3 ≤ w1.heap.size := (by have := b1.size; simp at this; omega); have ck1 : w1.cell? ⟨gl, ol + k * 2, none⟩ = some (.int .i64 C) := (b1'.cell (p := ⟨gl, ol + k * 2, none⟩) (lt_of_cell CK.out)).trans CK.out; have HV1 := hid V1; have HB1 := hid b1'; clear b1 V1 b1')
    | (refine ⟨trivial, ?_⟩; gi_at_call 92; refine (callsIn_wide.2 (irun_any _ xs 200 _ (HR.out.below (HB1.out.alloc (by omega) _)) HG.out (Nat.le_refl _))).mono ?_; rintro e w2 ⟨gs, rfl, hrow, hge, b2⟩; have HRow := hid hrow; have HB2 := hid b2; clear hrow b2)
    | (refine ⟨trivial, ?_⟩; gi_at_call 91; refine (callsIn_wide.2 (slotsOf_any _ 200 200 k _)).mono ?_; rintro e w3 ⟨rfl, hw3⟩; have HW3 := hid hw3; clear hw3))
  have hB3 : Below w2.heap.size w2 w3 := by rw [HW3.out]; exact ((Below.refl _ _).alloc (Nat.le_refl _) _).alloc (by simp) _
  have hsz3 : w3.heap.size = w2.heap.size + 2 := by rw [HW3.out]; simp
  have hs2 : w1.heap.size + 1 ≤ w2.heap.size := by have := HB2.out.size; simp at this; omega
  have hgs : gs < w2.heap.size := HRow.out.caps.2.2
  have hge1 : w1.heap.size + 1 ≤ gs := by simpa using hge
  have hbxS : Boxed w3 w2.heap.size 42 (.slice (some ⟨gs, 0, none⟩) 200 200) := by
    rw [HW3.out]
    exact (Boxed.new w2 42 (.slice (some ⟨gs, 0, none⟩) 200 200)).alloc _
  have hbxK : Boxed w3 (w2.heap.size + 1) 3 (.int .i64 k) := by
    have := Boxed.new (w2.alloc (.cells #[.slice (some ⟨gs, 0, none⟩) 200 200] 42)) 3 (.int .i64 k)
    simp only [World.size_alloc] at this
    rw [HW3.out]
    exact this
  have hb12 : Below (w1.heap.size + 1) (w1.alloc (.cells #[.int .i64 C] 3)) w2 := HB2.out.mono (by simp)
  have hbxL : Boxed w3 w1.heap.size 3 (.int .i64 C) := boxed_below (boxed_below (Boxed.new w1 3 (.int .i64 C)) hb12 (by omega)) hB3 (by omega)
  have hV3 : FdBox w.heap.size (.int .i64 0) (.bool false) (.bool false) w3 := ((HV1.out.below (n := w1.heap.size) ((Below.refl _ _).alloc (Nat.le_refl _) _) (by omega)).below hb12 (by omega)).below hB3 (by omega)
  have hB0 : Below w.heap.size w w3 := ((HB1.out.alloc (by omega) _).trans (hb12.mono (by omega))).trans (hB3.mono (by omega))
  have hw3 : w.heap.size ≤ w3.heap.size := by omega
  clear HW3 HB2 HV1 HB1 hge hb12
  refine wpIn_rangeFunc_ownF rfl (by omega) (gf := 126) (lb := #[.pointer (some ⟨w2.heap.size, 0, none⟩), .pointer (some ⟨w2.heap.size + 1, 0, none⟩)]) rfl trivial (enters_of Try.func126 (by kernel_rfl) rfl)
    (slots_stops 8 (by omega) w2.heap.size (w2.heap.size + 1) gs 0 200 200 k (slotR xs) (by omega) w3 (by omega) (by omega) (by omega) hbxS.cell hbxK.cell (fun i hi => by rw [Nat.zero_add]; exact (hB3.cell (p := ⟨gs, i, none⟩) hgs).trans (HRow.out.cell hi)))
    (fun h k => KeepS.t h k) (KeepS.b (by omega) (by omega)) (Below.refl _ _) (fun _ => rfl)
    (fun pre W => ((pre.length : Int) < C ∧ FdBox w.heap.size (.int .i64 0) (.bool false) (.bool false) W ∧ Boxed W w1.heap.size 3 (.int .i64 (C - (pre.length : Int)))) ∧ Below w.heap.size w W)
    (fun c pre W => (c = .ret ∧ ∃ (pre' : List Nat) (x : Nat), pre = pre' ++ [x] ∧ ((pre' ++ [x]).length : Int) = C ∧ FdBox w.heap.size (.int .i64 (IntKind.i64.wrap ((x : Int) + 1))) (.bool true) (.bool true) W) ∧ Below w.heap.size w W)
    (OwnFrom.and (Go.Own.from (fun s A B row hs hg hr => ⟨hs.1, FdBox.own (β := List Nat) _ (fun _ => .int .i64 0) (fun _ => .bool false) (fun _ => .bool false) s A B row hs.2.1 hg hr, boxed_own (β := List Nat) w1.heap.size 3 (fun s => .int .i64 (C - (s.length : Int))) s A B row hs.2.2 hg hr⟩) _) (ownFrom_below (Nat.le_refl _) (by omega)))
    (fun c => OwnFrom.and (Go.Own.from (fun s A B row hs hg hr => by
      obtain ⟨e, pre', x, h1, h2, h3⟩ := hs
      exact ⟨e, pre', x, h1, h2, FdBox.own (β := List Nat) _ (fun _ => .int .i64 (IntKind.i64.wrap ((x : Int) + 1))) (fun _ => .bool true) (fun _ => .bool true) s A B row h3 hg hr⟩) _) (ownFrom_below (Nat.le_refl _) (by omega)))
    ⟨⟨by simp; omega, hV3, by simpa using hbxL⟩, hB0⟩
    (fun x => { tmps := #[.slice (some ⟨gl, ol, none⟩) xs.length cap, .int .i64 k, undef, undef, .pointer (some ⟨w.heap.size, 0, none⟩), .pointer (some ⟨w.heap.size + 1, 0, none⟩), .pointer (some ⟨w.heap.size + 1 + 1, 0, none⟩), .pointer (some ⟨w1.heap.size, 0, none⟩), .int .i64 (x : Int), .slice (some ⟨gl, ol, none⟩) xs.length cap, .bool true, .bool false, .bool false, .int .i64 k, .bool false, .bool false, .bool false, .int .i64 k, .slice (some ⟨gl, ol, none⟩) xs.length cap, .int .i64 (xs.length : Int), .bool false, .bool false, .slice (some ⟨gl, ol, none⟩) xs.length cap, .int .i64 k, .pointer (some ⟨gl, ol + k * 2, none⟩), .pointer (some ⟨gl, ol + k * 2, none⟩), .int .i64 C, .slice (some ⟨gl, ol, none⟩) xs.length cap, .slice (some ⟨gs, 0, none⟩) 200 200, .int .i64 k, .func (.func 126) #[] #[.pointer (some ⟨w2.heap.size, 0, none⟩), .pointer (some ⟨w2.heap.size + 1, 0, none⟩)], .int .i64 (x : Int), undef, undef, undef, undef, undef, undef], defers := [] }) ?assign ?body ?done ?stop
  case assign =>
    intro l x W K hK
    gi_wp2
    exact hK
  case body =>
    clear hB3 hsz3 hbxS hbxK hbxL hV3 hB0 HRow ck1 CK HR HE
    rintro l pre x W ⟨⟨hlt, hV, hbx⟩, hB⟩ hpl
    have HV := hid hV
    have HX := hid hbx
    have HB := hid hB
    have cl := hbx.cell
    have fl := hbx.frozen
    obtain ⟨c, hc⟩ : ∃ c, c = C - (pre.length : Int) := ⟨_, rfl⟩
    rw [← hc] at cl HX
    have hw1 : IntKind.i64.wrap (c - 1) = c - 1 := by rw [IntKind.wrap_i64]; omega
    have HV2 := hid (HV.out.other (b := w1.heap.size) (by omega) (.int .i64 (c - 1)))
    have c1 := hV.1.cell; have f1 := hV.1.frozen; have c2 := hV.2.1.cell; have f2 := hV.2.1.frozen; have c3 := hV.2.2.cell; have f3 := hV.2.2.frozen
    have x1 : w.heap.size ≠ w1.heap.size := by omega
    have x2 : w.heap.size + 1 ≠ w1.heap.size := by omega
    have x3 : w.heap.size + 1 + 1 ≠ w1.heap.size := by omega
    have hel : ((pre ++ [x]).length : Int) = (pre.length : Int) + 1 := by simp
    have HEL : Hid (C - ((pre ++ [x]).length : Int) = c - 1) := by show _ = _; omega
    have hc0 : 0 < c := by omega
    clear hV hbx hB hel hc
    dsimp only
    by_cases h0 : c = 1
    · subst h0
      have HE1 : Hid (((pre ++ [x]).length : Int) = C) := by have := HEL.out; show _ = _; omega
      have HV3 := hid (HV.out.other (b := w1.heap.size) (by omega) (.int .i64 0))
      obtain ⟨z, hz⟩ : ∃ z, IntKind.i64.wrap ((x : Int) + 1) = z := ⟨_, rfl⟩
      have HZ := hid hz
      clear HEL hlt HV2
      gi_wp2
      refine ⟨(KeepsOthers.setCell _ _ _).trans (others_set3 _ _ _ _ _), ⟨rfl, pre, x, rfl, HE1.out, ?_⟩, below_set3 (HB.out.setCell (by simp; omega) _) _ _ _⟩
      rw [HZ.out]
      exact HV3.out.set (.int .i64 z) (.bool true) (.bool true)
    · have de : (c - 1 == 0) = false := by rw [beq_eq_false_iff_ne]; omega
      have HE2 : Hid (((pre ++ [x]).length : Int) < C) := by have := HEL.out; show _ < _; omega
      clear c1 f1 c2 f2 c3 f3
      gi_wp2
      refine ⟨KeepsOthers.setCell _ _ _, ⟨Below.heap_setCell _ _ _ _ (by show _ ≠ _; simp only []; omega), Below.heap_setCell _ _ _ _ (by show _ ≠ _; simp only []; omega)⟩, ⟨HE2.out, HV2.out, ?_⟩, HB.out.setCell (by simp; omega) _⟩
      rw [HEL.out]
      exact HX.out.set (.int .i64 (c - 1))
  case done =>
    rintro D ys W hD hys ⟨⟨hlt, hV, hbx⟩, hB⟩ hK
    obtain ⟨e1, e2⟩ := first_no HG.out hk (by rw [← hys, ← HC.out]; exact hlt)
    rw [← HLN.out] at e1
    rw [← HLB.out] at e2
    subst e1 e2
    clear hB3 hsz3 hbxS hbxK hbxL hV3 hB0 HRow ck1 CK HR HE HLN HLB HC
    have c1 := hV.1.cell; have f1 := hV.1.frozen; have c2 := hV.2.1.cell; have f2 := hV.2.1.frozen; have c3 := hV.2.2.cell; have f3 := hV.2.2.frozen
    have HV := hid hV
    have HB := hid hB
    have HK := hid hK
    clear hV hB hK hbx hlt hys
    gi_wp2
    have hV2 := HV.out.set (.int .i64 0) (.bool false) (.bool true)
    have hK2 := (others_set3 w.heap.size W (.int .i64 0) (.bool false) (.bool true)).same D _ HK.out rfl
    refine ⟨by simp, .inl ⟨_, _, rfl, run_takeDeferred hK2, ?_⟩⟩
    have hV4 := FdBox.own (β := Unit) w.heap.size (fun _ => .int .i64 0) (fun _ => .bool false) (fun _ => .bool true) () _ _ _ hV2 (grownBy_putObj' _ D (.deferred none)) (fun r e => by cases e; exact ⟨_, hK2, rfl⟩)
    have g1 := hV4.1.cell; have g2 := hV4.2.1.cell; have g3 := hV4.2.2.cell
    refine ⟨_, ?_, rfl, (below_set3 HB.out _ _ _).trans (belowK_b (w := w) (Nat.le_refl _) _ D _ _ (by omega) hK2 rfl rfl)⟩
    simp [results, Try.f39, go_sem, g1, g2, g3]
  case stop =>
    rintro D c pre W hD hpre ⟨⟨rfl, pre', x, rfl, hc, hV⟩, hB⟩ hK
    obtain ⟨e1, e2, e3⟩ := first_yes HG.out hk hpre (by rw [← HC.out]; exact hc)
    rw [← HLN.out] at e1
    rw [← HLB.out] at e2
    subst e1 e2
    clear hB3 hsz3 hbxS hbxK hbxL hV3 hB0 HRow ck1 CK HR HE HLN HLB HC
    rw [show IntKind.i64.wrap ((x : Int) + 1) = (x : Int) + 1 by rw [IntKind.wrap_i64]; omega] at hV
    have HV := hid hV
    have HB := hid hB
    have HK := hid hK
    clear hV hB hK hpre hc
    gi_wp2
    refine ⟨by simp, .inl ⟨_, _, rfl, run_takeDeferred HK.out, ?_⟩⟩
    have hV4 := FdBox.own (β := Unit) w.heap.size (fun _ => .int .i64 ((x : Int) + 1)) (fun _ => .bool true) (fun _ => .bool true) () _ _ _ HV.out (grownBy_putObj' _ D (.deferred none)) (fun r e => by cases e; exact ⟨_, HK.out, rfl⟩)
    have g1 := hV4.1.cell; have g2 := hV4.2.1.cell; have g3 := hV4.2.2.cell
    refine ⟨_, ?_, rfl, HB.out.trans (belowK_b (w := w) (Nat.le_refl _) W D _ _ (by omega) HK.out rfl rfl)⟩
    simp [results, Try.f39, go_sem, g1, g2, g3]
end Go.Proofs.Ytmcmkobdkkibkab
