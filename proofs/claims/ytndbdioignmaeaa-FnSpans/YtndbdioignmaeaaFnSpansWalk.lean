/-
  The law FnSpans answers true at every input.
-/
import Derived.Test.YtndbdioignmaeaaFnSpansMath
import Derived.Test.YtndbdioignmaeaaDrawS2
import Derived.Test.YtndbdioignmaeaaSameSpans
import Derived.Test.YtndbdioignmaeaaILen
import Derived.Test.YtndbdioignmaeaaIHas
import Derived.Test.YtndbdioignmaeaaSWrap
import Derived.Test.YtndbdioignmaeaaIMeet
import Derived.Test.YtndbdioignmaeaaAddAny
import Derived.Test.YtndbdioignmaeaaCutAny
import Derived.Test.YtndbdioignmaeaaMissAny
import Derived.Test.YtndbdioignmaeaaCodeRow
namespace Go.Proofs.Ytndbdioignmaeaa
open Go.RowKit

theorem joinB_out {xs ys : List Sp} (h : joinB xs ys = true) : goodL xs = true ∧ goodL ys = true ∧ (joinL xs ys).length ≤ 20 ∧ joinY xs ys = joinL xs ys := by
  unfold joinB at h
  rw [Bool.and_eq_true, Bool.and_eq_true] at h
  have hl : (joinL xs ys).length ≤ 20 := by simpa [tellB] using h.2
  refine ⟨h.1.1, h.1.2, hl, ?_⟩
  unfold joinY tellY
  rw [if_pos (by rw [h.1.1, h.1.2]; rfl), if_pos hl]
theorem meetB_out {xs ys : List Sp} (h : meetB xs ys = true) : (meetL xs ys).length ≤ 20 ∧ meetY xs ys = meetL xs ys := by
  unfold meetB at h
  rw [Bool.and_eq_true, Bool.and_eq_true] at h
  have hl : (meetL xs ys).length ≤ 20 := by simpa [tellB] using h.2
  refine ⟨hl, ?_⟩
  unfold meetY tellY
  rw [if_pos (by rw [h.1.1, h.1.2]; rfl), if_pos hl]
theorem missB_out {xs : List Sp} {u : Int} (h : missB xs u = true) : goodL xs = true ∧ 0 ≤ u ∧ u ≤ 1000000 ∧ goodL (missL xs u) = true ∧ missY xs u = missL xs u := by
  unfold missB at h
  have ho : missOk xs u = true := by rw [Bool.and_eq_true] at h; exact h.1
  have h' := ho
  unfold missOk at h'
  rw [Bool.and_eq_true] at h
  rw [Bool.and_eq_true, Bool.and_eq_true] at h'
  have hl : (missL xs u).length ≤ 20 := by simpa [tellB] using h.2
  have hu : u ≤ 1000000 := by simpa using h'.2.2
  refine ⟨h'.1, by simpa using h'.2.1, hu, good_mk (missL_chain (good_chain h'.1) hu) hl, ?_⟩
  unfold missY tellY
  rw [if_pos ho, if_pos hl]
theorem again_out {t : List Sp} {s : Sp} (h : addOk t s = true) : cutY (addY t s) s = cutY t s ∧ cutB (addY t s) s = cutB t s := by
  have hy : addY t s = addL t s := by unfold addY; rw [if_pos h]
  unfold addOk at h
  rw [Bool.and_eq_true, Bool.and_eq_true] at h
  have hs := (spB_iff s).1 h.1.2
  have hl : (addL t s).length ≤ 20 := by simpa using h.2
  have hg : goodL (addL t s) = true := good_mk (addL_chain (good_chain h.1.1) h.1.2 (by omega)) hl
  have e := cut_add (good_chain h.1.1) h.1.2
  rw [hy]
  unfold cutY cutB cutOk
  rw [hg, h.1.1, e]
  exact ⟨rfl, rfl⟩

theorem ijoin_eq (va vb : Value) (xs ys : List Sp) (jb : Bool) (h : joinB xs ys = jb) (w : World) (ha : SReads w va xs) (hb : SReads w vb ys) :
    Calls Try.prog 7 #[va, vb] w fun e w' => ∃ v', e = .returned (.tuple #[v', .bool jb]) ∧ SOwn w.heap.size w' v' (joinY xs ys) ∧ Below w.heap.size w w' := by rw [← h]; exact ijoin_any va vb xs ys w ha hb
theorem sJoin_eq (va vb : Value) (xs ys : List Sp) (jb : Bool) (h : joinB xs ys = jb) (w : World) (ha : SReads w va xs) (hb : SReads w vb ys) :
    Calls Try.prog 8 #[va, vb] w fun e w' => ∃ v', e = .returned (.tuple #[v', .bool jb]) ∧ SOwn w.heap.size w' v' (joinY xs ys) ∧ Below w.heap.size w w' := by rw [← h]; exact sJoin_any va vb xs ys w ha hb
theorem imeet_eq (va vb : Value) (xs ys : List Sp) (jb : Bool) (h : meetB xs ys = jb) (w : World) (ha : SReads w va xs) (hb : SReads w vb ys) :
    Calls Try.prog 9 #[va, vb] w fun e w' => ∃ v', e = .returned (.tuple #[v', .bool jb]) ∧ SOwn w.heap.size w' v' (meetY xs ys) ∧ Below w.heap.size w w' := by rw [← h]; exact imeet_any va vb xs ys w ha hb
theorem sMeet_eq (va vb : Value) (xs ys : List Sp) (jb : Bool) (h : meetB xs ys = jb) (w : World) (ha : SReads w va xs) (hb : SReads w vb ys) :
    Calls Try.prog 10 #[va, vb] w fun e w' => ∃ v', e = .returned (.tuple #[v', .bool jb]) ∧ SOwn w.heap.size w' v' (meetY xs ys) ∧ Below w.heap.size w w' := by rw [← h]; exact sMeet_any va vb xs ys w ha hb
theorem ilen_eq (v : Value) (xs : List Sp) (p : Int) (h : lenL xs = p) (w : World) (hr : SReads w v xs) (hg : goodL xs = true) :
    Calls Try.prog 14 #[v] w fun e w' => e = .returned (.tuple #[.int .i64 p, .bool true]) ∧ Below w.heap.size w w' := by rw [← h]; exact ilengthOf_yes v xs w hr hg
theorem ihas_eq (v : Value) (xs : List Sp) (n : Int) (t : Bool) (h : hasL xs n = t) (w : World) (hr : SReads w v xs) (hg : goodL xs = true) :
    Calls Try.prog 16 #[v, .int .i64 n] w fun e w' => e = .returned (.tuple #[.bool t, .bool true]) ∧ Below w.heap.size w w' := by rw [← h]; exact ihasPoint_yes v xs n w hr hg
theorem igood_eq (v : Value) (xs : List Sp) (t : Bool) (h : goodL xs = t) (w : World) (hr : SReads w v xs) :
    Calls Try.prog 12 #[v] w fun e w' => e = .returned (.bool t) ∧ Below w.heap.size w w' := by rw [← h]; exact igood_any v xs w hr
theorem sgood_eq (v : Value) (xs : List Sp) (t : Bool) (h : goodL xs = t) (w : World) (hr : SReads w v xs) :
    Calls Try.prog 13 #[v] w fun e w' => e = .returned (.bool t) ∧ Below w.heap.size w w' := by rw [← h]; exact sgood_any v xs w hr

theorem CodeOk.then {w w' : World} {v : Value} (h : CodeOk w.heap.size w v) (hb : Below w.heap.size w w') : CodeOk w'.heap.size w' v := by
  obtain ⟨a, len, cap, rfl, hlen, hx⟩ := h
  refine ⟨a, len, cap, rfl, hlen, ?_⟩
  rcases hx with hx | ⟨cb, off, rfl, hlt, hc⟩
  · exact .inl hx
  · exact .inr ⟨cb, off, rfl, Nat.lt_of_lt_of_le hlt hb.size, fun i hi => by
      obtain ⟨x, hx, hc⟩ := hc i hi
      exact ⟨x, hx, (hb.cell (p := ⟨cb, off + i, none⟩) hlt).trans hc⟩⟩
def Box2 (y : World) (g : Nat) (p q : Int) : Prop := y.cell? ⟨g, 0, none⟩ = some (.int .i64 p) ∧ y.cell? ⟨g, 1, none⟩ = some (.int .i64 q)
theorem Box2.on {y y' : World} {g : Nat} {p q : Int} (h : Box2 y g p q) (b : Below y.heap.size y y') : Box2 y' g p q := ⟨(b.cell (p := ⟨g, 0, none⟩) (lt_of_cell h.1)).trans h.1, (b.cell (p := ⟨g, 1, none⟩) (lt_of_cell h.1)).trans h.2⟩
theorem box2 {y y' : World} {p q : Int} (b : Below (y.alloc (.cells #[.int .i64 p, .int .i64 q] 39)).heap.size (y.alloc (.cells #[.int .i64 p, .int .i64 q] 39)) y') : Box2 y' y.heap.size p q := Box2.on ⟨by simp, by simp⟩ b
theorem sbox_below {y y' : World} {blk : Obj} (b : Below (y.alloc blk).heap.size (y.alloc blk) y') : Below y.heap.size y y' := ((Below.refl y.heap.size y).alloc (Nat.le_refl _) blk).trans (b.mono (by simp))

set_option maxHeartbeats 200000000 in
set_option maxRecDepth 100000 in
theorem FnSpans_walk (a0 : Option Addr) (len0 cap0 : Nat) (z0 : List Int) (a1 : Option Addr) (len1 cap1 : Nat) (z1 : List Int) (w : World) (hr0 : IsRow .u8 w a0 len0 cap0 z0) (hr1 : IsRow .u8 w a1 len1 cap1 z1)
    (b0 : cap0 * 1 ≤ 140737488351232) (b1 : cap1 * 1 ≤ 140737488351232) :
    Calls Try.prog 3 #[.slice a0 len0 cap0, .slice a1 len1 cap1] w fun e w' => e = .returned (.bool true) ∧ Below w.heap.size w w' := by
  have l0 : len0 ≤ cap0 := by rcases hr0 with ⟨_, rfl, rfl, _⟩ | ⟨x, _, h, _⟩ <;> omega
  have l1 : len1 ≤ cap1 := by rcases hr1 with ⟨_, rfl, rfl, _⟩ | ⟨x, _, h, _⟩ <;> omega
  by_cases hl : (1048576 : Int) < (len0 : Int) + (len1 : Int)
  · clear hr0 hr1
    go_enter Try.func3, Try.ntmps3
    go_wp2
    go_ret
    exact ⟨rfl, Below.refl _ _⟩
  have K0 := hid (code_of_row hr0 (by omega))
  have K1 := hid (code_of_row hr1 (by omega))
  clear hr0 hr1
  have B : Hid (Below w.heap.size w w) := Below.refl _ _
  go_enter Try.func3, Try.ntmps3
  go_wp2_with fail
  refine (drawJoin_any _ _ K0.out).mono ?_
  rintro e w1 ⟨va, vb, rfl, xs, ys, hxy, ra, rb, b⟩
  replace B : Hid (Below w.heap.size w w1) := B.out.trans (b.mono B.out.size)
  clear b
  have RA := hid ra
  have RB := hid rb
  clear ra rb
  obtain ⟨jb, hjb⟩ : ∃ jb, joinB xs ys = jb := ⟨_, rfl⟩
  obtain ⟨mb, hmb⟩ : ∃ mb, meetB xs ys = mb := ⟨_, rfl⟩
  have HJB := hid hjb
  have HMB := hid hmb
  clear hjb hmb
  go_wp2_with fail
  refine (ijoin_eq va vb xs ys jb HJB.out _ RA.out RB.out).mono ?_
  rintro e w2 ⟨vj, rfl, o, b⟩
  replace RA := hid (RA.out.below b)
  replace RB := hid (RB.out.below b)
  replace B : Hid (Below w.heap.size w w2) := B.out.trans (b.mono B.out.size)
  clear b
  have RJ := hid o.reads
  clear o
  go_wp2_with fail
  refine (sJoin_eq va vb xs ys jb HJB.out _ RA.out RB.out).mono ?_
  rintro e w3 ⟨vj2, rfl, o, b⟩
  replace RA := hid (RA.out.below b)
  replace RB := hid (RB.out.below b)
  replace RJ := hid (RJ.out.below b)
  replace B : Hid (Below w.heap.size w w3) := B.out.trans (b.mono B.out.size)
  clear b
  have RJ2 := hid o.reads
  clear o
  go_wp2_with fail
  refine (imeet_eq va vb xs ys mb HMB.out _ RA.out RB.out).mono ?_
  rintro e w4 ⟨vm, rfl, o, b⟩
  replace RA := hid (RA.out.below b)
  replace RB := hid (RB.out.below b)
  replace RJ := hid (RJ.out.below b)
  replace RJ2 := hid (RJ2.out.below b)
  replace B : Hid (Below w.heap.size w w4) := B.out.trans (b.mono B.out.size)
  clear b
  have RM := hid o.reads
  clear o
  go_wp2_with fail
  refine (sMeet_eq va vb xs ys mb HMB.out _ RA.out RB.out).mono ?_
  rintro e w5 ⟨vm2, rfl, o, b⟩
  replace RA := hid (RA.out.below b)
  replace RB := hid (RB.out.below b)
  replace RJ := hid (RJ.out.below b)
  replace RJ2 := hid (RJ2.out.below b)
  replace RM := hid (RM.out.below b)
  replace B : Hid (Below w.heap.size w w5) := B.out.trans (b.mono B.out.size)
  clear b
  have RM2 := hid o.reads
  clear o
  go_wp2_with fail
  refine (sameSpans_same _ _ (joinY xs ys) _ RJ.out RJ2.out).mono ?_
  rintro e w6 ⟨rfl, b⟩
  replace RA := hid (RA.out.below b)
  replace RB := hid (RB.out.below b)
  replace RJ := hid (RJ.out.below b)
  replace RM := hid (RM.out.below b)
  replace RM2 := hid (RM2.out.below b)
  replace B : Hid (Below w.heap.size w w6) := B.out.trans (b.mono B.out.size)
  clear b
  clear RJ2
  go_wp2_with fail
  refine (sameSpans_same _ _ (meetY xs ys) _ RM.out RM2.out).mono ?_
  rintro e w7 ⟨rfl, b⟩
  replace RA := hid (RA.out.below b)
  replace RB := hid (RB.out.below b)
  replace RJ := hid (RJ.out.below b)
  replace RM := hid (RM.out.below b)
  replace B : Hid (Below w.heap.size w w7) := B.out.trans (b.mono B.out.size)
  clear b
  clear RM2
  obtain ⟨gx, hgx⟩ : ∃ gx, goodL xs = gx := ⟨_, rfl⟩
  have HGX := hid hgx
  clear hgx
  go_wp2_with fail
  refine (igood_eq va xs gx HGX.out _ RA.out).mono ?_
  rintro e w8 ⟨rfl, b⟩
  replace RA := hid (RA.out.below b)
  replace RB := hid (RB.out.below b)
  replace RJ := hid (RJ.out.below b)
  replace RM := hid (RM.out.below b)
  replace B : Hid (Below w.heap.size w w8) := B.out.trans (b.mono B.out.size)
  clear b
  go_wp2_with fail
  refine (sgood_eq va xs gx HGX.out _ RA.out).mono ?_
  rintro e w9 ⟨rfl, b⟩
  replace RA := hid (RA.out.below b)
  replace RB := hid (RB.out.below b)
  replace RJ := hid (RJ.out.below b)
  replace RM := hid (RM.out.below b)
  replace B : Hid (Below w.heap.size w w9) := B.out.trans (b.mono B.out.size)
  clear b
  cases jb
  · clear RA RB RJ RM HJB HMB HGX hxy
    as_aux_lemma =>
      have CM := hid (K1.out.then B.out)
      go_wp2_with fail
      refine (drawMissing_any _ _ CM.out).mono ?_
      rintro e y1 ⟨vl, up, rfl, ls, hls, rl, b⟩
      replace B : Hid (Below w.heap.size w y1) := B.out.trans (b.mono B.out.size)
      clear b
      have RL := hid rl
      clear rl CM
      obtain ⟨t2, ht2⟩ : ∃ t, missB ls up = t := ⟨_, rfl⟩
      obtain ⟨ms, hms⟩ : ∃ ms, missY ls up = ms := ⟨_, rfl⟩
      have HT2 := hid ht2
      have HMS := hid hms
      have MI : Hid (∀ wq, SReads wq vl ls → Calls Try.prog 18 #[vl, .int .i64 up] wq fun e w' => ∃ v', e = .returned (.tuple #[v', .bool t2]) ∧ SOwn wq.heap.size w' v' ms ∧ Below wq.heap.size wq w') := by rw [← ht2, ← hms]; exact fun w => imissIn_any vl ls up w
      have MS : Hid (∀ wq, SReads wq vl ls → Calls Try.prog 19 #[vl, .int .i64 up] wq fun e w' => ∃ v', e = .returned (.tuple #[v', .bool t2]) ∧ SOwn wq.heap.size w' v' ms ∧ Below wq.heap.size wq w') := by rw [← ht2, ← hms]; exact fun w => smissIn_any vl ls up w
      clear ht2 hms
      go_wp2_with fail
      refine (MI.out _ RL.out).mono ?_
      rintro e y2 ⟨vx, rfl, o, b⟩
      replace RL := hid (RL.out.below b)
      replace B : Hid (Below w.heap.size w y2) := B.out.trans (b.mono B.out.size)
      clear b
      have RX := hid o.reads
      clear o
      go_wp2_with fail
      refine (MS.out _ RL.out).mono ?_
      rintro e y3 ⟨vx2, rfl, o, b⟩
      replace RL := hid (RL.out.below b)
      replace RX := hid (RX.out.below b)
      replace B : Hid (Below w.heap.size w y3) := B.out.trans (b.mono B.out.size)
      clear b
      have RX2 := hid o.reads
      clear o
      clear MI MS
      have CM := hid (K1.out.then B.out)
      go_wp2_with fail
      refine (drawAdd_any _ _ CM.out).mono ?_
      rintro e y4 ⟨vt, p, q, rfl, ts, hts, rt, b⟩
      replace RL := hid (RL.out.below b)
      replace RX := hid (RX.out.below b)
      replace RX2 := hid (RX2.out.below b)
      replace B : Hid (Below w.heap.size w y4) := B.out.trans (b.mono B.out.size)
      clear b
      have RT := hid rt
      clear rt CM
      obtain ⟨t4, ht4⟩ : ∃ t, addOk ts (p, q) = t := ⟨_, rfl⟩
      obtain ⟨ad, has⟩ : ∃ l, addY ts (p, q) = l := ⟨_, rfl⟩
      obtain ⟨nn, hnn⟩ : ∃ l, addN ts (p, q) = l := ⟨_, rfl⟩
      obtain ⟨t6, ht6⟩ : ∃ t, cutB ts (p, q) = t := ⟨_, rfl⟩
      obtain ⟨cs, hcs⟩ : ∃ l, cutY ts (p, q) = l := ⟨_, rfl⟩
      have HT4 := hid ht4
      have HAS := hid has
      have HT6 := hid ht6
      have HCS := hid hcs
      have AI : Hid (∀ wq, SReads wq vt ts → Calls Try.prog 21 #[vt, .agg #[.int .i64 p, .int .i64 q]] wq fun e w' => ∃ v', e = .returned (.tuple #[v', .int .i64 nn, .bool t4]) ∧ SOwn wq.heap.size w' v' ad ∧ Below wq.heap.size wq w') := by rw [← ht4, ← has, ← hnn]; exact fun w => iaddSpan_any vt ts p q w
      have AS : Hid (∀ wq, SReads wq vt ts → Calls Try.prog 22 #[vt, .agg #[.int .i64 p, .int .i64 q]] wq fun e w' => ∃ v', e = .returned (.tuple #[v', .int .i64 nn, .bool t4]) ∧ SOwn wq.heap.size w' v' ad ∧ Below wq.heap.size wq w') := by rw [← ht4, ← has, ← hnn]; exact fun w => saddSpan_any vt ts p q w
      have CI : Hid (∀ wq, SReads wq vt ts → Calls Try.prog 23 #[vt, .agg #[.int .i64 p, .int .i64 q]] wq fun e w' => ∃ v', e = .returned (.tuple #[v', .bool t6]) ∧ SOwn wq.heap.size w' v' cs ∧ Below wq.heap.size wq w') := by rw [← ht6, ← hcs]; exact fun w => icut_any vt ts p q w
      have CS : Hid (∀ wq, SReads wq vt ts → Calls Try.prog 24 #[vt, .agg #[.int .i64 p, .int .i64 q]] wq fun e w' => ∃ v', e = .returned (.tuple #[v', .bool t6]) ∧ SOwn wq.heap.size w' v' cs ∧ Below wq.heap.size wq w') := by rw [← ht6, ← hcs]; exact fun w => scut_any vt ts p q w
      clear ht4 has hnn ht6 hcs
      go_wp2_with fail
      refine (AI.out _ (RT.out.below ((Below.refl _ _).alloc (Nat.le_refl _) _))).mono ?_
      rintro e y5 ⟨vy, rfl, o, b⟩
      have C : Hid (Box2 y5 y4.heap.size p q) := box2 b
      replace b := sbox_below b
      replace RL := hid (RL.out.below b)
      replace RX := hid (RX.out.below b)
      replace RX2 := hid (RX2.out.below b)
      replace RT := hid (RT.out.below b)
      replace B : Hid (Below w.heap.size w y5) := B.out.trans (b.mono B.out.size)
      clear b
      have RY := hid o.reads
      clear o
      obtain ⟨k0, k1⟩ := C.out
      go_wp2_with fail
      refine (AS.out _ RT.out).mono ?_
      rintro e y6 ⟨vy2, rfl, o, b⟩
      replace RL := hid (RL.out.below b)
      replace RX := hid (RX.out.below b)
      replace RX2 := hid (RX2.out.below b)
      replace RT := hid (RT.out.below b)
      replace RY := hid (RY.out.below b)
      replace C := hid (C.out.on b)
      replace B : Hid (Below w.heap.size w y6) := B.out.trans (b.mono B.out.size)
      clear b
      have RY2 := hid o.reads
      clear o
      clear k0 k1
      obtain ⟨k0, k1⟩ := C.out
      go_wp2_with fail
      refine (CI.out _ RT.out).mono ?_
      rintro e y7 ⟨vz, rfl, o, b⟩
      replace RL := hid (RL.out.below b)
      replace RX := hid (RX.out.below b)
      replace RX2 := hid (RX2.out.below b)
      replace RT := hid (RT.out.below b)
      replace RY := hid (RY.out.below b)
      replace RY2 := hid (RY2.out.below b)
      replace C := hid (C.out.on b)
      replace B : Hid (Below w.heap.size w y7) := B.out.trans (b.mono B.out.size)
      clear b
      have RZ := hid o.reads
      clear o
      clear k0 k1
      obtain ⟨k0, k1⟩ := C.out
      go_wp2_with fail
      refine (CS.out _ RT.out).mono ?_
      rintro e y8 ⟨vz2, rfl, o, b⟩
      replace RL := hid (RL.out.below b)
      replace RX := hid (RX.out.below b)
      replace RX2 := hid (RX2.out.below b)
      replace RY := hid (RY.out.below b)
      replace RY2 := hid (RY2.out.below b)
      replace RZ := hid (RZ.out.below b)
      replace C := hid (C.out.on b)
      replace B : Hid (Below w.heap.size w y8) := B.out.trans (b.mono B.out.size)
      clear b
      have RZ2 := hid o.reads
      clear o
      clear k0 k1 RT AI AS CI CS
      have d2 : (t2 != t2) = false := by simp
      have d4 : (t4 != t4) = false := by simp
      have d6 : (t6 != t6) = false := by simp
      have dn : (nn != nn) = false := by simp
      go_wp2_with fail
      refine (sameSpans_same _ _ ms _ RX.out RX2.out).mono ?_
      rintro e y9 ⟨rfl, b⟩
      replace RL := hid (RL.out.below b)
      replace RX := hid (RX.out.below b)
      replace RY := hid (RY.out.below b)
      replace RY2 := hid (RY2.out.below b)
      replace RZ := hid (RZ.out.below b)
      replace RZ2 := hid (RZ2.out.below b)
      replace C := hid (C.out.on b)
      replace B : Hid (Below w.heap.size w y9) := B.out.trans (b.mono B.out.size)
      clear b
      clear RX2
      go_wp2_with fail
      refine (sameSpans_same _ _ ad _ RY.out RY2.out).mono ?_
      rintro e y10 ⟨rfl, b⟩
      replace RL := hid (RL.out.below b)
      replace RX := hid (RX.out.below b)
      replace RY := hid (RY.out.below b)
      replace RZ := hid (RZ.out.below b)
      replace RZ2 := hid (RZ2.out.below b)
      replace C := hid (C.out.on b)
      replace B : Hid (Below w.heap.size w y10) := B.out.trans (b.mono B.out.size)
      clear b
      clear RY2
      go_wp2_with fail
      refine (sameSpans_same _ _ cs _ RZ.out RZ2.out).mono ?_
      rintro e y11 ⟨rfl, b⟩
      replace RL := hid (RL.out.below b)
      replace RX := hid (RX.out.below b)
      replace RY := hid (RY.out.below b)
      replace RZ := hid (RZ.out.below b)
      replace C := hid (C.out.on b)
      replace B : Hid (Below w.heap.size w y11) := B.out.trans (b.mono B.out.size)
      clear b
      clear RZ2
      cases t2
      · cases t4
        · go_wp2
          go_ret
          exact ⟨rfl, B.out⟩
        · cases t6
          · go_wp2
            go_ret
            exact ⟨rfl, B.out⟩
          · obtain ⟨h1, h2⟩ := again_out HT4.out
            have CY : Hid (∀ wq, SReads wq vy ad → Calls Try.prog 23 #[vy, .agg #[.int .i64 p, .int .i64 q]] wq fun e w' => ∃ v', e = .returned (.tuple #[v', .bool true]) ∧ SOwn wq.heap.size w' v' cs ∧ Below wq.heap.size wq w') := fun wq h => by
              have := icut_any vy ad p q wq h
              rw [← HAS.out, h1, h2, HT6.out, HCS.out] at this
              exact this
            clear h1 h2
            obtain ⟨k0, k1⟩ := C.out
            go_wp2_with fail
            refine (CY.out _ RY.out).mono ?_
            rintro e u1 ⟨vag, rfl, o, b⟩
            replace RZ := hid (RZ.out.below b)
            replace B : Hid (Below w.heap.size w u1) := B.out.trans (b.mono B.out.size)
            clear b
            clear k0 k1
            have RAG := hid o.reads
            clear o
            go_wp2_with fail
            refine (sameSpans_same _ _ cs _ RAG.out RZ.out).mono ?_
            rintro e u2 ⟨rfl, b⟩
            replace B : Hid (Below w.heap.size w u2) := B.out.trans (b.mono B.out.size)
            clear b
            go_wp2
            go_ret
            exact ⟨rfl, B.out⟩
      · obtain ⟨gl, hu0, hu1, gm, em⟩ := missB_out HT2.out
        have GL := hid gl
        have GM : Hid (goodL ms = true) := by rw [← HMS.out, em]; exact gm
        have HH : Hid (∀ k : Int, 0 ≤ k → hasL ms k = (decide (k < up) && !hasL ls k)) := fun k hk => by rw [← HMS.out, em]; exact (missL_has (good_chain GL.out) k).trans (by rw [decide_eq_true hk, Bool.true_and])
        clear gl gm em
        go_wp2_with fail
        refine (numberOf_any w.heap.size _ _ (K0.out.below B.out)).mono ?_
        rintro e w' ⟨n, hn, rfl, hw⟩
        obtain rfl := hw.symm
        obtain ⟨bi, hbi⟩ : ∃ t, hasL ls ((n : Int) % 50) = t := ⟨_, rfl⟩
        have HBI := hid hbi
        have HBO : Hid (hasL ms ((n : Int) % 50) = (decide ((n : Int) % 50 < up) && !bi)) := by show _ = _; rw [HH.out _ (by omega), hbi]
        clear hbi HH
        go_wp2_with fail
        refine (ihas_eq vl ls _ bi HBI.out _ RL.out GL.out).mono ?_
        rintro e y12 ⟨rfl, b⟩
        replace RX := hid (RX.out.below b)
        replace RY := hid (RY.out.below b)
        replace RZ := hid (RZ.out.below b)
        replace C := hid (C.out.on b)
        replace B : Hid (Below w.heap.size w y12) := B.out.trans (b.mono B.out.size)
        clear b
        by_cases hk : (n : Int) % 50 < up
        · have dk : decide ((n : Int) % 50 < up) = true := by simpa using hk
          replace HBO : Hid (hasL ms ((n : Int) % 50) = !bi) := by have := HBO.out; rw [dk, Bool.true_and] at this; exact this
          have dbi : ((!bi) != (!bi)) = false := by simp
          go_wp2_with fail
          refine (ihas_eq vx ms _ (!bi) HBO.out _ RX.out GM.out).mono ?_
          rintro e y13 ⟨rfl, b⟩
          replace RY := hid (RY.out.below b)
          replace RZ := hid (RZ.out.below b)
          replace C := hid (C.out.on b)
          replace B : Hid (Below w.heap.size w y13) := B.out.trans (b.mono B.out.size)
          clear b
          cases t4
          · go_wp2
            go_ret
            exact ⟨rfl, B.out⟩
          · cases t6
            · go_wp2
              go_ret
              exact ⟨rfl, B.out⟩
            · obtain ⟨h1, h2⟩ := again_out HT4.out
              have CY : Hid (∀ wq, SReads wq vy ad → Calls Try.prog 23 #[vy, .agg #[.int .i64 p, .int .i64 q]] wq fun e w' => ∃ v', e = .returned (.tuple #[v', .bool true]) ∧ SOwn wq.heap.size w' v' cs ∧ Below wq.heap.size wq w') := fun wq h => by
                have := icut_any vy ad p q wq h
                rw [← HAS.out, h1, h2, HT6.out, HCS.out] at this
                exact this
              clear h1 h2
              obtain ⟨k0, k1⟩ := C.out
              go_wp2_with fail
              refine (CY.out _ RY.out).mono ?_
              rintro e u1 ⟨vag, rfl, o, b⟩
              replace RZ := hid (RZ.out.below b)
              replace B : Hid (Below w.heap.size w u1) := B.out.trans (b.mono B.out.size)
              clear b
              clear k0 k1
              have RAG := hid o.reads
              clear o
              go_wp2_with fail
              refine (sameSpans_same _ _ cs _ RAG.out RZ.out).mono ?_
              rintro e u2 ⟨rfl, b⟩
              replace B : Hid (Below w.heap.size w u2) := B.out.trans (b.mono B.out.size)
              clear b
              go_wp2
              go_ret
              exact ⟨rfl, B.out⟩
        · have dk : decide ((n : Int) % 50 < up) = false := by simpa using hk
          replace HBO : Hid (hasL ms ((n : Int) % 50) = false) := by have := HBO.out; rw [dk, Bool.false_and] at this; exact this
          go_wp2_with fail
          refine (ihas_eq vx ms _ false HBO.out _ RX.out GM.out).mono ?_
          rintro e y13 ⟨rfl, b⟩
          replace RY := hid (RY.out.below b)
          replace RZ := hid (RZ.out.below b)
          replace C := hid (C.out.on b)
          replace B : Hid (Below w.heap.size w y13) := B.out.trans (b.mono B.out.size)
          clear b
          cases t4
          · go_wp2
            go_ret
            exact ⟨rfl, B.out⟩
          · cases t6
            · go_wp2
              go_ret
              exact ⟨rfl, B.out⟩
            · obtain ⟨h1, h2⟩ := again_out HT4.out
              have CY : Hid (∀ wq, SReads wq vy ad → Calls Try.prog 23 #[vy, .agg #[.int .i64 p, .int .i64 q]] wq fun e w' => ∃ v', e = .returned (.tuple #[v', .bool true]) ∧ SOwn wq.heap.size w' v' cs ∧ Below wq.heap.size wq w') := fun wq h => by
                have := icut_any vy ad p q wq h
                rw [← HAS.out, h1, h2, HT6.out, HCS.out] at this
                exact this
              clear h1 h2
              obtain ⟨k0, k1⟩ := C.out
              go_wp2_with fail
              refine (CY.out _ RY.out).mono ?_
              rintro e u1 ⟨vag, rfl, o, b⟩
              replace RZ := hid (RZ.out.below b)
              replace B : Hid (Below w.heap.size w u1) := B.out.trans (b.mono B.out.size)
              clear b
              clear k0 k1
              have RAG := hid o.reads
              clear o
              go_wp2_with fail
              refine (sameSpans_same _ _ cs _ RAG.out RZ.out).mono ?_
              rintro e u2 ⟨rfl, b⟩
              replace B : Hid (Below w.heap.size w u2) := B.out.trans (b.mono B.out.size)
              clear b
              go_wp2
              go_ret
              exact ⟨rfl, B.out⟩
  · cases mb
    · clear RA RB RJ RM HJB HMB HGX hxy
      as_aux_lemma =>
        have CM := hid (K1.out.then B.out)
        go_wp2_with fail
        refine (drawMissing_any _ _ CM.out).mono ?_
        rintro e y1 ⟨vl, up, rfl, ls, hls, rl, b⟩
        replace B : Hid (Below w.heap.size w y1) := B.out.trans (b.mono B.out.size)
        clear b
        have RL := hid rl
        clear rl CM
        obtain ⟨t2, ht2⟩ : ∃ t, missB ls up = t := ⟨_, rfl⟩
        obtain ⟨ms, hms⟩ : ∃ ms, missY ls up = ms := ⟨_, rfl⟩
        have HT2 := hid ht2
        have HMS := hid hms
        have MI : Hid (∀ wq, SReads wq vl ls → Calls Try.prog 18 #[vl, .int .i64 up] wq fun e w' => ∃ v', e = .returned (.tuple #[v', .bool t2]) ∧ SOwn wq.heap.size w' v' ms ∧ Below wq.heap.size wq w') := by rw [← ht2, ← hms]; exact fun w => imissIn_any vl ls up w
        have MS : Hid (∀ wq, SReads wq vl ls → Calls Try.prog 19 #[vl, .int .i64 up] wq fun e w' => ∃ v', e = .returned (.tuple #[v', .bool t2]) ∧ SOwn wq.heap.size w' v' ms ∧ Below wq.heap.size wq w') := by rw [← ht2, ← hms]; exact fun w => smissIn_any vl ls up w
        clear ht2 hms
        go_wp2_with fail
        refine (MI.out _ RL.out).mono ?_
        rintro e y2 ⟨vx, rfl, o, b⟩
        replace RL := hid (RL.out.below b)
        replace B : Hid (Below w.heap.size w y2) := B.out.trans (b.mono B.out.size)
        clear b
        have RX := hid o.reads
        clear o
        go_wp2_with fail
        refine (MS.out _ RL.out).mono ?_
        rintro e y3 ⟨vx2, rfl, o, b⟩
        replace RL := hid (RL.out.below b)
        replace RX := hid (RX.out.below b)
        replace B : Hid (Below w.heap.size w y3) := B.out.trans (b.mono B.out.size)
        clear b
        have RX2 := hid o.reads
        clear o
        clear MI MS
        have CM := hid (K1.out.then B.out)
        go_wp2_with fail
        refine (drawAdd_any _ _ CM.out).mono ?_
        rintro e y4 ⟨vt, p, q, rfl, ts, hts, rt, b⟩
        replace RL := hid (RL.out.below b)
        replace RX := hid (RX.out.below b)
        replace RX2 := hid (RX2.out.below b)
        replace B : Hid (Below w.heap.size w y4) := B.out.trans (b.mono B.out.size)
        clear b
        have RT := hid rt
        clear rt CM
        obtain ⟨t4, ht4⟩ : ∃ t, addOk ts (p, q) = t := ⟨_, rfl⟩
        obtain ⟨ad, has⟩ : ∃ l, addY ts (p, q) = l := ⟨_, rfl⟩
        obtain ⟨nn, hnn⟩ : ∃ l, addN ts (p, q) = l := ⟨_, rfl⟩
        obtain ⟨t6, ht6⟩ : ∃ t, cutB ts (p, q) = t := ⟨_, rfl⟩
        obtain ⟨cs, hcs⟩ : ∃ l, cutY ts (p, q) = l := ⟨_, rfl⟩
        have HT4 := hid ht4
        have HAS := hid has
        have HT6 := hid ht6
        have HCS := hid hcs
        have AI : Hid (∀ wq, SReads wq vt ts → Calls Try.prog 21 #[vt, .agg #[.int .i64 p, .int .i64 q]] wq fun e w' => ∃ v', e = .returned (.tuple #[v', .int .i64 nn, .bool t4]) ∧ SOwn wq.heap.size w' v' ad ∧ Below wq.heap.size wq w') := by rw [← ht4, ← has, ← hnn]; exact fun w => iaddSpan_any vt ts p q w
        have AS : Hid (∀ wq, SReads wq vt ts → Calls Try.prog 22 #[vt, .agg #[.int .i64 p, .int .i64 q]] wq fun e w' => ∃ v', e = .returned (.tuple #[v', .int .i64 nn, .bool t4]) ∧ SOwn wq.heap.size w' v' ad ∧ Below wq.heap.size wq w') := by rw [← ht4, ← has, ← hnn]; exact fun w => saddSpan_any vt ts p q w
        have CI : Hid (∀ wq, SReads wq vt ts → Calls Try.prog 23 #[vt, .agg #[.int .i64 p, .int .i64 q]] wq fun e w' => ∃ v', e = .returned (.tuple #[v', .bool t6]) ∧ SOwn wq.heap.size w' v' cs ∧ Below wq.heap.size wq w') := by rw [← ht6, ← hcs]; exact fun w => icut_any vt ts p q w
        have CS : Hid (∀ wq, SReads wq vt ts → Calls Try.prog 24 #[vt, .agg #[.int .i64 p, .int .i64 q]] wq fun e w' => ∃ v', e = .returned (.tuple #[v', .bool t6]) ∧ SOwn wq.heap.size w' v' cs ∧ Below wq.heap.size wq w') := by rw [← ht6, ← hcs]; exact fun w => scut_any vt ts p q w
        clear ht4 has hnn ht6 hcs
        go_wp2_with fail
        refine (AI.out _ (RT.out.below ((Below.refl _ _).alloc (Nat.le_refl _) _))).mono ?_
        rintro e y5 ⟨vy, rfl, o, b⟩
        have C : Hid (Box2 y5 y4.heap.size p q) := box2 b
        replace b := sbox_below b
        replace RL := hid (RL.out.below b)
        replace RX := hid (RX.out.below b)
        replace RX2 := hid (RX2.out.below b)
        replace RT := hid (RT.out.below b)
        replace B : Hid (Below w.heap.size w y5) := B.out.trans (b.mono B.out.size)
        clear b
        have RY := hid o.reads
        clear o
        obtain ⟨k0, k1⟩ := C.out
        go_wp2_with fail
        refine (AS.out _ RT.out).mono ?_
        rintro e y6 ⟨vy2, rfl, o, b⟩
        replace RL := hid (RL.out.below b)
        replace RX := hid (RX.out.below b)
        replace RX2 := hid (RX2.out.below b)
        replace RT := hid (RT.out.below b)
        replace RY := hid (RY.out.below b)
        replace C := hid (C.out.on b)
        replace B : Hid (Below w.heap.size w y6) := B.out.trans (b.mono B.out.size)
        clear b
        have RY2 := hid o.reads
        clear o
        clear k0 k1
        obtain ⟨k0, k1⟩ := C.out
        go_wp2_with fail
        refine (CI.out _ RT.out).mono ?_
        rintro e y7 ⟨vz, rfl, o, b⟩
        replace RL := hid (RL.out.below b)
        replace RX := hid (RX.out.below b)
        replace RX2 := hid (RX2.out.below b)
        replace RT := hid (RT.out.below b)
        replace RY := hid (RY.out.below b)
        replace RY2 := hid (RY2.out.below b)
        replace C := hid (C.out.on b)
        replace B : Hid (Below w.heap.size w y7) := B.out.trans (b.mono B.out.size)
        clear b
        have RZ := hid o.reads
        clear o
        clear k0 k1
        obtain ⟨k0, k1⟩ := C.out
        go_wp2_with fail
        refine (CS.out _ RT.out).mono ?_
        rintro e y8 ⟨vz2, rfl, o, b⟩
        replace RL := hid (RL.out.below b)
        replace RX := hid (RX.out.below b)
        replace RX2 := hid (RX2.out.below b)
        replace RY := hid (RY.out.below b)
        replace RY2 := hid (RY2.out.below b)
        replace RZ := hid (RZ.out.below b)
        replace C := hid (C.out.on b)
        replace B : Hid (Below w.heap.size w y8) := B.out.trans (b.mono B.out.size)
        clear b
        have RZ2 := hid o.reads
        clear o
        clear k0 k1 RT AI AS CI CS
        have d2 : (t2 != t2) = false := by simp
        have d4 : (t4 != t4) = false := by simp
        have d6 : (t6 != t6) = false := by simp
        have dn : (nn != nn) = false := by simp
        go_wp2_with fail
        refine (sameSpans_same _ _ ms _ RX.out RX2.out).mono ?_
        rintro e y9 ⟨rfl, b⟩
        replace RL := hid (RL.out.below b)
        replace RX := hid (RX.out.below b)
        replace RY := hid (RY.out.below b)
        replace RY2 := hid (RY2.out.below b)
        replace RZ := hid (RZ.out.below b)
        replace RZ2 := hid (RZ2.out.below b)
        replace C := hid (C.out.on b)
        replace B : Hid (Below w.heap.size w y9) := B.out.trans (b.mono B.out.size)
        clear b
        clear RX2
        go_wp2_with fail
        refine (sameSpans_same _ _ ad _ RY.out RY2.out).mono ?_
        rintro e y10 ⟨rfl, b⟩
        replace RL := hid (RL.out.below b)
        replace RX := hid (RX.out.below b)
        replace RY := hid (RY.out.below b)
        replace RZ := hid (RZ.out.below b)
        replace RZ2 := hid (RZ2.out.below b)
        replace C := hid (C.out.on b)
        replace B : Hid (Below w.heap.size w y10) := B.out.trans (b.mono B.out.size)
        clear b
        clear RY2
        go_wp2_with fail
        refine (sameSpans_same _ _ cs _ RZ.out RZ2.out).mono ?_
        rintro e y11 ⟨rfl, b⟩
        replace RL := hid (RL.out.below b)
        replace RX := hid (RX.out.below b)
        replace RY := hid (RY.out.below b)
        replace RZ := hid (RZ.out.below b)
        replace C := hid (C.out.on b)
        replace B : Hid (Below w.heap.size w y11) := B.out.trans (b.mono B.out.size)
        clear b
        clear RZ2
        cases t2
        · cases t4
          · go_wp2
            go_ret
            exact ⟨rfl, B.out⟩
          · cases t6
            · go_wp2
              go_ret
              exact ⟨rfl, B.out⟩
            · obtain ⟨h1, h2⟩ := again_out HT4.out
              have CY : Hid (∀ wq, SReads wq vy ad → Calls Try.prog 23 #[vy, .agg #[.int .i64 p, .int .i64 q]] wq fun e w' => ∃ v', e = .returned (.tuple #[v', .bool true]) ∧ SOwn wq.heap.size w' v' cs ∧ Below wq.heap.size wq w') := fun wq h => by
                have := icut_any vy ad p q wq h
                rw [← HAS.out, h1, h2, HT6.out, HCS.out] at this
                exact this
              clear h1 h2
              obtain ⟨k0, k1⟩ := C.out
              go_wp2_with fail
              refine (CY.out _ RY.out).mono ?_
              rintro e u1 ⟨vag, rfl, o, b⟩
              replace RZ := hid (RZ.out.below b)
              replace B : Hid (Below w.heap.size w u1) := B.out.trans (b.mono B.out.size)
              clear b
              clear k0 k1
              have RAG := hid o.reads
              clear o
              go_wp2_with fail
              refine (sameSpans_same _ _ cs _ RAG.out RZ.out).mono ?_
              rintro e u2 ⟨rfl, b⟩
              replace B : Hid (Below w.heap.size w u2) := B.out.trans (b.mono B.out.size)
              clear b
              go_wp2
              go_ret
              exact ⟨rfl, B.out⟩
        · obtain ⟨gl, hu0, hu1, gm, em⟩ := missB_out HT2.out
          have GL := hid gl
          have GM : Hid (goodL ms = true) := by rw [← HMS.out, em]; exact gm
          have HH : Hid (∀ k : Int, 0 ≤ k → hasL ms k = (decide (k < up) && !hasL ls k)) := fun k hk => by rw [← HMS.out, em]; exact (missL_has (good_chain GL.out) k).trans (by rw [decide_eq_true hk, Bool.true_and])
          clear gl gm em
          go_wp2_with fail
          refine (numberOf_any w.heap.size _ _ (K0.out.below B.out)).mono ?_
          rintro e w' ⟨n, hn, rfl, hw⟩
          obtain rfl := hw.symm
          obtain ⟨bi, hbi⟩ : ∃ t, hasL ls ((n : Int) % 50) = t := ⟨_, rfl⟩
          have HBI := hid hbi
          have HBO : Hid (hasL ms ((n : Int) % 50) = (decide ((n : Int) % 50 < up) && !bi)) := by show _ = _; rw [HH.out _ (by omega), hbi]
          clear hbi HH
          go_wp2_with fail
          refine (ihas_eq vl ls _ bi HBI.out _ RL.out GL.out).mono ?_
          rintro e y12 ⟨rfl, b⟩
          replace RX := hid (RX.out.below b)
          replace RY := hid (RY.out.below b)
          replace RZ := hid (RZ.out.below b)
          replace C := hid (C.out.on b)
          replace B : Hid (Below w.heap.size w y12) := B.out.trans (b.mono B.out.size)
          clear b
          by_cases hk : (n : Int) % 50 < up
          · have dk : decide ((n : Int) % 50 < up) = true := by simpa using hk
            replace HBO : Hid (hasL ms ((n : Int) % 50) = !bi) := by have := HBO.out; rw [dk, Bool.true_and] at this; exact this
            have dbi : ((!bi) != (!bi)) = false := by simp
            go_wp2_with fail
            refine (ihas_eq vx ms _ (!bi) HBO.out _ RX.out GM.out).mono ?_
            rintro e y13 ⟨rfl, b⟩
            replace RY := hid (RY.out.below b)
            replace RZ := hid (RZ.out.below b)
            replace C := hid (C.out.on b)
            replace B : Hid (Below w.heap.size w y13) := B.out.trans (b.mono B.out.size)
            clear b
            cases t4
            · go_wp2
              go_ret
              exact ⟨rfl, B.out⟩
            · cases t6
              · go_wp2
                go_ret
                exact ⟨rfl, B.out⟩
              · obtain ⟨h1, h2⟩ := again_out HT4.out
                have CY : Hid (∀ wq, SReads wq vy ad → Calls Try.prog 23 #[vy, .agg #[.int .i64 p, .int .i64 q]] wq fun e w' => ∃ v', e = .returned (.tuple #[v', .bool true]) ∧ SOwn wq.heap.size w' v' cs ∧ Below wq.heap.size wq w') := fun wq h => by
                  have := icut_any vy ad p q wq h
                  rw [← HAS.out, h1, h2, HT6.out, HCS.out] at this
                  exact this
                clear h1 h2
                obtain ⟨k0, k1⟩ := C.out
                go_wp2_with fail
                refine (CY.out _ RY.out).mono ?_
                rintro e u1 ⟨vag, rfl, o, b⟩
                replace RZ := hid (RZ.out.below b)
                replace B : Hid (Below w.heap.size w u1) := B.out.trans (b.mono B.out.size)
                clear b
                clear k0 k1
                have RAG := hid o.reads
                clear o
                go_wp2_with fail
                refine (sameSpans_same _ _ cs _ RAG.out RZ.out).mono ?_
                rintro e u2 ⟨rfl, b⟩
                replace B : Hid (Below w.heap.size w u2) := B.out.trans (b.mono B.out.size)
                clear b
                go_wp2
                go_ret
                exact ⟨rfl, B.out⟩
          · have dk : decide ((n : Int) % 50 < up) = false := by simpa using hk
            replace HBO : Hid (hasL ms ((n : Int) % 50) = false) := by have := HBO.out; rw [dk, Bool.false_and] at this; exact this
            go_wp2_with fail
            refine (ihas_eq vx ms _ false HBO.out _ RX.out GM.out).mono ?_
            rintro e y13 ⟨rfl, b⟩
            replace RY := hid (RY.out.below b)
            replace RZ := hid (RZ.out.below b)
            replace C := hid (C.out.on b)
            replace B : Hid (Below w.heap.size w y13) := B.out.trans (b.mono B.out.size)
            clear b
            cases t4
            · go_wp2
              go_ret
              exact ⟨rfl, B.out⟩
            · cases t6
              · go_wp2
                go_ret
                exact ⟨rfl, B.out⟩
              · obtain ⟨h1, h2⟩ := again_out HT4.out
                have CY : Hid (∀ wq, SReads wq vy ad → Calls Try.prog 23 #[vy, .agg #[.int .i64 p, .int .i64 q]] wq fun e w' => ∃ v', e = .returned (.tuple #[v', .bool true]) ∧ SOwn wq.heap.size w' v' cs ∧ Below wq.heap.size wq w') := fun wq h => by
                  have := icut_any vy ad p q wq h
                  rw [← HAS.out, h1, h2, HT6.out, HCS.out] at this
                  exact this
                clear h1 h2
                obtain ⟨k0, k1⟩ := C.out
                go_wp2_with fail
                refine (CY.out _ RY.out).mono ?_
                rintro e u1 ⟨vag, rfl, o, b⟩
                replace RZ := hid (RZ.out.below b)
                replace B : Hid (Below w.heap.size w u1) := B.out.trans (b.mono B.out.size)
                clear b
                clear k0 k1
                have RAG := hid o.reads
                clear o
                go_wp2_with fail
                refine (sameSpans_same _ _ cs _ RAG.out RZ.out).mono ?_
                rintro e u2 ⟨rfl, b⟩
                replace B : Hid (Below w.heap.size w u2) := B.out.trans (b.mono B.out.size)
                clear b
                go_wp2
                go_ret
                exact ⟨rfl, B.out⟩
    · obtain ⟨ga, gb, lj, ej⟩ := joinB_out HJB.out
      obtain ⟨lm, em⟩ := meetB_out HMB.out
      rw [ej] at RJ
      rw [em] at RM
      have GA := hid ga
      have GB := hid gb
      have GJ := hid (good_mk (joinL_chain (good_chain ga) (good_chain gb)) lj)
      have GM := hid (good_mk (meetL_chain (good_chain ga) (good_chain gb)) lm)
      have HSUM := hid (len_sum (good_chain ga) (good_chain gb))
      have HJH := hid (fun n => joinL_has (good_chain ga) (good_chain gb) n)
      have HMH := hid (fun n => meetL_has xs ys n)
      obtain ⟨ba0, ba1, _⟩ := len_bounds (good_chain ga) (Int.le_refl _)
      obtain ⟨bb0, bb1, _⟩ := len_bounds (good_chain gb) (Int.le_refl _)
      obtain ⟨bj0, bj1, _⟩ := len_bounds (good_chain GJ.out) (Int.le_refl _)
      obtain ⟨bm0, bm1, _⟩ := len_bounds (good_chain GM.out) (Int.le_refl _)
      clear lj lm ej em ga gb
      obtain ⟨p, hp⟩ : ∃ z, lenL xs = z := ⟨_, rfl⟩
      obtain ⟨q, hq⟩ : ∃ z, lenL ys = z := ⟨_, rfl⟩
      obtain ⟨r, hr⟩ : ∃ z, lenL (joinL xs ys) = z := ⟨_, rfl⟩
      obtain ⟨s, hs⟩ : ∃ z, lenL (meetL xs ys) = z := ⟨_, rfl⟩
      have HLp := hid hp
      have HLq := hid hq
      have HLr := hid hr
      have HLs := hid hs
      obtain ⟨pq, hpq⟩ : ∃ z, p + q = z := ⟨_, rfl⟩
      have hsum : r + s = pq := by rw [← hpq, ← hp, ← hq, ← hr, ← hs]; exact HSUM.out
      rw [hp] at ba0 ba1
      rw [hq] at bb0 bb1
      rw [hr] at bj0 bj1
      rw [hs] at bm0 bm1
      have rw1 : IntKind.i64.wrap pq = pq := by rw [IntKind.wrap_i64]; omega
      have dpq : (pq != pq) = false := by simp
      clear hp hq hr hs HSUM ba0 ba1 bb0 bb1 bj0 bj1 bm0 bm1
      go_wp2_with fail
      refine (ilen_eq va xs p HLp.out _ RA.out GA.out).mono ?_
      rintro e v1 ⟨rfl, b⟩
      replace RA := hid (RA.out.below b)
      replace RB := hid (RB.out.below b)
      replace RJ := hid (RJ.out.below b)
      replace RM := hid (RM.out.below b)
      replace B : Hid (Below w.heap.size w v1) := B.out.trans (b.mono B.out.size)
      clear b
      go_wp2_with fail
      refine (ilen_eq vb ys q HLq.out _ RB.out GB.out).mono ?_
      rintro e v2 ⟨rfl, b⟩
      replace RA := hid (RA.out.below b)
      replace RB := hid (RB.out.below b)
      replace RJ := hid (RJ.out.below b)
      replace RM := hid (RM.out.below b)
      replace B : Hid (Below w.heap.size w v2) := B.out.trans (b.mono B.out.size)
      clear b
      go_wp2_with fail
      refine (ilen_eq vj _ r HLr.out _ RJ.out GJ.out).mono ?_
      rintro e v3 ⟨rfl, b⟩
      replace RA := hid (RA.out.below b)
      replace RB := hid (RB.out.below b)
      replace RJ := hid (RJ.out.below b)
      replace RM := hid (RM.out.below b)
      replace B : Hid (Below w.heap.size w v3) := B.out.trans (b.mono B.out.size)
      clear b
      go_wp2_with fail
      refine (ilen_eq vm _ s HLs.out _ RM.out GM.out).mono ?_
      rintro e v4 ⟨rfl, b⟩
      replace RA := hid (RA.out.below b)
      replace RB := hid (RB.out.below b)
      replace RJ := hid (RJ.out.below b)
      replace RM := hid (RM.out.below b)
      replace B : Hid (Below w.heap.size w v4) := B.out.trans (b.mono B.out.size)
      clear b
      go_wp2_with fail
      refine (numberOf_any w.heap.size _ _ (K1.out.below B.out)).mono ?_
      rintro e w' ⟨n, hn, rfl, hw⟩
      obtain rfl := hw.symm
      obtain ⟨bx, hbx⟩ : ∃ t, hasL xs ((n : Int) % 40) = t := ⟨_, rfl⟩
      obtain ⟨by', hby⟩ : ∃ t, hasL ys ((n : Int) % 40) = t := ⟨_, rfl⟩
      have HBX := hid hbx
      have HBY := hid hby
      have HBJ : Hid (hasL (joinL xs ys) ((n : Int) % 40) = (bx || by')) := by show _ = _; rw [HJH.out, hbx, hby]
      have HBM : Hid (hasL (meetL xs ys) ((n : Int) % 40) = (bx && by')) := by show _ = _; rw [HMH.out, hbx, hby]
      have dby : (by' != by') = false := by simp
      clear hbx hby HJH HMH
      go_wp2_with fail
      refine (ihas_eq va xs _ bx HBX.out _ RA.out GA.out).mono ?_
      rintro e v5 ⟨rfl, b⟩
      replace RB := hid (RB.out.below b)
      replace RJ := hid (RJ.out.below b)
      replace RM := hid (RM.out.below b)
      replace B : Hid (Below w.heap.size w v5) := B.out.trans (b.mono B.out.size)
      clear b
      go_wp2_with fail
      refine (ihas_eq vb ys _ by' HBY.out _ RB.out GB.out).mono ?_
      rintro e v6 ⟨rfl, b⟩
      replace RJ := hid (RJ.out.below b)
      replace RM := hid (RM.out.below b)
      replace B : Hid (Below w.heap.size w v6) := B.out.trans (b.mono B.out.size)
      clear b
      cases bx
      · as_aux_lemma =>
          replace HBJ : Hid (hasL (joinL xs ys) ((n : Int) % 40) = by') := HBJ.out
          replace HBM : Hid (hasL (meetL xs ys) ((n : Int) % 40) = false) := HBM.out
          go_wp2_with fail
          refine (ihas_eq vj _ _ by' HBJ.out _ RJ.out GJ.out).mono ?_
          rintro e v7 ⟨rfl, b⟩
          replace RJ := hid (RJ.out.below b)
          replace RM := hid (RM.out.below b)
          replace B : Hid (Below w.heap.size w v7) := B.out.trans (b.mono B.out.size)
          clear b
          go_wp2_with fail
          refine (ihas_eq vm _ _ false HBM.out _ RM.out GM.out).mono ?_
          rintro e v8 ⟨rfl, b⟩
          replace RJ := hid (RJ.out.below b)
          replace RM := hid (RM.out.below b)
          replace B : Hid (Below w.heap.size w v8) := B.out.trans (b.mono B.out.size)
          clear b
          go_wp2_with fail
          refine (igood_eq vj _ true GJ.out _ RJ.out).mono ?_
          rintro e v9 ⟨rfl, b⟩
          replace RM := hid (RM.out.below b)
          replace B : Hid (Below w.heap.size w v9) := B.out.trans (b.mono B.out.size)
          clear b
          go_wp2_with fail
          refine (igood_eq vm _ true GM.out _ RM.out).mono ?_
          rintro e v10 ⟨rfl, b⟩
          replace B : Hid (Below w.heap.size w v10) := B.out.trans (b.mono B.out.size)
          clear b
          clear RJ RM HLp HLq HLr HLs HBX HBY HBJ HBM dby dpq rw1 hsum hpq GA GB GJ GM HJB HMB HGX hxy
          as_aux_lemma =>
            have CM := hid (K1.out.then B.out)
            go_wp2_with fail
            refine (drawMissing_any _ _ CM.out).mono ?_
            rintro e y1 ⟨vl, up, rfl, ls, hls, rl, b⟩
            replace B : Hid (Below w.heap.size w y1) := B.out.trans (b.mono B.out.size)
            clear b
            have RL := hid rl
            clear rl CM
            obtain ⟨t2, ht2⟩ : ∃ t, missB ls up = t := ⟨_, rfl⟩
            obtain ⟨ms, hms⟩ : ∃ ms, missY ls up = ms := ⟨_, rfl⟩
            have HT2 := hid ht2
            have HMS := hid hms
            have MI : Hid (∀ wq, SReads wq vl ls → Calls Try.prog 18 #[vl, .int .i64 up] wq fun e w' => ∃ v', e = .returned (.tuple #[v', .bool t2]) ∧ SOwn wq.heap.size w' v' ms ∧ Below wq.heap.size wq w') := by rw [← ht2, ← hms]; exact fun w => imissIn_any vl ls up w
            have MS : Hid (∀ wq, SReads wq vl ls → Calls Try.prog 19 #[vl, .int .i64 up] wq fun e w' => ∃ v', e = .returned (.tuple #[v', .bool t2]) ∧ SOwn wq.heap.size w' v' ms ∧ Below wq.heap.size wq w') := by rw [← ht2, ← hms]; exact fun w => smissIn_any vl ls up w
            clear ht2 hms
            go_wp2_with fail
            refine (MI.out _ RL.out).mono ?_
            rintro e y2 ⟨vx, rfl, o, b⟩
            replace RL := hid (RL.out.below b)
            replace B : Hid (Below w.heap.size w y2) := B.out.trans (b.mono B.out.size)
            clear b
            have RX := hid o.reads
            clear o
            go_wp2_with fail
            refine (MS.out _ RL.out).mono ?_
            rintro e y3 ⟨vx2, rfl, o, b⟩
            replace RL := hid (RL.out.below b)
            replace RX := hid (RX.out.below b)
            replace B : Hid (Below w.heap.size w y3) := B.out.trans (b.mono B.out.size)
            clear b
            have RX2 := hid o.reads
            clear o
            clear MI MS
            have CM := hid (K1.out.then B.out)
            go_wp2_with fail
            refine (drawAdd_any _ _ CM.out).mono ?_
            rintro e y4 ⟨vt, p, q, rfl, ts, hts, rt, b⟩
            replace RL := hid (RL.out.below b)
            replace RX := hid (RX.out.below b)
            replace RX2 := hid (RX2.out.below b)
            replace B : Hid (Below w.heap.size w y4) := B.out.trans (b.mono B.out.size)
            clear b
            have RT := hid rt
            clear rt CM
            obtain ⟨t4, ht4⟩ : ∃ t, addOk ts (p, q) = t := ⟨_, rfl⟩
            obtain ⟨ad, has⟩ : ∃ l, addY ts (p, q) = l := ⟨_, rfl⟩
            obtain ⟨nn, hnn⟩ : ∃ l, addN ts (p, q) = l := ⟨_, rfl⟩
            obtain ⟨t6, ht6⟩ : ∃ t, cutB ts (p, q) = t := ⟨_, rfl⟩
            obtain ⟨cs, hcs⟩ : ∃ l, cutY ts (p, q) = l := ⟨_, rfl⟩
            have HT4 := hid ht4
            have HAS := hid has
            have HT6 := hid ht6
            have HCS := hid hcs
            have AI : Hid (∀ wq, SReads wq vt ts → Calls Try.prog 21 #[vt, .agg #[.int .i64 p, .int .i64 q]] wq fun e w' => ∃ v', e = .returned (.tuple #[v', .int .i64 nn, .bool t4]) ∧ SOwn wq.heap.size w' v' ad ∧ Below wq.heap.size wq w') := by rw [← ht4, ← has, ← hnn]; exact fun w => iaddSpan_any vt ts p q w
            have AS : Hid (∀ wq, SReads wq vt ts → Calls Try.prog 22 #[vt, .agg #[.int .i64 p, .int .i64 q]] wq fun e w' => ∃ v', e = .returned (.tuple #[v', .int .i64 nn, .bool t4]) ∧ SOwn wq.heap.size w' v' ad ∧ Below wq.heap.size wq w') := by rw [← ht4, ← has, ← hnn]; exact fun w => saddSpan_any vt ts p q w
            have CI : Hid (∀ wq, SReads wq vt ts → Calls Try.prog 23 #[vt, .agg #[.int .i64 p, .int .i64 q]] wq fun e w' => ∃ v', e = .returned (.tuple #[v', .bool t6]) ∧ SOwn wq.heap.size w' v' cs ∧ Below wq.heap.size wq w') := by rw [← ht6, ← hcs]; exact fun w => icut_any vt ts p q w
            have CS : Hid (∀ wq, SReads wq vt ts → Calls Try.prog 24 #[vt, .agg #[.int .i64 p, .int .i64 q]] wq fun e w' => ∃ v', e = .returned (.tuple #[v', .bool t6]) ∧ SOwn wq.heap.size w' v' cs ∧ Below wq.heap.size wq w') := by rw [← ht6, ← hcs]; exact fun w => scut_any vt ts p q w
            clear ht4 has hnn ht6 hcs
            go_wp2_with fail
            refine (AI.out _ (RT.out.below ((Below.refl _ _).alloc (Nat.le_refl _) _))).mono ?_
            rintro e y5 ⟨vy, rfl, o, b⟩
            have C : Hid (Box2 y5 y4.heap.size p q) := box2 b
            replace b := sbox_below b
            replace RL := hid (RL.out.below b)
            replace RX := hid (RX.out.below b)
            replace RX2 := hid (RX2.out.below b)
            replace RT := hid (RT.out.below b)
            replace B : Hid (Below w.heap.size w y5) := B.out.trans (b.mono B.out.size)
            clear b
            have RY := hid o.reads
            clear o
            obtain ⟨k0, k1⟩ := C.out
            go_wp2_with fail
            refine (AS.out _ RT.out).mono ?_
            rintro e y6 ⟨vy2, rfl, o, b⟩
            replace RL := hid (RL.out.below b)
            replace RX := hid (RX.out.below b)
            replace RX2 := hid (RX2.out.below b)
            replace RT := hid (RT.out.below b)
            replace RY := hid (RY.out.below b)
            replace C := hid (C.out.on b)
            replace B : Hid (Below w.heap.size w y6) := B.out.trans (b.mono B.out.size)
            clear b
            have RY2 := hid o.reads
            clear o
            clear k0 k1
            obtain ⟨k0, k1⟩ := C.out
            go_wp2_with fail
            refine (CI.out _ RT.out).mono ?_
            rintro e y7 ⟨vz, rfl, o, b⟩
            replace RL := hid (RL.out.below b)
            replace RX := hid (RX.out.below b)
            replace RX2 := hid (RX2.out.below b)
            replace RT := hid (RT.out.below b)
            replace RY := hid (RY.out.below b)
            replace RY2 := hid (RY2.out.below b)
            replace C := hid (C.out.on b)
            replace B : Hid (Below w.heap.size w y7) := B.out.trans (b.mono B.out.size)
            clear b
            have RZ := hid o.reads
            clear o
            clear k0 k1
            obtain ⟨k0, k1⟩ := C.out
            go_wp2_with fail
            refine (CS.out _ RT.out).mono ?_
            rintro e y8 ⟨vz2, rfl, o, b⟩
            replace RL := hid (RL.out.below b)
            replace RX := hid (RX.out.below b)
            replace RX2 := hid (RX2.out.below b)
            replace RY := hid (RY.out.below b)
            replace RY2 := hid (RY2.out.below b)
            replace RZ := hid (RZ.out.below b)
            replace C := hid (C.out.on b)
            replace B : Hid (Below w.heap.size w y8) := B.out.trans (b.mono B.out.size)
            clear b
            have RZ2 := hid o.reads
            clear o
            clear k0 k1 RT AI AS CI CS
            have d2 : (t2 != t2) = false := by simp
            have d4 : (t4 != t4) = false := by simp
            have d6 : (t6 != t6) = false := by simp
            have dn : (nn != nn) = false := by simp
            go_wp2_with fail
            refine (sameSpans_same _ _ ms _ RX.out RX2.out).mono ?_
            rintro e y9 ⟨rfl, b⟩
            replace RL := hid (RL.out.below b)
            replace RX := hid (RX.out.below b)
            replace RY := hid (RY.out.below b)
            replace RY2 := hid (RY2.out.below b)
            replace RZ := hid (RZ.out.below b)
            replace RZ2 := hid (RZ2.out.below b)
            replace C := hid (C.out.on b)
            replace B : Hid (Below w.heap.size w y9) := B.out.trans (b.mono B.out.size)
            clear b
            clear RX2
            go_wp2_with fail
            refine (sameSpans_same _ _ ad _ RY.out RY2.out).mono ?_
            rintro e y10 ⟨rfl, b⟩
            replace RL := hid (RL.out.below b)
            replace RX := hid (RX.out.below b)
            replace RY := hid (RY.out.below b)
            replace RZ := hid (RZ.out.below b)
            replace RZ2 := hid (RZ2.out.below b)
            replace C := hid (C.out.on b)
            replace B : Hid (Below w.heap.size w y10) := B.out.trans (b.mono B.out.size)
            clear b
            clear RY2
            go_wp2_with fail
            refine (sameSpans_same _ _ cs _ RZ.out RZ2.out).mono ?_
            rintro e y11 ⟨rfl, b⟩
            replace RL := hid (RL.out.below b)
            replace RX := hid (RX.out.below b)
            replace RY := hid (RY.out.below b)
            replace RZ := hid (RZ.out.below b)
            replace C := hid (C.out.on b)
            replace B : Hid (Below w.heap.size w y11) := B.out.trans (b.mono B.out.size)
            clear b
            clear RZ2
            cases t2
            · cases t4
              · go_wp2
                go_ret
                exact ⟨rfl, B.out⟩
              · cases t6
                · go_wp2
                  go_ret
                  exact ⟨rfl, B.out⟩
                · obtain ⟨h1, h2⟩ := again_out HT4.out
                  have CY : Hid (∀ wq, SReads wq vy ad → Calls Try.prog 23 #[vy, .agg #[.int .i64 p, .int .i64 q]] wq fun e w' => ∃ v', e = .returned (.tuple #[v', .bool true]) ∧ SOwn wq.heap.size w' v' cs ∧ Below wq.heap.size wq w') := fun wq h => by
                    have := icut_any vy ad p q wq h
                    rw [← HAS.out, h1, h2, HT6.out, HCS.out] at this
                    exact this
                  clear h1 h2
                  obtain ⟨k0, k1⟩ := C.out
                  go_wp2_with fail
                  refine (CY.out _ RY.out).mono ?_
                  rintro e u1 ⟨vag, rfl, o, b⟩
                  replace RZ := hid (RZ.out.below b)
                  replace B : Hid (Below w.heap.size w u1) := B.out.trans (b.mono B.out.size)
                  clear b
                  clear k0 k1
                  have RAG := hid o.reads
                  clear o
                  go_wp2_with fail
                  refine (sameSpans_same _ _ cs _ RAG.out RZ.out).mono ?_
                  rintro e u2 ⟨rfl, b⟩
                  replace B : Hid (Below w.heap.size w u2) := B.out.trans (b.mono B.out.size)
                  clear b
                  go_wp2
                  go_ret
                  exact ⟨rfl, B.out⟩
            · obtain ⟨gl, hu0, hu1, gm, em⟩ := missB_out HT2.out
              have GL := hid gl
              have GM : Hid (goodL ms = true) := by rw [← HMS.out, em]; exact gm
              have HH : Hid (∀ k : Int, 0 ≤ k → hasL ms k = (decide (k < up) && !hasL ls k)) := fun k hk => by rw [← HMS.out, em]; exact (missL_has (good_chain GL.out) k).trans (by rw [decide_eq_true hk, Bool.true_and])
              clear gl gm em
              go_wp2_with fail
              refine (numberOf_any w.heap.size _ _ (K0.out.below B.out)).mono ?_
              rintro e w' ⟨n, hn, rfl, hw⟩
              obtain rfl := hw.symm
              obtain ⟨bi, hbi⟩ : ∃ t, hasL ls ((n : Int) % 50) = t := ⟨_, rfl⟩
              have HBI := hid hbi
              have HBO : Hid (hasL ms ((n : Int) % 50) = (decide ((n : Int) % 50 < up) && !bi)) := by show _ = _; rw [HH.out _ (by omega), hbi]
              clear hbi HH
              go_wp2_with fail
              refine (ihas_eq vl ls _ bi HBI.out _ RL.out GL.out).mono ?_
              rintro e y12 ⟨rfl, b⟩
              replace RX := hid (RX.out.below b)
              replace RY := hid (RY.out.below b)
              replace RZ := hid (RZ.out.below b)
              replace C := hid (C.out.on b)
              replace B : Hid (Below w.heap.size w y12) := B.out.trans (b.mono B.out.size)
              clear b
              by_cases hk : (n : Int) % 50 < up
              · have dk : decide ((n : Int) % 50 < up) = true := by simpa using hk
                replace HBO : Hid (hasL ms ((n : Int) % 50) = !bi) := by have := HBO.out; rw [dk, Bool.true_and] at this; exact this
                have dbi : ((!bi) != (!bi)) = false := by simp
                go_wp2_with fail
                refine (ihas_eq vx ms _ (!bi) HBO.out _ RX.out GM.out).mono ?_
                rintro e y13 ⟨rfl, b⟩
                replace RY := hid (RY.out.below b)
                replace RZ := hid (RZ.out.below b)
                replace C := hid (C.out.on b)
                replace B : Hid (Below w.heap.size w y13) := B.out.trans (b.mono B.out.size)
                clear b
                cases t4
                · go_wp2
                  go_ret
                  exact ⟨rfl, B.out⟩
                · cases t6
                  · go_wp2
                    go_ret
                    exact ⟨rfl, B.out⟩
                  · obtain ⟨h1, h2⟩ := again_out HT4.out
                    have CY : Hid (∀ wq, SReads wq vy ad → Calls Try.prog 23 #[vy, .agg #[.int .i64 p, .int .i64 q]] wq fun e w' => ∃ v', e = .returned (.tuple #[v', .bool true]) ∧ SOwn wq.heap.size w' v' cs ∧ Below wq.heap.size wq w') := fun wq h => by
                      have := icut_any vy ad p q wq h
                      rw [← HAS.out, h1, h2, HT6.out, HCS.out] at this
                      exact this
                    clear h1 h2
                    obtain ⟨k0, k1⟩ := C.out
                    go_wp2_with fail
                    refine (CY.out _ RY.out).mono ?_
                    rintro e u1 ⟨vag, rfl, o, b⟩
                    replace RZ := hid (RZ.out.below b)
                    replace B : Hid (Below w.heap.size w u1) := B.out.trans (b.mono B.out.size)
                    clear b
                    clear k0 k1
                    have RAG := hid o.reads
                    clear o
                    go_wp2_with fail
                    refine (sameSpans_same _ _ cs _ RAG.out RZ.out).mono ?_
                    rintro e u2 ⟨rfl, b⟩
                    replace B : Hid (Below w.heap.size w u2) := B.out.trans (b.mono B.out.size)
                    clear b
                    go_wp2
                    go_ret
                    exact ⟨rfl, B.out⟩
              · have dk : decide ((n : Int) % 50 < up) = false := by simpa using hk
                replace HBO : Hid (hasL ms ((n : Int) % 50) = false) := by have := HBO.out; rw [dk, Bool.false_and] at this; exact this
                go_wp2_with fail
                refine (ihas_eq vx ms _ false HBO.out _ RX.out GM.out).mono ?_
                rintro e y13 ⟨rfl, b⟩
                replace RY := hid (RY.out.below b)
                replace RZ := hid (RZ.out.below b)
                replace C := hid (C.out.on b)
                replace B : Hid (Below w.heap.size w y13) := B.out.trans (b.mono B.out.size)
                clear b
                cases t4
                · go_wp2
                  go_ret
                  exact ⟨rfl, B.out⟩
                · cases t6
                  · go_wp2
                    go_ret
                    exact ⟨rfl, B.out⟩
                  · obtain ⟨h1, h2⟩ := again_out HT4.out
                    have CY : Hid (∀ wq, SReads wq vy ad → Calls Try.prog 23 #[vy, .agg #[.int .i64 p, .int .i64 q]] wq fun e w' => ∃ v', e = .returned (.tuple #[v', .bool true]) ∧ SOwn wq.heap.size w' v' cs ∧ Below wq.heap.size wq w') := fun wq h => by
                      have := icut_any vy ad p q wq h
                      rw [← HAS.out, h1, h2, HT6.out, HCS.out] at this
                      exact this
                    clear h1 h2
                    obtain ⟨k0, k1⟩ := C.out
                    go_wp2_with fail
                    refine (CY.out _ RY.out).mono ?_
                    rintro e u1 ⟨vag, rfl, o, b⟩
                    replace RZ := hid (RZ.out.below b)
                    replace B : Hid (Below w.heap.size w u1) := B.out.trans (b.mono B.out.size)
                    clear b
                    clear k0 k1
                    have RAG := hid o.reads
                    clear o
                    go_wp2_with fail
                    refine (sameSpans_same _ _ cs _ RAG.out RZ.out).mono ?_
                    rintro e u2 ⟨rfl, b⟩
                    replace B : Hid (Below w.heap.size w u2) := B.out.trans (b.mono B.out.size)
                    clear b
                    go_wp2
                    go_ret
                    exact ⟨rfl, B.out⟩
      · as_aux_lemma =>
          replace HBJ : Hid (hasL (joinL xs ys) ((n : Int) % 40) = true) := HBJ.out
          replace HBM : Hid (hasL (meetL xs ys) ((n : Int) % 40) = by') := HBM.out
          go_wp2_with fail
          refine (ihas_eq vj _ _ true HBJ.out _ RJ.out GJ.out).mono ?_
          rintro e v7 ⟨rfl, b⟩
          replace RJ := hid (RJ.out.below b)
          replace RM := hid (RM.out.below b)
          replace B : Hid (Below w.heap.size w v7) := B.out.trans (b.mono B.out.size)
          clear b
          go_wp2_with fail
          refine (ihas_eq vm _ _ by' HBM.out _ RM.out GM.out).mono ?_
          rintro e v8 ⟨rfl, b⟩
          replace RJ := hid (RJ.out.below b)
          replace RM := hid (RM.out.below b)
          replace B : Hid (Below w.heap.size w v8) := B.out.trans (b.mono B.out.size)
          clear b
          go_wp2_with fail
          refine (igood_eq vj _ true GJ.out _ RJ.out).mono ?_
          rintro e v9 ⟨rfl, b⟩
          replace RM := hid (RM.out.below b)
          replace B : Hid (Below w.heap.size w v9) := B.out.trans (b.mono B.out.size)
          clear b
          go_wp2_with fail
          refine (igood_eq vm _ true GM.out _ RM.out).mono ?_
          rintro e v10 ⟨rfl, b⟩
          replace B : Hid (Below w.heap.size w v10) := B.out.trans (b.mono B.out.size)
          clear b
          clear RJ RM HLp HLq HLr HLs HBX HBY HBJ HBM dby dpq rw1 hsum hpq GA GB GJ GM HJB HMB HGX hxy
          as_aux_lemma =>
            have CM := hid (K1.out.then B.out)
            go_wp2_with fail
            refine (drawMissing_any _ _ CM.out).mono ?_
            rintro e y1 ⟨vl, up, rfl, ls, hls, rl, b⟩
            replace B : Hid (Below w.heap.size w y1) := B.out.trans (b.mono B.out.size)
            clear b
            have RL := hid rl
            clear rl CM
            obtain ⟨t2, ht2⟩ : ∃ t, missB ls up = t := ⟨_, rfl⟩
            obtain ⟨ms, hms⟩ : ∃ ms, missY ls up = ms := ⟨_, rfl⟩
            have HT2 := hid ht2
            have HMS := hid hms
            have MI : Hid (∀ wq, SReads wq vl ls → Calls Try.prog 18 #[vl, .int .i64 up] wq fun e w' => ∃ v', e = .returned (.tuple #[v', .bool t2]) ∧ SOwn wq.heap.size w' v' ms ∧ Below wq.heap.size wq w') := by rw [← ht2, ← hms]; exact fun w => imissIn_any vl ls up w
            have MS : Hid (∀ wq, SReads wq vl ls → Calls Try.prog 19 #[vl, .int .i64 up] wq fun e w' => ∃ v', e = .returned (.tuple #[v', .bool t2]) ∧ SOwn wq.heap.size w' v' ms ∧ Below wq.heap.size wq w') := by rw [← ht2, ← hms]; exact fun w => smissIn_any vl ls up w
            clear ht2 hms
            go_wp2_with fail
            refine (MI.out _ RL.out).mono ?_
            rintro e y2 ⟨vx, rfl, o, b⟩
            replace RL := hid (RL.out.below b)
            replace B : Hid (Below w.heap.size w y2) := B.out.trans (b.mono B.out.size)
            clear b
            have RX := hid o.reads
            clear o
            go_wp2_with fail
            refine (MS.out _ RL.out).mono ?_
            rintro e y3 ⟨vx2, rfl, o, b⟩
            replace RL := hid (RL.out.below b)
            replace RX := hid (RX.out.below b)
            replace B : Hid (Below w.heap.size w y3) := B.out.trans (b.mono B.out.size)
            clear b
            have RX2 := hid o.reads
            clear o
            clear MI MS
            have CM := hid (K1.out.then B.out)
            go_wp2_with fail
            refine (drawAdd_any _ _ CM.out).mono ?_
            rintro e y4 ⟨vt, p, q, rfl, ts, hts, rt, b⟩
            replace RL := hid (RL.out.below b)
            replace RX := hid (RX.out.below b)
            replace RX2 := hid (RX2.out.below b)
            replace B : Hid (Below w.heap.size w y4) := B.out.trans (b.mono B.out.size)
            clear b
            have RT := hid rt
            clear rt CM
            obtain ⟨t4, ht4⟩ : ∃ t, addOk ts (p, q) = t := ⟨_, rfl⟩
            obtain ⟨ad, has⟩ : ∃ l, addY ts (p, q) = l := ⟨_, rfl⟩
            obtain ⟨nn, hnn⟩ : ∃ l, addN ts (p, q) = l := ⟨_, rfl⟩
            obtain ⟨t6, ht6⟩ : ∃ t, cutB ts (p, q) = t := ⟨_, rfl⟩
            obtain ⟨cs, hcs⟩ : ∃ l, cutY ts (p, q) = l := ⟨_, rfl⟩
            have HT4 := hid ht4
            have HAS := hid has
            have HT6 := hid ht6
            have HCS := hid hcs
            have AI : Hid (∀ wq, SReads wq vt ts → Calls Try.prog 21 #[vt, .agg #[.int .i64 p, .int .i64 q]] wq fun e w' => ∃ v', e = .returned (.tuple #[v', .int .i64 nn, .bool t4]) ∧ SOwn wq.heap.size w' v' ad ∧ Below wq.heap.size wq w') := by rw [← ht4, ← has, ← hnn]; exact fun w => iaddSpan_any vt ts p q w
            have AS : Hid (∀ wq, SReads wq vt ts → Calls Try.prog 22 #[vt, .agg #[.int .i64 p, .int .i64 q]] wq fun e w' => ∃ v', e = .returned (.tuple #[v', .int .i64 nn, .bool t4]) ∧ SOwn wq.heap.size w' v' ad ∧ Below wq.heap.size wq w') := by rw [← ht4, ← has, ← hnn]; exact fun w => saddSpan_any vt ts p q w
            have CI : Hid (∀ wq, SReads wq vt ts → Calls Try.prog 23 #[vt, .agg #[.int .i64 p, .int .i64 q]] wq fun e w' => ∃ v', e = .returned (.tuple #[v', .bool t6]) ∧ SOwn wq.heap.size w' v' cs ∧ Below wq.heap.size wq w') := by rw [← ht6, ← hcs]; exact fun w => icut_any vt ts p q w
            have CS : Hid (∀ wq, SReads wq vt ts → Calls Try.prog 24 #[vt, .agg #[.int .i64 p, .int .i64 q]] wq fun e w' => ∃ v', e = .returned (.tuple #[v', .bool t6]) ∧ SOwn wq.heap.size w' v' cs ∧ Below wq.heap.size wq w') := by rw [← ht6, ← hcs]; exact fun w => scut_any vt ts p q w
            clear ht4 has hnn ht6 hcs
            go_wp2_with fail
            refine (AI.out _ (RT.out.below ((Below.refl _ _).alloc (Nat.le_refl _) _))).mono ?_
            rintro e y5 ⟨vy, rfl, o, b⟩
            have C : Hid (Box2 y5 y4.heap.size p q) := box2 b
            replace b := sbox_below b
            replace RL := hid (RL.out.below b)
            replace RX := hid (RX.out.below b)
            replace RX2 := hid (RX2.out.below b)
            replace RT := hid (RT.out.below b)
            replace B : Hid (Below w.heap.size w y5) := B.out.trans (b.mono B.out.size)
            clear b
            have RY := hid o.reads
            clear o
            obtain ⟨k0, k1⟩ := C.out
            go_wp2_with fail
            refine (AS.out _ RT.out).mono ?_
            rintro e y6 ⟨vy2, rfl, o, b⟩
            replace RL := hid (RL.out.below b)
            replace RX := hid (RX.out.below b)
            replace RX2 := hid (RX2.out.below b)
            replace RT := hid (RT.out.below b)
            replace RY := hid (RY.out.below b)
            replace C := hid (C.out.on b)
            replace B : Hid (Below w.heap.size w y6) := B.out.trans (b.mono B.out.size)
            clear b
            have RY2 := hid o.reads
            clear o
            clear k0 k1
            obtain ⟨k0, k1⟩ := C.out
            go_wp2_with fail
            refine (CI.out _ RT.out).mono ?_
            rintro e y7 ⟨vz, rfl, o, b⟩
            replace RL := hid (RL.out.below b)
            replace RX := hid (RX.out.below b)
            replace RX2 := hid (RX2.out.below b)
            replace RT := hid (RT.out.below b)
            replace RY := hid (RY.out.below b)
            replace RY2 := hid (RY2.out.below b)
            replace C := hid (C.out.on b)
            replace B : Hid (Below w.heap.size w y7) := B.out.trans (b.mono B.out.size)
            clear b
            have RZ := hid o.reads
            clear o
            clear k0 k1
            obtain ⟨k0, k1⟩ := C.out
            go_wp2_with fail
            refine (CS.out _ RT.out).mono ?_
            rintro e y8 ⟨vz2, rfl, o, b⟩
            replace RL := hid (RL.out.below b)
            replace RX := hid (RX.out.below b)
            replace RX2 := hid (RX2.out.below b)
            replace RY := hid (RY.out.below b)
            replace RY2 := hid (RY2.out.below b)
            replace RZ := hid (RZ.out.below b)
            replace C := hid (C.out.on b)
            replace B : Hid (Below w.heap.size w y8) := B.out.trans (b.mono B.out.size)
            clear b
            have RZ2 := hid o.reads
            clear o
            clear k0 k1 RT AI AS CI CS
            have d2 : (t2 != t2) = false := by simp
            have d4 : (t4 != t4) = false := by simp
            have d6 : (t6 != t6) = false := by simp
            have dn : (nn != nn) = false := by simp
            go_wp2_with fail
            refine (sameSpans_same _ _ ms _ RX.out RX2.out).mono ?_
            rintro e y9 ⟨rfl, b⟩
            replace RL := hid (RL.out.below b)
            replace RX := hid (RX.out.below b)
            replace RY := hid (RY.out.below b)
            replace RY2 := hid (RY2.out.below b)
            replace RZ := hid (RZ.out.below b)
            replace RZ2 := hid (RZ2.out.below b)
            replace C := hid (C.out.on b)
            replace B : Hid (Below w.heap.size w y9) := B.out.trans (b.mono B.out.size)
            clear b
            clear RX2
            go_wp2_with fail
            refine (sameSpans_same _ _ ad _ RY.out RY2.out).mono ?_
            rintro e y10 ⟨rfl, b⟩
            replace RL := hid (RL.out.below b)
            replace RX := hid (RX.out.below b)
            replace RY := hid (RY.out.below b)
            replace RZ := hid (RZ.out.below b)
            replace RZ2 := hid (RZ2.out.below b)
            replace C := hid (C.out.on b)
            replace B : Hid (Below w.heap.size w y10) := B.out.trans (b.mono B.out.size)
            clear b
            clear RY2
            go_wp2_with fail
            refine (sameSpans_same _ _ cs _ RZ.out RZ2.out).mono ?_
            rintro e y11 ⟨rfl, b⟩
            replace RL := hid (RL.out.below b)
            replace RX := hid (RX.out.below b)
            replace RY := hid (RY.out.below b)
            replace RZ := hid (RZ.out.below b)
            replace C := hid (C.out.on b)
            replace B : Hid (Below w.heap.size w y11) := B.out.trans (b.mono B.out.size)
            clear b
            clear RZ2
            cases t2
            · cases t4
              · go_wp2
                go_ret
                exact ⟨rfl, B.out⟩
              · cases t6
                · go_wp2
                  go_ret
                  exact ⟨rfl, B.out⟩
                · obtain ⟨h1, h2⟩ := again_out HT4.out
                  have CY : Hid (∀ wq, SReads wq vy ad → Calls Try.prog 23 #[vy, .agg #[.int .i64 p, .int .i64 q]] wq fun e w' => ∃ v', e = .returned (.tuple #[v', .bool true]) ∧ SOwn wq.heap.size w' v' cs ∧ Below wq.heap.size wq w') := fun wq h => by
                    have := icut_any vy ad p q wq h
                    rw [← HAS.out, h1, h2, HT6.out, HCS.out] at this
                    exact this
                  clear h1 h2
                  obtain ⟨k0, k1⟩ := C.out
                  go_wp2_with fail
                  refine (CY.out _ RY.out).mono ?_
                  rintro e u1 ⟨vag, rfl, o, b⟩
                  replace RZ := hid (RZ.out.below b)
                  replace B : Hid (Below w.heap.size w u1) := B.out.trans (b.mono B.out.size)
                  clear b
                  clear k0 k1
                  have RAG := hid o.reads
                  clear o
                  go_wp2_with fail
                  refine (sameSpans_same _ _ cs _ RAG.out RZ.out).mono ?_
                  rintro e u2 ⟨rfl, b⟩
                  replace B : Hid (Below w.heap.size w u2) := B.out.trans (b.mono B.out.size)
                  clear b
                  go_wp2
                  go_ret
                  exact ⟨rfl, B.out⟩
            · obtain ⟨gl, hu0, hu1, gm, em⟩ := missB_out HT2.out
              have GL := hid gl
              have GM : Hid (goodL ms = true) := by rw [← HMS.out, em]; exact gm
              have HH : Hid (∀ k : Int, 0 ≤ k → hasL ms k = (decide (k < up) && !hasL ls k)) := fun k hk => by rw [← HMS.out, em]; exact (missL_has (good_chain GL.out) k).trans (by rw [decide_eq_true hk, Bool.true_and])
              clear gl gm em
              go_wp2_with fail
              refine (numberOf_any w.heap.size _ _ (K0.out.below B.out)).mono ?_
              rintro e w' ⟨n, hn, rfl, hw⟩
              obtain rfl := hw.symm
              obtain ⟨bi, hbi⟩ : ∃ t, hasL ls ((n : Int) % 50) = t := ⟨_, rfl⟩
              have HBI := hid hbi
              have HBO : Hid (hasL ms ((n : Int) % 50) = (decide ((n : Int) % 50 < up) && !bi)) := by show _ = _; rw [HH.out _ (by omega), hbi]
              clear hbi HH
              go_wp2_with fail
              refine (ihas_eq vl ls _ bi HBI.out _ RL.out GL.out).mono ?_
              rintro e y12 ⟨rfl, b⟩
              replace RX := hid (RX.out.below b)
              replace RY := hid (RY.out.below b)
              replace RZ := hid (RZ.out.below b)
              replace C := hid (C.out.on b)
              replace B : Hid (Below w.heap.size w y12) := B.out.trans (b.mono B.out.size)
              clear b
              by_cases hk : (n : Int) % 50 < up
              · have dk : decide ((n : Int) % 50 < up) = true := by simpa using hk
                replace HBO : Hid (hasL ms ((n : Int) % 50) = !bi) := by have := HBO.out; rw [dk, Bool.true_and] at this; exact this
                have dbi : ((!bi) != (!bi)) = false := by simp
                go_wp2_with fail
                refine (ihas_eq vx ms _ (!bi) HBO.out _ RX.out GM.out).mono ?_
                rintro e y13 ⟨rfl, b⟩
                replace RY := hid (RY.out.below b)
                replace RZ := hid (RZ.out.below b)
                replace C := hid (C.out.on b)
                replace B : Hid (Below w.heap.size w y13) := B.out.trans (b.mono B.out.size)
                clear b
                cases t4
                · go_wp2
                  go_ret
                  exact ⟨rfl, B.out⟩
                · cases t6
                  · go_wp2
                    go_ret
                    exact ⟨rfl, B.out⟩
                  · obtain ⟨h1, h2⟩ := again_out HT4.out
                    have CY : Hid (∀ wq, SReads wq vy ad → Calls Try.prog 23 #[vy, .agg #[.int .i64 p, .int .i64 q]] wq fun e w' => ∃ v', e = .returned (.tuple #[v', .bool true]) ∧ SOwn wq.heap.size w' v' cs ∧ Below wq.heap.size wq w') := fun wq h => by
                      have := icut_any vy ad p q wq h
                      rw [← HAS.out, h1, h2, HT6.out, HCS.out] at this
                      exact this
                    clear h1 h2
                    obtain ⟨k0, k1⟩ := C.out
                    go_wp2_with fail
                    refine (CY.out _ RY.out).mono ?_
                    rintro e u1 ⟨vag, rfl, o, b⟩
                    replace RZ := hid (RZ.out.below b)
                    replace B : Hid (Below w.heap.size w u1) := B.out.trans (b.mono B.out.size)
                    clear b
                    clear k0 k1
                    have RAG := hid o.reads
                    clear o
                    go_wp2_with fail
                    refine (sameSpans_same _ _ cs _ RAG.out RZ.out).mono ?_
                    rintro e u2 ⟨rfl, b⟩
                    replace B : Hid (Below w.heap.size w u2) := B.out.trans (b.mono B.out.size)
                    clear b
                    go_wp2
                    go_ret
                    exact ⟨rfl, B.out⟩
              · have dk : decide ((n : Int) % 50 < up) = false := by simpa using hk
                replace HBO : Hid (hasL ms ((n : Int) % 50) = false) := by have := HBO.out; rw [dk, Bool.false_and] at this; exact this
                go_wp2_with fail
                refine (ihas_eq vx ms _ false HBO.out _ RX.out GM.out).mono ?_
                rintro e y13 ⟨rfl, b⟩
                replace RY := hid (RY.out.below b)
                replace RZ := hid (RZ.out.below b)
                replace C := hid (C.out.on b)
                replace B : Hid (Below w.heap.size w y13) := B.out.trans (b.mono B.out.size)
                clear b
                cases t4
                · go_wp2
                  go_ret
                  exact ⟨rfl, B.out⟩
                · cases t6
                  · go_wp2
                    go_ret
                    exact ⟨rfl, B.out⟩
                  · obtain ⟨h1, h2⟩ := again_out HT4.out
                    have CY : Hid (∀ wq, SReads wq vy ad → Calls Try.prog 23 #[vy, .agg #[.int .i64 p, .int .i64 q]] wq fun e w' => ∃ v', e = .returned (.tuple #[v', .bool true]) ∧ SOwn wq.heap.size w' v' cs ∧ Below wq.heap.size wq w') := fun wq h => by
                      have := icut_any vy ad p q wq h
                      rw [← HAS.out, h1, h2, HT6.out, HCS.out] at this
                      exact this
                    clear h1 h2
                    obtain ⟨k0, k1⟩ := C.out
                    go_wp2_with fail
                    refine (CY.out _ RY.out).mono ?_
                    rintro e u1 ⟨vag, rfl, o, b⟩
                    replace RZ := hid (RZ.out.below b)
                    replace B : Hid (Below w.heap.size w u1) := B.out.trans (b.mono B.out.size)
                    clear b
                    clear k0 k1
                    have RAG := hid o.reads
                    clear o
                    go_wp2_with fail
                    refine (sameSpans_same _ _ cs _ RAG.out RZ.out).mono ?_
                    rintro e u2 ⟨rfl, b⟩
                    replace B : Hid (Below w.heap.size w u2) := B.out.trans (b.mono B.out.size)
                    clear b
                    go_wp2
                    go_ret
                    exact ⟨rfl, B.out⟩
end Go.Proofs.Ytndbdioignmaeaa
