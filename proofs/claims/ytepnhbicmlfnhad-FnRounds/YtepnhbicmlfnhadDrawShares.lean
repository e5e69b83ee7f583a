/-
  The cursor's shares: whatever they are, in memory of their own; of old memory the cursor alone is written.
-/
import Derived.Test.YtepnhbicmlfnhadDraw
import Derived.Test.YtepnhbicmlfnhadKAppN
import Derived.Test.YtepnhbicmlfnhadShApp
import Derived.Test.YtepnhbicmlfnhadRegAny
namespace Go.Proofs.Ytepnhbicmlfnhad
open Go.RowKit

theorem showns_cur {w w' : World} {base : Nat} {t : TypeId} {n b : Nat} {v : Value} {cs : List Value} (h : w.ownsRow base t 1 v n cs) (hg : w.grownBy w' (some b)) (hb : b < base) : w'.ownsRow base t 1 v n cs :=
  owns_stay h fun g e => hg.block g (h.lt g e).2 (by intro e'; cases e'; have := (h.lt _ e).1; omega)
theorem shcur_lt {B b N : Nat} {w : World} (h : Cur B w b N) : b < w.heap.size := by
  obtain ⟨_, _, v, f, at_, sd, hr, _⟩ := h
  exact hr.lt
theorem BoxL.grow {w w' : World} {b c : Nat} {vs : List Value} (h : BoxL w c vs) (hg : w.grownBy w' (some b)) (hb : b < c) : BoxL w' c vs := h.of_block (hg.block c h.lt (by intro e; cases e; omega))
theorem ShOwn.grow {w w' : World} {b lo hi : Nat} {v : Value} {D : ShD} (h : ShOwn (Iv lo hi) w v D) (hg : w.grownBy w' (some b)) (hb : b < lo) : ShOwn (Iv lo hi) w' v D := h.at fun g hg' hlt => hg.block g hlt (by intro e; cases e; have := hg'.1; omega)
/-- What is drawn: a row in a box beside a cursor. -/
structure DrS (B b N wb bo : Nat) (w0 wr : World) (zr : Int) (k : Nat) (la : Option Addr) (lc : Nat) (xs : List Int) : Prop where
  box : BoxL wr bo [.slice la k lc, .int .i64 zr]
  own : wr.ownsRow (bo + 1) 3 1 (.slice la k lc) k (kflat xs)
  len : xs.length = k
  res : BoxL wr wb [.slice none 0 0, .int .i64 0]
  cur : Cur B wr b N
  gro : w0.grownBy wr (some b)
  sz : bo + 1 ≤ wr.heap.size
  lo : b < wb ∧ wb < bo ∧ B ≤ b ∧ w0.heap.size = wb
theorem DrS.mono {B b N N' wb bo : Nat} {w0 wr : World} {zr : Int} {k : Nat} {la : Option Addr} {lc : Nat} {xs : List Int} (h : DrS B b N wb bo w0 wr zr k la lc xs) (hN : N ≤ N') : DrS B b N' wb bo w0 wr zr k la lc xs := ⟨h.box, h.own, h.len, h.res, h.cur.mono hN, h.gro, h.sz, h.lo⟩
theorem DrS.grow {B b N N' wb bo : Nat} {w0 wr w1 : World} {zr : Int} {k : Nat} {la : Option Addr} {lc : Nat} {xs : List Int} (h : DrS B b N wb bo w0 wr zr k la lc xs) (hc : Cur B w1 b N') (hg : wr.grownBy w1 (some b)) : DrS B b N' wb bo w0 w1 zr k la lc xs :=
  ⟨h.box.grow hg (by have := h.lo; omega), showns_cur h.own hg (by have := h.lo; omega), h.len, h.res.grow hg h.lo.1, hc, only_trans h.gro hg, Nat.le_trans h.sz hg.size, h.lo⟩
theorem DrS.new {B b N wb bo : Nat} {w0 wr w1 : World} {zr : Int} {k : Nat} {la : Option Addr} {lc : Nat} {xs : List Int} (h : DrS B b N wb bo w0 wr zr k la lc xs) (hb : Below wr.heap.size wr w1) : DrS B b N wb bo w0 w1 zr k la lc xs :=
  ⟨h.box.below hb h.box.lt, owns_stay h.own (fun g e => hb.block g (h.own.lt g e).2), h.len, h.res.below hb h.res.lt, h.cur.below hb, only_then h.gro (hb.mono h.gro.size), Nat.le_trans h.sz hb.size, h.lo⟩
/-- One number appended, and the row put back into its box. -/
theorem DrS.app {B b N wb bo : Nat} {w0 wr w6 : World} {zr : Int} {k : Nat} {la : Option Addr} {lc : Nat} {xs : List Int} (h : DrS B b N wb bo w0 wr zr k la lc xs) (y : Int) (v6 : Value) (hown6 : w6.ownsRow (bo + 1) 3 1 v6 (k + 1) (kflat (xs ++ [y]))) (hgr : wr.grownBy w6 (Value.slice la k lc).ownBlock) :
    ∃ la6 lc6, v6 = .slice la6 (k + 1) lc6 ∧ BoxL w6 bo [.slice la k lc, .int .i64 zr] ∧ DrS B b N wb bo w0 (w6.setCell ⟨bo, 0, none⟩ (.slice la6 (k + 1) lc6)) zr (k + 1) la6 lc6 (xs ++ [y]) := by
  have lo := h.lo
  obtain ⟨la6, lc6, rfl, P6, P7, O7, B7, B6⟩ := app_box0 h.box h.own v6 hown6 hgr (by omega) h.sz
  refine ⟨la6, lc6, rfl, P6, P7, O7, by rw [List.length_append, h.len]; rfl, h.res.below B7 (by omega), h.cur.under (C := bo) (by omega) (by omega) B7, only_then h.gro (B7.mono (by omega)), ?_, lo⟩
  have := B7.size
  have := h.sz
  omega
/-- The first number of the row is written. -/
theorem DrS.set0 {B b N wb bo : Nat} {w0 wr : World} {zr : Int} {k : Nat} {la : Option Addr} {lc : Nat} {xs : List Int} (h : DrS B b N wb bo w0 wr zr k la lc xs) (hk : 1 ≤ k) :
    ∃ g y0, la = some ⟨g, 0, none⟩ ∧ wr.cell? ⟨g, 0, none⟩ = some (.int .i64 y0) ∧ wr.frozen? ⟨g, 0, none⟩ = false ∧ ∀ z : Int, DrS B b N wb bo w0 (wr.setCell ⟨g, 0, none⟩ (.int .i64 z)) zr k la lc (xs.set 0 z) := by
  have lo := h.lo
  have own := h.own
  rcases h.own.2 with ⟨_, h0⟩ | ⟨g, cap, cur, e, hg, _⟩
  · omega
  · cases e
    have hl := h.own.lt g rfl
    refine ⟨g, xs.getD 0 0, rfl, ?_, World.ownsRow.frozenAt h.own 0, fun z => ?_⟩
    · rw [World.ownsRow.cellAt h.own 0 (by omega)]
      exact kflat_get xs 0 (by rw [h.len]; omega)
    · have ON := onlyP_set wr g 0 (.int .i64 z)
      have BB : Below (bo + 1) wr (wr.setCell ⟨g, 0, none⟩ (.int .i64 z)) := (Below.refl _ _).setCell (by show bo + 1 ≤ g; omega) _
      refine ⟨h.box.below BB (by omega), ?_, by rw [List.length_set]; exact h.len, h.res.below BB (by omega), h.cur.under (C := bo + 1) (by omega) (by omega) BB, only_then h.gro (BB.mono (by omega)), Nat.le_trans h.sz BB.size, lo⟩
      rw [kflat_set]
      exact (World.ownsRow.stored h.own 0 (.int .i64 z)).1
/-- The room is written. -/
theorem DrS.room {B b N wb bo : Nat} {w0 wr : World} {zr : Int} {k : Nat} {la : Option Addr} {lc : Nat} {xs : List Int} (h : DrS B b N wb bo w0 wr zr k la lc xs) (z : Int) : DrS B b N wb bo w0 (wr.setCell ⟨bo, 1, none⟩ (.int .i64 z)) z k la lc xs := by
  have lo := h.lo
  have BB : Below bo wr (wr.setCell ⟨bo, 1, none⟩ (.int .i64 z)) := (Below.refl _ _).setCell (by show bo ≤ bo; omega) _
  refine ⟨h.box.set 1 (by simp) _, owns_stay h.own (fun g e => ?_), h.len, h.res.below BB (by omega), h.cur.under (C := bo) (by omega) (by omega) BB, only_then h.gro (BB.mono (by omega)), Nat.le_trans h.sz BB.size, lo⟩
  have := (h.own.lt g e).1
  exact (onlyP_set wr bo 1 _).2.1 g (by omega)
/-- The answer, put into its box. -/
theorem DrS.leaf {B b N wb bo : Nat} {w0 wr : World} {zr : Int} {k : Nat} {la : Option Addr} {lc : Nat} {xs : List Int} (h : DrS B b N wb bo w0 wr zr k la lc xs) (hk : k ≤ 1000) :
    ShOwn (Iv w0.heap.size ((wr.setCell ⟨wb, 0, none⟩ (.slice la k lc)).setCell ⟨wb, 1, none⟩ (.int .i64 zr)).heap.size) ((wr.setCell ⟨wb, 0, none⟩ (.slice la k lc)).setCell ⟨wb, 1, none⟩ (.int .i64 zr)) (.agg #[.slice la k lc, .int .i64 zr]) ⟨xs, zr⟩ ∧ Cur B ((wr.setCell ⟨wb, 0, none⟩ (.slice la k lc)).setCell ⟨wb, 1, none⟩ (.int .i64 zr)) b N ∧ w0.grownBy ((wr.setCell ⟨wb, 0, none⟩ (.slice la k lc)).setCell ⟨wb, 1, none⟩ (.int .i64 zr)) (some b) ∧
    (((wr.setCell ⟨wb, 0, none⟩ (.slice la k lc)).setCell ⟨wb, 1, none⟩ (.int .i64 zr)).cell? ⟨wb, 0, none⟩ = some (.slice la k lc) ∧ ((wr.setCell ⟨wb, 0, none⟩ (.slice la k lc)).setCell ⟨wb, 1, none⟩ (.int .i64 zr)).cell? ⟨wb, 1, none⟩ = some (.int .i64 zr)) := by
  have lo := h.lo
  have ON := two_only wr wb (.slice la k lc) (.int .i64 zr)
  have BB : Below wb wr ((wr.setCell ⟨wb, 0, none⟩ (.slice la k lc)).setCell ⟨wb, 1, none⟩ (.int .i64 zr)) := two_below wr _ _ (Nat.le_refl _)
  have K := KOwn.of_owns h.own (by rw [h.len]; omega)
  have S : ShOwn (Iv (bo + 1) wr.heap.size) wr (.agg #[.slice la k lc, .int .i64 zr]) ⟨xs, zr⟩ := ShOwn.mk1 (D := ⟨xs, zr⟩) K h.sz (fun g h1 h2 => ⟨h1, h2⟩)
  refine ⟨?_, h.cur.under lo.1 (by omega) BB, only_then h.gro (BB.mono (by omega)), (two_put h.res _ _).two⟩
  refine (S.at fun g hg _ => ON.2.1 g (by rintro rfl; have := hg.1; omega)).mono fun g hg => ?_
  have h1 := hg.1
  have h2 := hg.2
  rw [ON.1]
  exact ⟨by omega, h2⟩
set_option maxRecDepth 100000 in
set_option maxHeartbeats 16000000 in
theorem shares_any (B b N : Nat) (w : World) (h : Cur B w b N) (hN : N ≤ 1152921504606840000) :
    Calls Try.prog 44 #[.pointer (some ⟨b, 0, none⟩)] w fun e w' => ∃ v, e = .returned v ∧ ∃ D : ShD, ShOwn (Iv w.heap.size w'.heap.size) w' v D ∧ Cur B w' b (N + 100) ∧ w.grownBy w' (some b) := by
  have hbw := shcur_lt h
  have hBb : B ≤ b := h.1
  obtain ⟨PR, BR, hsR⟩ := box_next (w := w) (.slice none 0 0) (.int .i64 0) 25
  obtain ⟨W, hW⟩ : ∃ W, W = w.alloc (.cells #[.slice none 0 0, .int .i64 0] 25) := ⟨_, rfl⟩
  rw [← hW] at PR BR hsR
  have HC := hid (h.below BR)
  have HR := hid PR
  have HG : Hid (w.grownBy W (some b)) := only_of_below BR
  have HW := hid hW
  clear h PR BR hW
  go_enter Try.func44, Try.ntmps44
  go_wp2_with fail
  rw [← HW.out]
  clear HW
  refine (pick_any B b N 200 _ HC.out (by omega) (by omega)).mono ?_
  rintro e w1 ⟨r1, hr1, rfl, c1, g1⟩
  obtain ⟨zr, hzr⟩ : ∃ z : Int, IntKind.i64.wrap (1 + (r1 : Int)) = z := ⟨_, rfl⟩
  replace HR := hid (HR.out.grow g1 (by omega))
  have HC1 := hid c1
  replace HG := hid (only_trans HG.out g1)
  have hs1 := g1.size
  clear c1 g1 hr1 HC
  obtain ⟨PO, BO, hsO⟩ := box_next (w := w1) (.slice none 0 0) (.int .i64 zr) 25
  obtain ⟨V, hV⟩ : ∃ V, V = w1.alloc (.cells #[.slice none 0 0, .int .i64 zr] 25) := ⟨_, rfl⟩
  rw [← hV] at PO BO hsO
  replace HR := hid (HR.out.below BO HR.out.lt)
  replace HC1 := hid (HC1.out.below BO)
  replace HG := hid (only_then HG.out (BO.mono (by omega)))
  have HO := hid PO
  have HV := hid hV
  clear PO BO hV
  go_wp2_with fail
  rw [← HV.out]
  clear HV hzr
  refine (pick_any B b (N + 2) 4 _ HC1.out (by omega) (by omega)).mono ?_
  rintro e w2 ⟨r2, hr2, rfl, c2, g2⟩
  obtain ⟨m, hm, hm6, hm1⟩ : ∃ m : Nat, IntKind.i64.wrap (1 + (r2 : Int)) = (m : Int) ∧ m ≤ 6 ∧ 1 ≤ m := ⟨1 + r2, by rw [IntKind.wrap_i64]; omega, by omega, by omega⟩
  have hs2 := g2.size
  have D0 : Hid (DrS B b (N + 4) w.heap.size w1.heap.size w w2 zr 0 none 0 []) := ⟨HO.out.grow g2 (by omega), World.ownsRow_nil _ _ _ _, rfl, HR.out.grow g2 (by omega), c2, only_trans HG.out g2, by omega, by omega⟩
  obtain ⟨bo, hbo⟩ : ∃ bo, bo = w1.heap.size := ⟨_, rfl⟩
  rw [← hbo] at D0 ⊢
  have hbo1 : w.heap.size < bo := by omega
  clear c2 g2 hr2 HO HR HG HC1 hbo hs1 hs2 hsO hsR
  go_wp2
  go_loopw [4] (fun nv wr => ∃ (k j : Nat) (la : Option Addr) (lc : Nat) (xs : List Int), nv = .int .i64 (j : Nat) ∧ (k + j ≤ 6 ∧ 1 ≤ k + j) ∧ DrS B b (N + 4 + 4 * k) w.heap.size bo w wr zr k la lc xs) (fun nv _ => (intOf nv).toNat)
  case atStart => exact ⟨0, m, none, 0, [], rfl, by omega, D0.out⟩
  case round =>
    obtain ⟨k, j, la, lc, xs, rfl, hkj, hD⟩ := hrel
    have HD := hid hD
    clear hD D0
    by_cases hj : 0 < j
    · have hj0 : (0 : Int) < (j : Int) := by omega
      have hw2 : IntKind.i64.wrap ((j : Int) - 1) = ((j - 1 : Nat) : Int) := by rw [IntKind.wrap_i64]; omega
      go_wp2_with fail
      refine wp_region_any (by kernel_rfl) ?_
      change wpAny _ _ _ _ _ _ _ (World.drew _)
      replace HD : Hid (DrS B b (N + 4 + 4 * k) w.heap.size bo w (World.drew wr) zr k la lc xs) := ⟨HD.out.box, HD.out.own, HD.out.len, HD.out.res, HD.out.cur.drew, only_drew HD.out.gro, HD.out.sz, HD.out.lo⟩
      obtain ⟨W2, hW2⟩ : ∃ W, W = World.drew wr := ⟨_, rfl⟩
      rw [← hW2] at HD ⊢
      clear hW2
      refine wpAny_take (i := 0) (v := (.pointer (some ⟨bo, 0, none⟩))) rfl (by kernel_rfl) (by kernel_rfl) (by kernel_rfl) (fun _ _ _ h => h) (Or.inl ⟨by kernel_rfl, fun _ => by go_simp⟩) ?_
      try simp only [Act.put]
      try simp only [List.setIfInBounds_toArray]
      try simp only [List.set_cons_succ]
      try simp only [List.set_cons_zero]
      refine wpAny_take (i := 2) (v := (.pointer (some ⟨b, 0, none⟩))) rfl (by kernel_rfl) (by kernel_rfl) (by kernel_rfl) (fun _ _ _ h => h) (Or.inl ⟨by kernel_rfl, fun _ => by go_simp⟩) ?_
      try simp only [Act.put]
      try simp only [List.setIfInBounds_toArray]
      try simp only [List.set_cons_succ]
      try simp only [List.set_cons_zero]
      refine wpAny_ready (rs := [1, 3]) (by kernel_rfl) (by simp) ?_
      refine AllReady.cons rfl (fun K hK => ?_) (AllReady.cons rfl (fun K hK => ?_) AllReady.nil)
      · obtain ⟨x0, x1⟩ := HD.out.box.two
        go_simp
        refine hK _ _ ?_
        clear hK K x0 x1
        refine wpAny_ready (rs := [3]) (by kernel_rfl) (by simp) ?_
        refine AllReady.cons rfl (fun K hK => ?_) AllReady.nil
        go_simp
        refine (pick_any B b _ 100 _ HD.out.cur (by omega) (by omega)).mono ?_
        rintro e w4 ⟨r4, hr4, rfl, c4, g4⟩
        replace HD := hid (HD.out.grow c4 g4)
        obtain ⟨y, hy⟩ : ∃ z : Int, IntKind.i64.wrap (1 + (r4 : Int)) = z := ⟨_, rfl⟩
        refine hK _ _ ?_
        clear hK K c4 g4 hr4
        refine wpAny_ready (rs := [4]) (by kernel_rfl) (by simp) ?_
        refine AllReady.cons rfl (fun K hK => ?_) AllReady.nil
        go_simp
        refine hK _ _ ?_
        clear hK K
        refine wpAny_ready (rs := [5]) (by kernel_rfl) (by simp) ?_
        refine AllReady.cons rfl (fun K hK => ?_) AllReady.nil
        go_simp
        refine hK _ _ ?_
        clear hK K
        replace HD := hid (HD.out.new (w1 := w4.alloc (.cells #[.int .i64 y] 3)) ((Below.refl _ _).alloc (Nat.le_refl _) _))
        have KR := hid (kreads_int w4 y)
        obtain ⟨W5, hW5⟩ : ∃ W, W = w4.alloc (.cells #[.int .i64 y] 3) := ⟨_, rfl⟩
        obtain ⟨g5, hg5⟩ : ∃ g, g = w4.heap.size := ⟨_, rfl⟩
        rw [← hW5, ← hg5] at KR
        rw [← hW5] at HD
        rw [← hW5, ← hg5]
        clear hW5 hg5
        refine wpAny_ready (rs := [6]) (by kernel_rfl) (by simp) ?_
        refine AllReady.cons rfl (fun K hK => ?_) AllReady.nil
        refine step_append_reads (by rfl) _ _ (by rfl) (bo + 1) _ _ _ (by rfl) HD.out.own _ [y] (by rfl) KR.out (by simp; omega) HD.out.sz ?_
        intro v6 w6 hown6 hgr6 _
        refine hK _ _ ?_
        clear hK K
        obtain ⟨la6, lc6, rfl, P6, D6⟩ := HD.out.app y v6 hown6 hgr6
        have HD6 := hid (D6.mono (show _ ≤ N + 4 + 4 * (k + 1) by omega))
        obtain ⟨⟨d0, e0⟩, d1, e1⟩ := P6.form2
        clear hown6 hgr6 P6 D6 HD KR
        refine wpAny_ready (rs := [7]) (by kernel_rfl) (by simp) ?_
        refine AllReady.cons rfl (fun K hK => ?_) AllReady.nil
        go_simp
        refine hK _ _ ?_
        clear hK K
        refine wpAny_ready (rs := [8]) (by kernel_rfl) (by simp) ?_
        refine AllReady.cons rfl (fun K hK => ?_) AllReady.nil
        go_simp
        refine hK _ _ ?_
        clear hK K
        refine wpAny_done (by kernel_rfl) ?_ _
        go_wp2
        go_roundw
        case rel => exact ⟨k + 1, j - 1, la6, lc6, _, rfl, by omega, HD6.out⟩
        case measure => simp [intOf]; omega
      · go_simp
        refine (pick_any B b _ 100 _ HD.out.cur (by omega) (by omega)).mono ?_
        rintro e w4 ⟨r4, hr4, rfl, c4, g4⟩
        replace HD := hid (HD.out.grow c4 g4)
        obtain ⟨y, hy⟩ : ∃ z : Int, IntKind.i64.wrap (1 + (r4 : Int)) = z := ⟨_, rfl⟩
        refine hK _ _ ?_
        clear hK K c4 g4 hr4
        refine wpAny_take (i := 4) (v := (.int .i64 y)) rfl (by kernel_rfl) (by kernel_rfl) (by kernel_rfl) (fun _ _ _ h => h) (Or.inl ⟨by kernel_rfl, fun _ => by go_simp⟩) ?_
        try simp only [Act.put]
        try simp only [List.setIfInBounds_toArray]
        try simp only [List.set_cons_succ]
        try simp only [List.set_cons_zero]
        refine wpAny_ready (rs := [1, 5]) (by kernel_rfl) (by simp) ?_
        refine AllReady.cons rfl (fun K hK => ?_) (AllReady.cons rfl (fun K hK => ?_) AllReady.nil)
        · obtain ⟨x0, x1⟩ := HD.out.box.two
          go_simp
          refine hK _ _ ?_
          clear hK K x0 x1
          refine wpAny_ready (rs := [5]) (by kernel_rfl) (by simp) ?_
          refine AllReady.cons rfl (fun K hK => ?_) AllReady.nil
          go_simp
          refine hK _ _ ?_
          clear hK K
          replace HD := hid (HD.out.new (w1 := w4.alloc (.cells #[.int .i64 y] 3)) ((Below.refl _ _).alloc (Nat.le_refl _) _))
          have KR := hid (kreads_int w4 y)
          obtain ⟨W5, hW5⟩ : ∃ W, W = w4.alloc (.cells #[.int .i64 y] 3) := ⟨_, rfl⟩
          obtain ⟨g5, hg5⟩ : ∃ g, g = w4.heap.size := ⟨_, rfl⟩
          rw [← hW5, ← hg5] at KR
          rw [← hW5] at HD
          rw [← hW5, ← hg5]
          clear hW5 hg5
          refine wpAny_ready (rs := [6]) (by kernel_rfl) (by simp) ?_
          refine AllReady.cons rfl (fun K hK => ?_) AllReady.nil
          refine step_append_reads (by rfl) _ _ (by rfl) (bo + 1) _ _ _ (by rfl) HD.out.own _ [y] (by rfl) KR.out (by simp; omega) HD.out.sz ?_
          intro v6 w6 hown6 hgr6 _
          refine hK _ _ ?_
          clear hK K
          obtain ⟨la6, lc6, rfl, P6, D6⟩ := HD.out.app y v6 hown6 hgr6
          have HD6 := hid (D6.mono (show _ ≤ N + 4 + 4 * (k + 1) by omega))
          obtain ⟨⟨d0, e0⟩, d1, e1⟩ := P6.form2
          clear hown6 hgr6 P6 D6 HD KR
          refine wpAny_ready (rs := [7]) (by kernel_rfl) (by simp) ?_
          refine AllReady.cons rfl (fun K hK => ?_) AllReady.nil
          go_simp
          refine hK _ _ ?_
          clear hK K
          refine wpAny_ready (rs := [8]) (by kernel_rfl) (by simp) ?_
          refine AllReady.cons rfl (fun K hK => ?_) AllReady.nil
          go_simp
          refine hK _ _ ?_
          clear hK K
          refine wpAny_done (by kernel_rfl) ?_ _
          go_wp2
          go_roundw
          case rel => exact ⟨k + 1, j - 1, la6, lc6, _, rfl, by omega, HD6.out⟩
          case measure => simp [intOf]; omega
        · go_simp
          refine hK _ _ ?_
          clear hK K
          replace HD := hid (HD.out.new (w1 := w4.alloc (.cells #[.int .i64 y] 3)) ((Below.refl _ _).alloc (Nat.le_refl _) _))
          have KR := hid (kreads_int w4 y)
          obtain ⟨W5, hW5⟩ : ∃ W, W = w4.alloc (.cells #[.int .i64 y] 3) := ⟨_, rfl⟩
          obtain ⟨g5, hg5⟩ : ∃ g, g = w4.heap.size := ⟨_, rfl⟩
          rw [← hW5, ← hg5] at KR
          rw [← hW5] at HD
          rw [← hW5, ← hg5]
          clear hW5 hg5
          obtain ⟨x0, x1⟩ := HD.out.box.two
          refine wpAny_ready (rs := [1]) (by kernel_rfl) (by simp) ?_
          refine AllReady.cons rfl (fun K hK => ?_) AllReady.nil
          go_simp
          refine hK _ _ ?_
          clear hK K
          clear x0 x1
          refine wpAny_ready (rs := [6]) (by kernel_rfl) (by simp) ?_
          refine AllReady.cons rfl (fun K hK => ?_) AllReady.nil
          refine step_append_reads (by rfl) _ _ (by rfl) (bo + 1) _ _ _ (by rfl) HD.out.own _ [y] (by rfl) KR.out (by simp; omega) HD.out.sz ?_
          intro v6 w6 hown6 hgr6 _
          refine hK _ _ ?_
          clear hK K
          obtain ⟨la6, lc6, rfl, P6, D6⟩ := HD.out.app y v6 hown6 hgr6
          have HD6 := hid (D6.mono (show _ ≤ N + 4 + 4 * (k + 1) by omega))
          obtain ⟨⟨d0, e0⟩, d1, e1⟩ := P6.form2
          clear hown6 hgr6 P6 D6 HD KR
          refine wpAny_ready (rs := [7]) (by kernel_rfl) (by simp) ?_
          refine AllReady.cons rfl (fun K hK => ?_) AllReady.nil
          go_simp
          refine hK _ _ ?_
          clear hK K
          refine wpAny_ready (rs := [8]) (by kernel_rfl) (by simp) ?_
          refine AllReady.cons rfl (fun K hK => ?_) AllReady.nil
          go_simp
          refine hK _ _ ?_
          clear hK K
          refine wpAny_done (by kernel_rfl) ?_ _
          go_wp2
          go_roundw
          case rel => exact ⟨k + 1, j - 1, la6, lc6, _, rfl, by omega, HD6.out⟩
          case measure => simp [intOf]; omega
    · obtain rfl : j = 0 := by omega
      have hk1 : 1 ≤ k := by omega
      have hk6 : k ≤ 6 := by omega
      clear hkj hj
      go_wp2_with fail
      refine (pick_any B b _ 30 _ HD.out.cur (by omega) (by omega)).mono ?_
      rintro e w8 ⟨r8, hr8, rfl, c8, g8⟩
      replace HD := hid ((HD.out.grow c8 g8).mono (show _ ≤ N + 40 by omega))
      clear c8 g8 hr8
      by_cases h0 : r8 = 0
      · subst h0
        have hd0 : (((0 : Nat) : Int) == 0) = true := rfl
        go_wp2_with fail
        refine wp_region_any (by kernel_rfl) ?_
        change wpAny _ _ _ _ _ _ _ (World.drew _)
        replace HD : Hid (DrS B b (N + 40) w.heap.size bo w (World.drew w8) zr k la lc xs) := ⟨HD.out.box, HD.out.own, HD.out.len, HD.out.res, HD.out.cur.drew, only_drew HD.out.gro, HD.out.sz, HD.out.lo⟩
        obtain ⟨W2, hW2⟩ : ∃ W, W = World.drew w8 := ⟨_, rfl⟩
        rw [← hW2] at HD ⊢
        clear hW2
        refine wpAny_take (i := 0) (v := (.pointer (some ⟨bo, 0, none⟩))) rfl (by kernel_rfl) (by kernel_rfl) (by kernel_rfl) (fun _ _ _ h => h) (Or.inl ⟨by kernel_rfl, fun _ => by go_simp⟩) ?_
        try simp only [Act.put]
        try simp only [List.setIfInBounds_toArray]
        try simp only [List.set_cons_succ]
        try simp only [List.set_cons_zero]
        refine wpAny_take (i := 2) (v := (.pointer (some ⟨b, 0, none⟩))) rfl (by kernel_rfl) (by kernel_rfl) (by kernel_rfl) (fun _ _ _ h => h) (Or.inl ⟨by kernel_rfl, fun _ => by go_simp⟩) ?_
        try simp only [Act.put]
        try simp only [List.setIfInBounds_toArray]
        try simp only [List.set_cons_succ]
        try simp only [List.set_cons_zero]
        refine wpAny_ready (rs := [1, 3]) (by kernel_rfl) (by simp) ?_
        refine AllReady.cons rfl (fun K hK => ?_) (AllReady.cons rfl (fun K hK => ?_) AllReady.nil)
        · obtain ⟨x0, x1⟩ := HD.out.box.two
          go_simp
          refine hK _ _ ?_
          clear hK K x0 x1
          have HD5 := HD
          refine wpAny_ready (rs := [3]) (by kernel_rfl) (by simp) ?_
          refine AllReady.cons rfl (fun K hK => ?_) AllReady.nil
          go_simp
          refine hK _ _ ?_
          clear hK K
          have LT := hid (lit_new W2 [0, 10000, 10001] 3)
          replace HD := hid (HD.out.new (w1 := W2.alloc (.cells #[.int .i64 0, .int .i64 10000, .int .i64 10001] 3)) ((Below.refl _ _).alloc (Nat.le_refl _) _))
          obtain ⟨W5, hW5⟩ : ∃ W, W = W2.alloc (.cells #[.int .i64 0, .int .i64 10000, .int .i64 10001] 3) := ⟨_, rfl⟩
          obtain ⟨g5, hg5⟩ : ∃ g, g = W2.heap.size := ⟨_, rfl⟩
          replace LT : Hid (Lit64 W5 g5 3) := by rw [hW5, hg5]; exact LT.out
          have hgb : g5 ≠ b := by have := HD5.out.lo; have := HD5.out.sz; omega
          rw [← hW5] at HD
          rw [← hW5, ← hg5]
          clear hW5 hg5 HD5
          refine wpAny_ready (rs := [4]) (by kernel_rfl) (by simp) ?_
          refine AllReady.cons rfl (fun K hK => ?_) AllReady.nil
          go_simp
          refine (among_any B b (N + 40) g5 3 3 _ HD.out.cur (by omega) hgb LT.out (by omega) (by omega)).mono ?_
          rintro e w9 ⟨z9, rfl, c9, g9⟩
          replace HD := hid (HD.out.grow c9 g9)
          refine hK _ _ ?_
          clear hK K c9 g9 LT hgb
          obtain ⟨g, y0, hla, cy, fy, hset⟩ := HD.out.set0 hk1
          subst hla
          replace HD := hid (hset z9)
          have hk0 : (0 : Int) < (k : Int) := by omega
          have hkn : 0 < k := by omega
          clear hset
          refine wpAny_ready (rs := [5]) (by kernel_rfl) (by simp) ?_
          refine AllReady.cons rfl (fun K hK => ?_) AllReady.nil
          go_simp
          refine hK _ _ ?_
          clear hK K
          refine wpAny_ready (rs := [6]) (by kernel_rfl) (by simp) ?_
          refine AllReady.cons rfl (fun K hK => ?_) AllReady.nil
          go_simp
          refine hK _ _ ?_
          clear hK K
          refine wpAny_done (by kernel_rfl) ?_ _
          obtain ⟨⟨c0, f0⟩, c1, f1⟩ := HD.out.box.form2
          obtain ⟨⟨y0, z0⟩, y1, z1⟩ := HD.out.res.form2
          have LF := HD.out.leaf (by omega)
          have HO := hid LF.1
          have HCU := hid (LF.2.1.mono (show _ ≤ N + 100 by omega))
          have HGR := hid LF.2.2.1
          obtain ⟨t0, t1⟩ := LF.2.2.2
          clear LF HD
          go_wp2
          exact bodyPost_ret (v := .agg #[.slice (some ⟨g, 0, none⟩) k lc, .int .i64 zr]) (by simp [results, Try.results44, go_sem, t0, t1]) rfl ⟨_, rfl, _, HO.out, HCU.out, HGR.out⟩
        · have HD5 := HD
          go_simp
          refine hK _ _ ?_
          clear hK K
          have LT := hid (lit_new W2 [0, 10000, 10001] 3)
          replace HD := hid (HD.out.new (w1 := W2.alloc (.cells #[.int .i64 0, .int .i64 10000, .int .i64 10001] 3)) ((Below.refl _ _).alloc (Nat.le_refl _) _))
          obtain ⟨W5, hW5⟩ : ∃ W, W = W2.alloc (.cells #[.int .i64 0, .int .i64 10000, .int .i64 10001] 3) := ⟨_, rfl⟩
          obtain ⟨g5, hg5⟩ : ∃ g, g = W2.heap.size := ⟨_, rfl⟩
          replace LT : Hid (Lit64 W5 g5 3) := by rw [hW5, hg5]; exact LT.out
          have hgb : g5 ≠ b := by have := HD5.out.lo; have := HD5.out.sz; omega
          rw [← hW5] at HD
          rw [← hW5, ← hg5]
          clear hW5 hg5 HD5
          refine wpAny_ready (rs := [1, 4]) (by kernel_rfl) (by simp) ?_
          refine AllReady.cons rfl (fun K hK => ?_) (AllReady.cons rfl (fun K hK => ?_) AllReady.nil)
          · obtain ⟨x0, x1⟩ := HD.out.box.two
            go_simp
            refine hK _ _ ?_
            clear hK K x0 x1
            refine wpAny_ready (rs := [4]) (by kernel_rfl) (by simp) ?_
            refine AllReady.cons rfl (fun K hK => ?_) AllReady.nil
            go_simp
            refine (among_any B b (N + 40) g5 3 3 _ HD.out.cur (by omega) hgb LT.out (by omega) (by omega)).mono ?_
            rintro e w9 ⟨z9, rfl, c9, g9⟩
            replace HD := hid (HD.out.grow c9 g9)
            refine hK _ _ ?_
            clear hK K c9 g9 LT hgb
            obtain ⟨g, y0, hla, cy, fy, hset⟩ := HD.out.set0 hk1
            subst hla
            replace HD := hid (hset z9)
            have hk0 : (0 : Int) < (k : Int) := by omega
            have hkn : 0 < k := by omega
            clear hset
            refine wpAny_ready (rs := [5]) (by kernel_rfl) (by simp) ?_
            refine AllReady.cons rfl (fun K hK => ?_) AllReady.nil
            go_simp
            refine hK _ _ ?_
            clear hK K
            refine wpAny_ready (rs := [6]) (by kernel_rfl) (by simp) ?_
            refine AllReady.cons rfl (fun K hK => ?_) AllReady.nil
            go_simp
            refine hK _ _ ?_
            clear hK K
            refine wpAny_done (by kernel_rfl) ?_ _
            obtain ⟨⟨c0, f0⟩, c1, f1⟩ := HD.out.box.form2
            obtain ⟨⟨y0, z0⟩, y1, z1⟩ := HD.out.res.form2
            have LF := HD.out.leaf (by omega)
            have HO := hid LF.1
            have HCU := hid (LF.2.1.mono (show _ ≤ N + 100 by omega))
            have HGR := hid LF.2.2.1
            obtain ⟨t0, t1⟩ := LF.2.2.2
            clear LF HD
            go_wp2
            exact bodyPost_ret (v := .agg #[.slice (some ⟨g, 0, none⟩) k lc, .int .i64 zr]) (by simp [results, Try.results44, go_sem, t0, t1]) rfl ⟨_, rfl, _, HO.out, HCU.out, HGR.out⟩
          · go_simp
            refine (among_any B b (N + 40) g5 3 3 _ HD.out.cur (by omega) hgb LT.out (by omega) (by omega)).mono ?_
            rintro e w9 ⟨z9, rfl, c9, g9⟩
            replace HD := hid (HD.out.grow c9 g9)
            refine hK _ _ ?_
            clear hK K c9 g9 LT hgb
            obtain ⟨x0, x1⟩ := HD.out.box.two
            refine wpAny_ready (rs := [1]) (by kernel_rfl) (by simp) ?_
            refine AllReady.cons rfl (fun K hK => ?_) AllReady.nil
            go_simp
            refine hK _ _ ?_
            clear hK K
            clear x0 x1
            obtain ⟨g, y0, hla, cy, fy, hset⟩ := HD.out.set0 hk1
            subst hla
            replace HD := hid (hset z9)
            have hk0 : (0 : Int) < (k : Int) := by omega
            have hkn : 0 < k := by omega
            clear hset
            refine wpAny_ready (rs := [5]) (by kernel_rfl) (by simp) ?_
            refine AllReady.cons rfl (fun K hK => ?_) AllReady.nil
            go_simp
            refine hK _ _ ?_
            clear hK K
            refine wpAny_ready (rs := [6]) (by kernel_rfl) (by simp) ?_
            refine AllReady.cons rfl (fun K hK => ?_) AllReady.nil
            go_simp
            refine hK _ _ ?_
            clear hK K
            refine wpAny_done (by kernel_rfl) ?_ _
            obtain ⟨⟨c0, f0⟩, c1, f1⟩ := HD.out.box.form2
            obtain ⟨⟨y0, z0⟩, y1, z1⟩ := HD.out.res.form2
            have LF := HD.out.leaf (by omega)
            have HO := hid LF.1
            have HCU := hid (LF.2.1.mono (show _ ≤ N + 100 by omega))
            have HGR := hid LF.2.2.1
            obtain ⟨t0, t1⟩ := LF.2.2.2
            clear LF HD
            go_wp2
            exact bodyPost_ret (v := .agg #[.slice (some ⟨g, 0, none⟩) k lc, .int .i64 zr]) (by simp [results, Try.results44, go_sem, t0, t1]) rfl ⟨_, rfl, _, HO.out, HCU.out, HGR.out⟩
      · have hd0 : ((r8 : Int) == 0) = false := by rw [beq_eq_false_iff_ne]; omega
        by_cases h1 : r8 = 1
        · subst h1
          have hd1 : (((1 : Nat) : Int) == 1) = true := rfl
          clear h0
          go_wp2_with fail
          have LT := hid (lit_new w8 [0, 40000, 40001] 3)
          have HD5 := HD
          replace HD := hid (HD.out.new (w1 := w8.alloc (.cells #[.int .i64 0, .int .i64 40000, .int .i64 40001] 3)) ((Below.refl _ _).alloc (Nat.le_refl _) _))
          have hgb : w8.heap.size ≠ b := by have := HD5.out.lo; have := HD5.out.sz; omega
          refine (among_any B b (N + 40) w8.heap.size 3 3 _ HD.out.cur (by omega) hgb LT.out (by omega) (by omega)).mono ?_
          rintro e w9 ⟨z9, rfl, c9, g9⟩
          replace HD := hid (HD.out.grow c9 g9)
          obtain ⟨⟨x0, fx0⟩, x1, fx1⟩ := HD.out.box.form2
          obtain ⟨q1, q2⟩ := (HD.out.room z9).box.two
          obtain ⟨⟨y0, z0⟩, y1, z1⟩ := (HD.out.room z9).res.form2
          replace HD := hid (HD.out.room z9)
          clear c9 g9 LT hgb HD5
          have LF := HD.out.leaf (by omega)
          have HO := hid LF.1
          have HCU := hid (LF.2.1.mono (show _ ≤ N + 100 by omega))
          have HGR := hid LF.2.2.1
          obtain ⟨t0, t1⟩ := LF.2.2.2
          clear LF HD
          go_wp2
          exact bodyPost_ret (v := .agg #[.slice la k lc, .int .i64 z9]) (by simp [results, Try.results44, go_sem, t0, t1]) rfl ⟨_, rfl, _, HO.out, HCU.out, HGR.out⟩
        · have hd1 : ((r8 : Int) == 1) = false := by rw [beq_eq_false_iff_ne]; omega
          clear h0 h1
          obtain ⟨⟨c0, f0⟩, c1, f1⟩ := HD.out.box.form2
          obtain ⟨⟨y0, z0⟩, y1, z1⟩ := HD.out.res.form2
          have LF := HD.out.leaf (by omega)
          have HO := hid LF.1
          have HCU := hid (LF.2.1.mono (show _ ≤ N + 100 by omega))
          have HGR := hid LF.2.2.1
          obtain ⟨t0, t1⟩ := LF.2.2.2
          clear LF HD
          go_wp2
          exact bodyPost_ret (v := .agg #[.slice la k lc, .int .i64 zr]) (by simp [results, Try.results44, go_sem, t0, t1]) rfl ⟨_, rfl, _, HO.out, HCU.out, HGR.out⟩
end Go.Proofs.Ytepnhbicmlfnhad
