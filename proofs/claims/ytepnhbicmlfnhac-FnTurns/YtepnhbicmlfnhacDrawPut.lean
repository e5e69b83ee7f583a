/-
  spec.DrawPutPacket: whatever turns, queue and packet it draws. Nothing old is written.
-/
import Derived.Test.YtepnhbicmlfnhacDrtEnd
import Derived.Test.YtepnhbicmlfnhacInts
namespace Go.Proofs.Ytepnhbicmlfnhac
open Go.RowKit

def TurnsTells (f : Nat) : Prop := ∀ (B b N : Nat) (w : World), Cur B w b N → N ≤ 1152921504606830000 → Calls Try.prog f #[.pointer (some ⟨b, 0, none⟩)] w fun e w' => ∃ v, e = .returned v ∧ (∃ (D : TuD) (S : Nat → Prop), TuOwn S w' v D ∧ ∀ g, S g → w.heap.size ≤ g ∧ g < w'.heap.size) ∧ Cur B w' b (N + 1000) ∧ w.grownBy w' (some b)
/-- Turns in a box, beside a cursor. -/
structure DrP (w : World) (bt N : Nat) (vs : List Value) (v : Value) (S : Nat → Prop) (D : TuD) (wr : World) : Prop where
  box : BoxL wr bt vs
  rb : BoxL wr w.heap.size [.slice none 0 0, .slice none 0 0, .slice none 0 0, .slice none 0 0, .int .i64 0]
  own : TuOwn S wr v D
  cur : Cur (w.heap.size + 1) wr (w.heap.size + 1) N
  bel : Below w.heap.size w wr
  lo : w.heap.size + 2 ≤ bt ∧ ∀ g, S g → w.heap.size + 2 ≤ g
theorem DrP.grow {w : World} {bt N N' : Nat} {vs : List Value} {v : Value} {S : Nat → Prop} {D : TuD} {wr w1 : World} (h : DrP w bt N vs v S D wr) (hc : Cur (w.heap.size + 1) w1 (w.heap.size + 1) N') (g : wr.grownBy w1 (some (w.heap.size + 1))) : DrP w bt N' vs v S D w1 := by
  have lo := h.lo
  have k : ∀ j, j ≠ w.heap.size + 1 → j < wr.heap.size → w1.heap[j]? = wr.heap[j]? := fun j hj hl => g.block j hl (by intro e; injection e with e; omega)
  exact ⟨h.box.of_block (k _ (by omega) h.box.lt), h.rb.of_block (k _ (by omega) h.rb.lt), h.own.at fun j hj hl => k j (by have := lo.2 j hj; omega) hl, hc, h.bel.trans (only_below g (by omega) h.bel.size), lo⟩
theorem DrP.new {w : World} {bt N : Nat} {vs : List Value} {v : Value} {S : Nat → Prop} {D : TuD} {wr w1 : World} (h : DrP w bt N vs v S D wr) (b : Below wr.heap.size wr w1) : DrP w bt N vs v S D w1 :=
  ⟨h.box.below b h.box.lt, h.rb.below b h.rb.lt, h.own.below b, h.cur.below b, h.bel.trans (b.mono h.bel.size), h.lo⟩
theorem lit_grow {wr w1 : World} {g n b : Nat} (h : Lit64 wr g n ∧ (g < wr.heap.size ∧ b < g)) (gr : wr.grownBy w1 (some b)) : Lit64 w1 g n ∧ (g < w1.heap.size ∧ b < g) := by
  refine ⟨fun i hi => ?_, Nat.lt_of_lt_of_le h.2.1 gr.size, h.2.2⟩
  obtain ⟨z, hz⟩ := h.1 i hi
  exact ⟨z, (World.cell?_of_block (a := ⟨g, i, none⟩) (gr.block g h.2.1 (by intro e; injection e with e; omega))).trans hz⟩
set_option maxRecDepth 100000 in
set_option maxHeartbeats 16000000 in
theorem drawPutT_of (HT0 : TurnsTells 96) (v : Value) (w : World) (h : CodeOk w.heap.size w v) :
    Calls Try.prog 42 #[v] w fun e w' => ∃ (u : Value) (k s : Int), e = .returned (.tuple #[u, .int .i64 k, .int .i64 s]) ∧ ∃ D : TuD, TuReads w' u D ∧ Below w.heap.size w w' := by
  have HT := hid HT0
  clear HT0
  have R0 := hid (drR w v h)
  obtain ⟨a, len, cap, rfl, _, _⟩ := h
  have hs := R0.out.sz
  go_enter Try.func42, Try.ntmps42
  go_wp2_with fail
  refine (HT.out (w.heap.size + 1) (w.heap.size + 1) 0 _ R0.out.cur (by omega)).mono ?_
  rintro e w1 ⟨u, rfl, ⟨D, S, ho, hS⟩, c1, g1⟩
  obtain ⟨a0, n0, k0, a1, n1, k1, a2, n2, k2, a3, n3, k3, rfl⟩ := ho.form
  obtain ⟨z4, hz4⟩ : ∃ z, z = D.f4 := ⟨_, rfl⟩
  obtain ⟨rb, bel, _⟩ := told_own R0.out g1 ho hS
  rw [← hz4] at ho ⊢
  have hs1 := g1.size
  rw [hs] at hs1
  have b6 : Below w1.heap.size w1 (w1.alloc (.cells #[.slice a0 n0 k0, .slice a1 n1 k1, .slice a2 n2 k2, .slice a3 n3 k3, .int .i64 z4] 55)) := (Below.refl _ _).alloc (Nat.le_refl _) _
  have HP : Hid (DrP w w1.heap.size 1000 [.slice a0 n0 k0, .slice a1 n1 k1, .slice a2 n2 k2, .slice a3 n3 k3, .int .i64 z4] (.agg #[.slice a0 n0 k0, .slice a1 n1 k1, .slice a2 n2 k2, .slice a3 n3 k3, .int .i64 z4]) S D (w1.alloc (.cells #[.slice a0 n0 k0, .slice a1 n1 k1, .slice a2 n2 k2, .slice a3 n3 k3, .int .i64 z4] 55))) := ⟨boxL_new w1 [.slice a0 n0 k0, .slice a1 n1 k1, .slice a2 n2 k2, .slice a3 n3 k3, .int .i64 z4] 55, rb.below b6 rb.lt, ho.below b6, (c1.below b6).mono (by omega), bel.trans (b6.mono bel.size), by omega, fun g hg => by have := hS g hg; omega⟩
  clear rb bel ho hS g1 R0 hs c1 b6 hz4
  go_wp2_with fail
  refine wp_region_any (by kernel_rfl) ?_
  change wpAny _ _ _ _ _ _ _ (World.drew _)
  replace HP : Hid (DrP w w1.heap.size 1000 [.slice a0 n0 k0, .slice a1 n1 k1, .slice a2 n2 k2, .slice a3 n3 k3, .int .i64 z4] (.agg #[.slice a0 n0 k0, .slice a1 n1 k1, .slice a2 n2 k2, .slice a3 n3 k3, .int .i64 z4]) S D (World.drew (w1.alloc (.cells #[.slice a0 n0 k0, .slice a1 n1 k1, .slice a2 n2 k2, .slice a3 n3 k3, .int .i64 z4] 55)))) := ⟨HP.out.box, HP.out.rb, HP.out.own, HP.out.cur.drew, HP.out.bel.drew, HP.out.lo⟩
  obtain ⟨W0, hW0⟩ : ∃ X, X = World.drew (w1.alloc (.cells #[.slice a0 n0 k0, .slice a1 n1 k1, .slice a2 n2 k2, .slice a3 n3 k3, .int .i64 z4] 55)) := ⟨_, rfl⟩
  obtain ⟨bt, hbt⟩ : ∃ x, x = w1.heap.size := ⟨_, rfl⟩
  rw [← hW0, ← hbt] at HP
  rw [← hW0, ← hbt]
  clear hW0 hbt hs1
  refine wpAny_take (i := 1) (v := (.pointer (some ⟨w.heap.size + 1, 0, none⟩))) rfl (by kernel_rfl) (by kernel_rfl) (by kernel_rfl) (fun _ _ _ h => h) (Or.inl ⟨by kernel_rfl, fun _ => by go_simp⟩) ?_
  try simp only [Act.put]
  try simp only [List.setIfInBounds_toArray]
  try simp only [List.set_cons_succ]
  try simp only [List.set_cons_zero]
  refine wpAny_take (i := 4) (v := (.pointer (some ⟨w.heap.size + 1, 0, none⟩))) rfl (by kernel_rfl) (by kernel_rfl) (by kernel_rfl) (fun _ _ _ h => h) (Or.inl ⟨by kernel_rfl, fun _ => by go_simp⟩) ?_
  try simp only [Act.put]
  try simp only [List.setIfInBounds_toArray]
  try simp only [List.set_cons_succ]
  try simp only [List.set_cons_zero]
  refine wpAny_ready (rs := [0, 2, 5]) (by kernel_rfl) (by simp) ?_
  refine AllReady.cons rfl (fun K hK => ?_) (AllReady.cons rfl (fun K hK => ?_) (AllReady.cons rfl (fun K hK => ?_) AllReady.nil))
  · skip
    obtain ⟨x0, x1, x2, x3, x4⟩ := HP.out.box.five
    go_simp
    refine hK _ _ ?_
    clear hK K x0 x1 x2 x3 x4
    refine wpAny_ready (rs := [2, 5]) (by kernel_rfl) (by simp) ?_
    refine AllReady.cons rfl (fun K hK => ?_) (AllReady.cons rfl (fun K hK => ?_) AllReady.nil)
    · skip
      go_simp
      refine (pick_any (w.heap.size + 1) (w.heap.size + 1) _ 6 _ HP.out.cur (by omega) (by omega)).mono ?_
      rintro e wp1 ⟨r, _, rfl, c, g⟩
      replace HP := hid (HP.out.grow c g)
      obtain ⟨y, hy⟩ : ∃ y : Int, IntKind.i64.wrap ((r : Int) - 1) = y := ⟨_, rfl⟩
      refine hK _ _ ?_
      clear hK K c g
      refine wpAny_take (i := 3) (v := (.int .i64 y)) rfl (by kernel_rfl) (by kernel_rfl) (by kernel_rfl) (fun _ _ _ h => h) (Or.inl ⟨by kernel_rfl, fun _ => by go_simp⟩) ?_
      try simp only [Act.put]
      try simp only [List.setIfInBounds_toArray]
      try simp only [List.set_cons_succ]
      try simp only [List.set_cons_zero]
      refine wpAny_ready (rs := [5]) (by kernel_rfl) (by simp) ?_
      refine AllReady.cons rfl (fun K hK => ?_) AllReady.nil
      go_simp
      refine hK _ _ ?_
      clear hK K
      have lt := lit_new wp1 [0, 1, 7, 20, 21] 3
      have hlo := HP.out.lo
      have hlt := HP.out.box.lt
      replace HP := hid (HP.out.new (w1 := wp1.alloc (.cells #[.int .i64 0, .int .i64 1, .int .i64 7, .int .i64 20, .int .i64 21] 3)) ((Below.refl _ _).alloc (Nat.le_refl _) _))
      obtain ⟨wl2, hX⟩ : ∃ X, X = wp1.alloc (.cells #[.int .i64 0, .int .i64 1, .int .i64 7, .int .i64 20, .int .i64 21] 3) := ⟨_, rfl⟩
      obtain ⟨g5, hg5⟩ : ∃ g, g = wp1.heap.size := ⟨_, rfl⟩
      have LT : Hid (Lit64 wl2 g5 5 ∧ (g5 < wl2.heap.size ∧ w.heap.size + 1 < g5)) := ⟨by rw [hX, hg5]; exact lt, by rw [hX, hg5, World.size_alloc]; omega, by rw [hg5]; omega⟩
      rw [← hX] at HP
      rw [← hX, ← hg5]
      clear lt hlo hlt hX hg5
      refine wpAny_ready (rs := [6]) (by kernel_rfl) (by simp) ?_
      refine AllReady.cons rfl (fun K hK => ?_) AllReady.nil
      go_simp
      refine (among_any (w.heap.size + 1) (w.heap.size + 1) _ g5 5 5 _ HP.out.cur (by omega) (by have := LT.out.2.2; omega) LT.out.1 (by omega) (by omega)).mono ?_
      rintro e wa3 ⟨sz, rfl, c, g⟩
      replace HP := hid (HP.out.grow c g)
      refine hK _ _ ?_
      clear hK K c g LT
      obtain ⟨x0, x1, x2, x3, x4⟩ := HP.out.rb.five
      have f0 := (HP.out.rb.cell 0 (by simp)).2
      have f1 := (HP.out.rb.cell 1 (by simp)).2
      have f2 := (HP.out.rb.cell 2 (by simp)).2
      have f3 := (HP.out.rb.cell 3 (by simp)).2
      have f4 := (HP.out.rb.cell 4 (by simp)).2
      have hle : w.heap.size ≤ w.heap.size := Nat.le_refl _
      refine wpAny_ready (rs := [7]) (by kernel_rfl) (by simp) ?_
      refine AllReady.cons rfl (fun K hK => ?_) AllReady.nil
      go_simp
      refine hK _ _ ?_
      clear hK K
      refine wpAny_ready (rs := [8]) (by kernel_rfl) (by simp) ?_
      refine AllReady.cons rfl (fun K hK => ?_) AllReady.nil
      go_simp
      refine hK _ _ ?_
      clear hK K
      refine wpAny_ready (rs := [9]) (by kernel_rfl) (by simp) ?_
      refine AllReady.cons rfl (fun K hK => ?_) AllReady.nil
      go_simp
      refine hK _ _ ?_
      clear hK K
      refine wpAny_done (by kernel_rfl) ?_ _
      go_wp2
      obtain ⟨e0, e1, e2, e3, e4⟩ := (tput5_box HP.out.rb (.slice a0 n0 k0) (.slice a1 n1 k1) (.slice a2 n2 k2) (.slice a3 n3 k3) (.int .i64 z4)).five
      exact bodyPost_ret (v := .tuple #[.agg #[.slice a0 n0 k0, .slice a1 n1 k1, .slice a2 n2 k2, .slice a3 n3 k3, .int .i64 z4], .int .i64 y, .int .i64 sz]) (by simp [results, Try.results42, go_sem, e0, e1, e2, e3, e4]) rfl ⟨_, y, sz, rfl, D, (HP.out.own.at (w' := tput5 wa3 w.heap.size (.slice a0 n0 k0) (.slice a1 n1 k1) (.slice a2 n2 k2) (.slice a3 n3 k3) (.int .i64 z4)) fun g hg _ => tput5_far _ _ _ _ _ _ _ _ (by have := HP.out.lo.2 g hg; omega)).reads, ((((HP.out.bel.setCell hle _).setCell hle _).setCell hle _).setCell hle _).setCell hle _⟩
    · skip
      go_simp
      refine hK _ _ ?_
      clear hK K
      have lt := lit_new W0 [0, 1, 7, 20, 21] 3
      have hlo := HP.out.lo
      have hlt := HP.out.box.lt
      replace HP := hid (HP.out.new (w1 := W0.alloc (.cells #[.int .i64 0, .int .i64 1, .int .i64 7, .int .i64 20, .int .i64 21] 3)) ((Below.refl _ _).alloc (Nat.le_refl _) _))
      obtain ⟨wl1, hX⟩ : ∃ X, X = W0.alloc (.cells #[.int .i64 0, .int .i64 1, .int .i64 7, .int .i64 20, .int .i64 21] 3) := ⟨_, rfl⟩
      obtain ⟨g5, hg5⟩ : ∃ g, g = W0.heap.size := ⟨_, rfl⟩
      have LT : Hid (Lit64 wl1 g5 5 ∧ (g5 < wl1.heap.size ∧ w.heap.size + 1 < g5)) := ⟨by rw [hX, hg5]; exact lt, by rw [hX, hg5, World.size_alloc]; omega, by rw [hg5]; omega⟩
      rw [← hX] at HP
      rw [← hX, ← hg5]
      clear lt hlo hlt hX hg5
      refine wpAny_ready (rs := [2]) (by kernel_rfl) (by simp) ?_
      refine AllReady.cons rfl (fun K hK => ?_) AllReady.nil
      go_simp
      refine (pick_any (w.heap.size + 1) (w.heap.size + 1) _ 6 _ HP.out.cur (by omega) (by omega)).mono ?_
      rintro e wp2 ⟨r, _, rfl, c, g⟩
      replace HP := hid (HP.out.grow c g)
      replace LT := hid (lit_grow LT.out g)
      obtain ⟨y, hy⟩ : ∃ y : Int, IntKind.i64.wrap ((r : Int) - 1) = y := ⟨_, rfl⟩
      refine hK _ _ ?_
      clear hK K c g
      refine wpAny_take (i := 3) (v := (.int .i64 y)) rfl (by kernel_rfl) (by kernel_rfl) (by kernel_rfl) (fun _ _ _ h => h) (Or.inl ⟨by kernel_rfl, fun _ => by go_simp⟩) ?_
      try simp only [Act.put]
      try simp only [List.setIfInBounds_toArray]
      try simp only [List.set_cons_succ]
      try simp only [List.set_cons_zero]
      refine wpAny_ready (rs := [6]) (by kernel_rfl) (by simp) ?_
      refine AllReady.cons rfl (fun K hK => ?_) AllReady.nil
      go_simp
      refine (among_any (w.heap.size + 1) (w.heap.size + 1) _ g5 5 5 _ HP.out.cur (by omega) (by have := LT.out.2.2; omega) LT.out.1 (by omega) (by omega)).mono ?_
      rintro e wa3 ⟨sz, rfl, c, g⟩
      replace HP := hid (HP.out.grow c g)
      refine hK _ _ ?_
      clear hK K c g LT
      obtain ⟨x0, x1, x2, x3, x4⟩ := HP.out.rb.five
      have f0 := (HP.out.rb.cell 0 (by simp)).2
      have f1 := (HP.out.rb.cell 1 (by simp)).2
      have f2 := (HP.out.rb.cell 2 (by simp)).2
      have f3 := (HP.out.rb.cell 3 (by simp)).2
      have f4 := (HP.out.rb.cell 4 (by simp)).2
      have hle : w.heap.size ≤ w.heap.size := Nat.le_refl _
      refine wpAny_ready (rs := [7]) (by kernel_rfl) (by simp) ?_
      refine AllReady.cons rfl (fun K hK => ?_) AllReady.nil
      go_simp
      refine hK _ _ ?_
      clear hK K
      refine wpAny_ready (rs := [8]) (by kernel_rfl) (by simp) ?_
      refine AllReady.cons rfl (fun K hK => ?_) AllReady.nil
      go_simp
      refine hK _ _ ?_
      clear hK K
      refine wpAny_ready (rs := [9]) (by kernel_rfl) (by simp) ?_
      refine AllReady.cons rfl (fun K hK => ?_) AllReady.nil
      go_simp
      refine hK _ _ ?_
      clear hK K
      refine wpAny_done (by kernel_rfl) ?_ _
      go_wp2
      obtain ⟨e0, e1, e2, e3, e4⟩ := (tput5_box HP.out.rb (.slice a0 n0 k0) (.slice a1 n1 k1) (.slice a2 n2 k2) (.slice a3 n3 k3) (.int .i64 z4)).five
      exact bodyPost_ret (v := .tuple #[.agg #[.slice a0 n0 k0, .slice a1 n1 k1, .slice a2 n2 k2, .slice a3 n3 k3, .int .i64 z4], .int .i64 y, .int .i64 sz]) (by simp [results, Try.results42, go_sem, e0, e1, e2, e3, e4]) rfl ⟨_, y, sz, rfl, D, (HP.out.own.at (w' := tput5 wa3 w.heap.size (.slice a0 n0 k0) (.slice a1 n1 k1) (.slice a2 n2 k2) (.slice a3 n3 k3) (.int .i64 z4)) fun g hg _ => tput5_far _ _ _ _ _ _ _ _ (by have := HP.out.lo.2 g hg; omega)).reads, ((((HP.out.bel.setCell hle _).setCell hle _).setCell hle _).setCell hle _).setCell hle _⟩
  · skip
    go_simp
    refine (pick_any (w.heap.size + 1) (w.heap.size + 1) _ 6 _ HP.out.cur (by omega) (by omega)).mono ?_
    rintro e wp0 ⟨r, _, rfl, c, g⟩
    replace HP := hid (HP.out.grow c g)
    obtain ⟨y, hy⟩ : ∃ y : Int, IntKind.i64.wrap ((r : Int) - 1) = y := ⟨_, rfl⟩
    refine hK _ _ ?_
    clear hK K c g
    refine wpAny_take (i := 3) (v := (.int .i64 y)) rfl (by kernel_rfl) (by kernel_rfl) (by kernel_rfl) (fun _ _ _ h => h) (Or.inl ⟨by kernel_rfl, fun _ => by go_simp⟩) ?_
    try simp only [Act.put]
    try simp only [List.setIfInBounds_toArray]
    try simp only [List.set_cons_succ]
    try simp only [List.set_cons_zero]
    refine wpAny_ready (rs := [0, 5]) (by kernel_rfl) (by simp) ?_
    refine AllReady.cons rfl (fun K hK => ?_) (AllReady.cons rfl (fun K hK => ?_) AllReady.nil)
    · skip
      obtain ⟨x0, x1, x2, x3, x4⟩ := HP.out.box.five
      go_simp
      refine hK _ _ ?_
      clear hK K x0 x1 x2 x3 x4
      refine wpAny_ready (rs := [5]) (by kernel_rfl) (by simp) ?_
      refine AllReady.cons rfl (fun K hK => ?_) AllReady.nil
      go_simp
      refine hK _ _ ?_
      clear hK K
      have lt := lit_new wp0 [0, 1, 7, 20, 21] 3
      have hlo := HP.out.lo
      have hlt := HP.out.box.lt
      replace HP := hid (HP.out.new (w1 := wp0.alloc (.cells #[.int .i64 0, .int .i64 1, .int .i64 7, .int .i64 20, .int .i64 21] 3)) ((Below.refl _ _).alloc (Nat.le_refl _) _))
      obtain ⟨wl2, hX⟩ : ∃ X, X = wp0.alloc (.cells #[.int .i64 0, .int .i64 1, .int .i64 7, .int .i64 20, .int .i64 21] 3) := ⟨_, rfl⟩
      obtain ⟨g5, hg5⟩ : ∃ g, g = wp0.heap.size := ⟨_, rfl⟩
      have LT : Hid (Lit64 wl2 g5 5 ∧ (g5 < wl2.heap.size ∧ w.heap.size + 1 < g5)) := ⟨by rw [hX, hg5]; exact lt, by rw [hX, hg5, World.size_alloc]; omega, by rw [hg5]; omega⟩
      rw [← hX] at HP
      rw [← hX, ← hg5]
      clear lt hlo hlt hX hg5
      refine wpAny_ready (rs := [6]) (by kernel_rfl) (by simp) ?_
      refine AllReady.cons rfl (fun K hK => ?_) AllReady.nil
      go_simp
      refine (among_any (w.heap.size + 1) (w.heap.size + 1) _ g5 5 5 _ HP.out.cur (by omega) (by have := LT.out.2.2; omega) LT.out.1 (by omega) (by omega)).mono ?_
      rintro e wa3 ⟨sz, rfl, c, g⟩
      replace HP := hid (HP.out.grow c g)
      refine hK _ _ ?_
      clear hK K c g LT
      obtain ⟨x0, x1, x2, x3, x4⟩ := HP.out.rb.five
      have f0 := (HP.out.rb.cell 0 (by simp)).2
      have f1 := (HP.out.rb.cell 1 (by simp)).2
      have f2 := (HP.out.rb.cell 2 (by simp)).2
      have f3 := (HP.out.rb.cell 3 (by simp)).2
      have f4 := (HP.out.rb.cell 4 (by simp)).2
      have hle : w.heap.size ≤ w.heap.size := Nat.le_refl _
      refine wpAny_ready (rs := [7]) (by kernel_rfl) (by simp) ?_
      refine AllReady.cons rfl (fun K hK => ?_) AllReady.nil
      go_simp
      refine hK _ _ ?_
      clear hK K
      refine wpAny_ready (rs := [8]) (by kernel_rfl) (by simp) ?_
      refine AllReady.cons rfl (fun K hK => ?_) AllReady.nil
      go_simp
      refine hK _ _ ?_
      clear hK K
      refine wpAny_ready (rs := [9]) (by kernel_rfl) (by simp) ?_
      refine AllReady.cons rfl (fun K hK => ?_) AllReady.nil
      go_simp
      refine hK _ _ ?_
      clear hK K
      refine wpAny_done (by kernel_rfl) ?_ _
      go_wp2
      obtain ⟨e0, e1, e2, e3, e4⟩ := (tput5_box HP.out.rb (.slice a0 n0 k0) (.slice a1 n1 k1) (.slice a2 n2 k2) (.slice a3 n3 k3) (.int .i64 z4)).five
      exact bodyPost_ret (v := .tuple #[.agg #[.slice a0 n0 k0, .slice a1 n1 k1, .slice a2 n2 k2, .slice a3 n3 k3, .int .i64 z4], .int .i64 y, .int .i64 sz]) (by simp [results, Try.results42, go_sem, e0, e1, e2, e3, e4]) rfl ⟨_, y, sz, rfl, D, (HP.out.own.at (w' := tput5 wa3 w.heap.size (.slice a0 n0 k0) (.slice a1 n1 k1) (.slice a2 n2 k2) (.slice a3 n3 k3) (.int .i64 z4)) fun g hg _ => tput5_far _ _ _ _ _ _ _ _ (by have := HP.out.lo.2 g hg; omega)).reads, ((((HP.out.bel.setCell hle _).setCell hle _).setCell hle _).setCell hle _).setCell hle _⟩
    · skip
      go_simp
      refine hK _ _ ?_
      clear hK K
      have lt := lit_new wp0 [0, 1, 7, 20, 21] 3
      have hlo := HP.out.lo
      have hlt := HP.out.box.lt
      replace HP := hid (HP.out.new (w1 := wp0.alloc (.cells #[.int .i64 0, .int .i64 1, .int .i64 7, .int .i64 20, .int .i64 21] 3)) ((Below.refl _ _).alloc (Nat.le_refl _) _))
      obtain ⟨wl1, hX⟩ : ∃ X, X = wp0.alloc (.cells #[.int .i64 0, .int .i64 1, .int .i64 7, .int .i64 20, .int .i64 21] 3) := ⟨_, rfl⟩
      obtain ⟨g5, hg5⟩ : ∃ g, g = wp0.heap.size := ⟨_, rfl⟩
      have LT : Hid (Lit64 wl1 g5 5 ∧ (g5 < wl1.heap.size ∧ w.heap.size + 1 < g5)) := ⟨by rw [hX, hg5]; exact lt, by rw [hX, hg5, World.size_alloc]; omega, by rw [hg5]; omega⟩
      rw [← hX] at HP
      rw [← hX, ← hg5]
      clear lt hlo hlt hX hg5
      refine wpAny_ready (rs := [0, 6]) (by kernel_rfl) (by simp) ?_
      refine AllReady.cons rfl (fun K hK => ?_) (AllReady.cons rfl (fun K hK => ?_) AllReady.nil)
      · skip
        obtain ⟨x0, x1, x2, x3, x4⟩ := HP.out.box.five
        go_simp
        refine hK _ _ ?_
        clear hK K x0 x1 x2 x3 x4
        refine wpAny_ready (rs := [6]) (by kernel_rfl) (by simp) ?_
        refine AllReady.cons rfl (fun K hK => ?_) AllReady.nil
        go_simp
        refine (among_any (w.heap.size + 1) (w.heap.size + 1) _ g5 5 5 _ HP.out.cur (by omega) (by have := LT.out.2.2; omega) LT.out.1 (by omega) (by omega)).mono ?_
        rintro e wa3 ⟨sz, rfl, c, g⟩
        replace HP := hid (HP.out.grow c g)
        refine hK _ _ ?_
        clear hK K c g LT
        obtain ⟨x0, x1, x2, x3, x4⟩ := HP.out.rb.five
        have f0 := (HP.out.rb.cell 0 (by simp)).2
        have f1 := (HP.out.rb.cell 1 (by simp)).2
        have f2 := (HP.out.rb.cell 2 (by simp)).2
        have f3 := (HP.out.rb.cell 3 (by simp)).2
        have f4 := (HP.out.rb.cell 4 (by simp)).2
        have hle : w.heap.size ≤ w.heap.size := Nat.le_refl _
        refine wpAny_ready (rs := [7]) (by kernel_rfl) (by simp) ?_
        refine AllReady.cons rfl (fun K hK => ?_) AllReady.nil
        go_simp
        refine hK _ _ ?_
        clear hK K
        refine wpAny_ready (rs := [8]) (by kernel_rfl) (by simp) ?_
        refine AllReady.cons rfl (fun K hK => ?_) AllReady.nil
        go_simp
        refine hK _ _ ?_
        clear hK K
        refine wpAny_ready (rs := [9]) (by kernel_rfl) (by simp) ?_
        refine AllReady.cons rfl (fun K hK => ?_) AllReady.nil
        go_simp
        refine hK _ _ ?_
        clear hK K
        refine wpAny_done (by kernel_rfl) ?_ _
        go_wp2
        obtain ⟨e0, e1, e2, e3, e4⟩ := (tput5_box HP.out.rb (.slice a0 n0 k0) (.slice a1 n1 k1) (.slice a2 n2 k2) (.slice a3 n3 k3) (.int .i64 z4)).five
        exact bodyPost_ret (v := .tuple #[.agg #[.slice a0 n0 k0, .slice a1 n1 k1, .slice a2 n2 k2, .slice a3 n3 k3, .int .i64 z4], .int .i64 y, .int .i64 sz]) (by simp [results, Try.results42, go_sem, e0, e1, e2, e3, e4]) rfl ⟨_, y, sz, rfl, D, (HP.out.own.at (w' := tput5 wa3 w.heap.size (.slice a0 n0 k0) (.slice a1 n1 k1) (.slice a2 n2 k2) (.slice a3 n3 k3) (.int .i64 z4)) fun g hg _ => tput5_far _ _ _ _ _ _ _ _ (by have := HP.out.lo.2 g hg; omega)).reads, ((((HP.out.bel.setCell hle _).setCell hle _).setCell hle _).setCell hle _).setCell hle _⟩
      · skip
        go_simp
        refine (among_any (w.heap.size + 1) (w.heap.size + 1) _ g5 5 5 _ HP.out.cur (by omega) (by have := LT.out.2.2; omega) LT.out.1 (by omega) (by omega)).mono ?_
        rintro e wa2 ⟨sz, rfl, c, g⟩
        replace HP := hid (HP.out.grow c g)
        refine hK _ _ ?_
        clear hK K c g LT
        refine wpAny_ready (rs := [0]) (by kernel_rfl) (by simp) ?_
        refine AllReady.cons rfl (fun K hK => ?_) AllReady.nil
        obtain ⟨x0, x1, x2, x3, x4⟩ := HP.out.box.five
        go_simp
        refine hK _ _ ?_
        clear hK K x0 x1 x2 x3 x4
        obtain ⟨x0, x1, x2, x3, x4⟩ := HP.out.rb.five
        have f0 := (HP.out.rb.cell 0 (by simp)).2
        have f1 := (HP.out.rb.cell 1 (by simp)).2
        have f2 := (HP.out.rb.cell 2 (by simp)).2
        have f3 := (HP.out.rb.cell 3 (by simp)).2
        have f4 := (HP.out.rb.cell 4 (by simp)).2
        have hle : w.heap.size ≤ w.heap.size := Nat.le_refl _
        refine wpAny_ready (rs := [7]) (by kernel_rfl) (by simp) ?_
        refine AllReady.cons rfl (fun K hK => ?_) AllReady.nil
        go_simp
        refine hK _ _ ?_
        clear hK K
        refine wpAny_ready (rs := [8]) (by kernel_rfl) (by simp) ?_
        refine AllReady.cons rfl (fun K hK => ?_) AllReady.nil
        go_simp
        refine hK _ _ ?_
        clear hK K
        refine wpAny_ready (rs := [9]) (by kernel_rfl) (by simp) ?_
        refine AllReady.cons rfl (fun K hK => ?_) AllReady.nil
        go_simp
        refine hK _ _ ?_
        clear hK K
        refine wpAny_done (by kernel_rfl) ?_ _
        go_wp2
        obtain ⟨e0, e1, e2, e3, e4⟩ := (tput5_box HP.out.rb (.slice a0 n0 k0) (.slice a1 n1 k1) (.slice a2 n2 k2) (.slice a3 n3 k3) (.int .i64 z4)).five
        exact bodyPost_ret (v := .tuple #[.agg #[.slice a0 n0 k0, .slice a1 n1 k1, .slice a2 n2 k2, .slice a3 n3 k3, .int .i64 z4], .int .i64 y, .int .i64 sz]) (by simp [results, Try.results42, go_sem, e0, e1, e2, e3, e4]) rfl ⟨_, y, sz, rfl, D, (HP.out.own.at (w' := tput5 wa2 w.heap.size (.slice a0 n0 k0) (.slice a1 n1 k1) (.slice a2 n2 k2) (.slice a3 n3 k3) (.int .i64 z4)) fun g hg _ => tput5_far _ _ _ _ _ _ _ _ (by have := HP.out.lo.2 g hg; omega)).reads, ((((HP.out.bel.setCell hle _).setCell hle _).setCell hle _).setCell hle _).setCell hle _⟩
  · skip
    go_simp
    refine hK _ _ ?_
    clear hK K
    have lt := lit_new W0 [0, 1, 7, 20, 21] 3
    have hlo := HP.out.lo
    have hlt := HP.out.box.lt
    replace HP := hid (HP.out.new (w1 := W0.alloc (.cells #[.int .i64 0, .int .i64 1, .int .i64 7, .int .i64 20, .int .i64 21] 3)) ((Below.refl _ _).alloc (Nat.le_refl _) _))
    obtain ⟨wl0, hX⟩ : ∃ X, X = W0.alloc (.cells #[.int .i64 0, .int .i64 1, .int .i64 7, .int .i64 20, .int .i64 21] 3) := ⟨_, rfl⟩
    obtain ⟨g5, hg5⟩ : ∃ g, g = W0.heap.size := ⟨_, rfl⟩
    have LT : Hid (Lit64 wl0 g5 5 ∧ (g5 < wl0.heap.size ∧ w.heap.size + 1 < g5)) := ⟨by rw [hX, hg5]; exact lt, by rw [hX, hg5, World.size_alloc]; omega, by rw [hg5]; omega⟩
    rw [← hX] at HP
    rw [← hX, ← hg5]
    clear lt hlo hlt hX hg5
    refine wpAny_ready (rs := [0, 2]) (by kernel_rfl) (by simp) ?_
    refine AllReady.cons rfl (fun K hK => ?_) (AllReady.cons rfl (fun K hK => ?_) AllReady.nil)
    · skip
      obtain ⟨x0, x1, x2, x3, x4⟩ := HP.out.box.five
      go_simp
      refine hK _ _ ?_
      clear hK K x0 x1 x2 x3 x4
      refine wpAny_ready (rs := [2]) (by kernel_rfl) (by simp) ?_
      refine AllReady.cons rfl (fun K hK => ?_) AllReady.nil
      go_simp
      refine (pick_any (w.heap.size + 1) (w.heap.size + 1) _ 6 _ HP.out.cur (by omega) (by omega)).mono ?_
      rintro e wp2 ⟨r, _, rfl, c, g⟩
      replace HP := hid (HP.out.grow c g)
      replace LT := hid (lit_grow LT.out g)
      obtain ⟨y, hy⟩ : ∃ y : Int, IntKind.i64.wrap ((r : Int) - 1) = y := ⟨_, rfl⟩
      refine hK _ _ ?_
      clear hK K c g
      refine wpAny_take (i := 3) (v := (.int .i64 y)) rfl (by kernel_rfl) (by kernel_rfl) (by kernel_rfl) (fun _ _ _ h => h) (Or.inl ⟨by kernel_rfl, fun _ => by go_simp⟩) ?_
      try simp only [Act.put]
      try simp only [List.setIfInBounds_toArray]
      try simp only [List.set_cons_succ]
      try simp only [List.set_cons_zero]
      refine wpAny_ready (rs := [6]) (by kernel_rfl) (by simp) ?_
      refine AllReady.cons rfl (fun K hK => ?_) AllReady.nil
      go_simp
      refine (among_any (w.heap.size + 1) (w.heap.size + 1) _ g5 5 5 _ HP.out.cur (by omega) (by have := LT.out.2.2; omega) LT.out.1 (by omega) (by omega)).mono ?_
      rintro e wa3 ⟨sz, rfl, c, g⟩
      replace HP := hid (HP.out.grow c g)
      refine hK _ _ ?_
      clear hK K c g LT
      obtain ⟨x0, x1, x2, x3, x4⟩ := HP.out.rb.five
      have f0 := (HP.out.rb.cell 0 (by simp)).2
      have f1 := (HP.out.rb.cell 1 (by simp)).2
      have f2 := (HP.out.rb.cell 2 (by simp)).2
      have f3 := (HP.out.rb.cell 3 (by simp)).2
      have f4 := (HP.out.rb.cell 4 (by simp)).2
      have hle : w.heap.size ≤ w.heap.size := Nat.le_refl _
      refine wpAny_ready (rs := [7]) (by kernel_rfl) (by simp) ?_
      refine AllReady.cons rfl (fun K hK => ?_) AllReady.nil
      go_simp
      refine hK _ _ ?_
      clear hK K
      refine wpAny_ready (rs := [8]) (by kernel_rfl) (by simp) ?_
      refine AllReady.cons rfl (fun K hK => ?_) AllReady.nil
      go_simp
      refine hK _ _ ?_
      clear hK K
      refine wpAny_ready (rs := [9]) (by kernel_rfl) (by simp) ?_
      refine AllReady.cons rfl (fun K hK => ?_) AllReady.nil
      go_simp
      refine hK _ _ ?_
      clear hK K
      refine wpAny_done (by kernel_rfl) ?_ _
      go_wp2
      obtain ⟨e0, e1, e2, e3, e4⟩ := (tput5_box HP.out.rb (.slice a0 n0 k0) (.slice a1 n1 k1) (.slice a2 n2 k2) (.slice a3 n3 k3) (.int .i64 z4)).five
      exact bodyPost_ret (v := .tuple #[.agg #[.slice a0 n0 k0, .slice a1 n1 k1, .slice a2 n2 k2, .slice a3 n3 k3, .int .i64 z4], .int .i64 y, .int .i64 sz]) (by simp [results, Try.results42, go_sem, e0, e1, e2, e3, e4]) rfl ⟨_, y, sz, rfl, D, (HP.out.own.at (w' := tput5 wa3 w.heap.size (.slice a0 n0 k0) (.slice a1 n1 k1) (.slice a2 n2 k2) (.slice a3 n3 k3) (.int .i64 z4)) fun g hg _ => tput5_far _ _ _ _ _ _ _ _ (by have := HP.out.lo.2 g hg; omega)).reads, ((((HP.out.bel.setCell hle _).setCell hle _).setCell hle _).setCell hle _).setCell hle _⟩
    · skip
      go_simp
      refine (pick_any (w.heap.size + 1) (w.heap.size + 1) _ 6 _ HP.out.cur (by omega) (by omega)).mono ?_
      rintro e wp1 ⟨r, _, rfl, c, g⟩
      replace HP := hid (HP.out.grow c g)
      replace LT := hid (lit_grow LT.out g)
      obtain ⟨y, hy⟩ : ∃ y : Int, IntKind.i64.wrap ((r : Int) - 1) = y := ⟨_, rfl⟩
      refine hK _ _ ?_
      clear hK K c g
      refine wpAny_take (i := 3) (v := (.int .i64 y)) rfl (by kernel_rfl) (by kernel_rfl) (by kernel_rfl) (fun _ _ _ h => h) (Or.inl ⟨by kernel_rfl, fun _ => by go_simp⟩) ?_
      try simp only [Act.put]
      try simp only [List.setIfInBounds_toArray]
      try simp only [List.set_cons_succ]
      try simp only [List.set_cons_zero]
      refine wpAny_ready (rs := [0, 6]) (by kernel_rfl) (by simp) ?_
      refine AllReady.cons rfl (fun K hK => ?_) (AllReady.cons rfl (fun K hK => ?_) AllReady.nil)
      · skip
        obtain ⟨x0, x1, x2, x3, x4⟩ := HP.out.box.five
        go_simp
        refine hK _ _ ?_
        clear hK K x0 x1 x2 x3 x4
        refine wpAny_ready (rs := [6]) (by kernel_rfl) (by simp) ?_
        refine AllReady.cons rfl (fun K hK => ?_) AllReady.nil
        go_simp
        refine (among_any (w.heap.size + 1) (w.heap.size + 1) _ g5 5 5 _ HP.out.cur (by omega) (by have := LT.out.2.2; omega) LT.out.1 (by omega) (by omega)).mono ?_
        rintro e wa3 ⟨sz, rfl, c, g⟩
        replace HP := hid (HP.out.grow c g)
        refine hK _ _ ?_
        clear hK K c g LT
        obtain ⟨x0, x1, x2, x3, x4⟩ := HP.out.rb.five
        have f0 := (HP.out.rb.cell 0 (by simp)).2
        have f1 := (HP.out.rb.cell 1 (by simp)).2
        have f2 := (HP.out.rb.cell 2 (by simp)).2
        have f3 := (HP.out.rb.cell 3 (by simp)).2
        have f4 := (HP.out.rb.cell 4 (by simp)).2
        have hle : w.heap.size ≤ w.heap.size := Nat.le_refl _
        refine wpAny_ready (rs := [7]) (by kernel_rfl) (by simp) ?_
        refine AllReady.cons rfl (fun K hK => ?_) AllReady.nil
        go_simp
        refine hK _ _ ?_
        clear hK K
        refine wpAny_ready (rs := [8]) (by kernel_rfl) (by simp) ?_
        refine AllReady.cons rfl (fun K hK => ?_) AllReady.nil
        go_simp
        refine hK _ _ ?_
        clear hK K
        refine wpAny_ready (rs := [9]) (by kernel_rfl) (by simp) ?_
        refine AllReady.cons rfl (fun K hK => ?_) AllReady.nil
        go_simp
        refine hK _ _ ?_
        clear hK K
        refine wpAny_done (by kernel_rfl) ?_ _
        go_wp2
        obtain ⟨e0, e1, e2, e3, e4⟩ := (tput5_box HP.out.rb (.slice a0 n0 k0) (.slice a1 n1 k1) (.slice a2 n2 k2) (.slice a3 n3 k3) (.int .i64 z4)).five
        exact bodyPost_ret (v := .tuple #[.agg #[.slice a0 n0 k0, .slice a1 n1 k1, .slice a2 n2 k2, .slice a3 n3 k3, .int .i64 z4], .int .i64 y, .int .i64 sz]) (by simp [results, Try.results42, go_sem, e0, e1, e2, e3, e4]) rfl ⟨_, y, sz, rfl, D, (HP.out.own.at (w' := tput5 wa3 w.heap.size (.slice a0 n0 k0) (.slice a1 n1 k1) (.slice a2 n2 k2) (.slice a3 n3 k3) (.int .i64 z4)) fun g hg _ => tput5_far _ _ _ _ _ _ _ _ (by have := HP.out.lo.2 g hg; omega)).reads, ((((HP.out.bel.setCell hle _).setCell hle _).setCell hle _).setCell hle _).setCell hle _⟩
      · skip
        go_simp
        refine (among_any (w.heap.size + 1) (w.heap.size + 1) _ g5 5 5 _ HP.out.cur (by omega) (by have := LT.out.2.2; omega) LT.out.1 (by omega) (by omega)).mono ?_
        rintro e wa2 ⟨sz, rfl, c, g⟩
        replace HP := hid (HP.out.grow c g)
        refine hK _ _ ?_
        clear hK K c g LT
        refine wpAny_ready (rs := [0]) (by kernel_rfl) (by simp) ?_
        refine AllReady.cons rfl (fun K hK => ?_) AllReady.nil
        obtain ⟨x0, x1, x2, x3, x4⟩ := HP.out.box.five
        go_simp
        refine hK _ _ ?_
        clear hK K x0 x1 x2 x3 x4
        obtain ⟨x0, x1, x2, x3, x4⟩ := HP.out.rb.five
        have f0 := (HP.out.rb.cell 0 (by simp)).2
        have f1 := (HP.out.rb.cell 1 (by simp)).2
        have f2 := (HP.out.rb.cell 2 (by simp)).2
        have f3 := (HP.out.rb.cell 3 (by simp)).2
        have f4 := (HP.out.rb.cell 4 (by simp)).2
        have hle : w.heap.size ≤ w.heap.size := Nat.le_refl _
        refine wpAny_ready (rs := [7]) (by kernel_rfl) (by simp) ?_
        refine AllReady.cons rfl (fun K hK => ?_) AllReady.nil
        go_simp
        refine hK _ _ ?_
        clear hK K
        refine wpAny_ready (rs := [8]) (by kernel_rfl) (by simp) ?_
        refine AllReady.cons rfl (fun K hK => ?_) AllReady.nil
        go_simp
        refine hK _ _ ?_
        clear hK K
        refine wpAny_ready (rs := [9]) (by kernel_rfl) (by simp) ?_
        refine AllReady.cons rfl (fun K hK => ?_) AllReady.nil
        go_simp
        refine hK _ _ ?_
        clear hK K
        refine wpAny_done (by kernel_rfl) ?_ _
        go_wp2
        obtain ⟨e0, e1, e2, e3, e4⟩ := (tput5_box HP.out.rb (.slice a0 n0 k0) (.slice a1 n1 k1) (.slice a2 n2 k2) (.slice a3 n3 k3) (.int .i64 z4)).five
        exact bodyPost_ret (v := .tuple #[.agg #[.slice a0 n0 k0, .slice a1 n1 k1, .slice a2 n2 k2, .slice a3 n3 k3, .int .i64 z4], .int .i64 y, .int .i64 sz]) (by simp [results, Try.results42, go_sem, e0, e1, e2, e3, e4]) rfl ⟨_, y, sz, rfl, D, (HP.out.own.at (w' := tput5 wa2 w.heap.size (.slice a0 n0 k0) (.slice a1 n1 k1) (.slice a2 n2 k2) (.slice a3 n3 k3) (.int .i64 z4)) fun g hg _ => tput5_far _ _ _ _ _ _ _ _ (by have := HP.out.lo.2 g hg; omega)).reads, ((((HP.out.bel.setCell hle _).setCell hle _).setCell hle _).setCell hle _).setCell hle _⟩
end Go.Proofs.Ytepnhbicmlfnhac
