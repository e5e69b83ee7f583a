/-
  spec.l10Halve: each window divided by two, one at least, in memory of its own. Nothing old is written.
-/
import Derived.Test.YtepnhbicmlfnhadShApp
import Derived.Test.YtepnhbicmlfnhadRegFacts
import Derived.Test.YtepnhbicmlfnhadSMost9
namespace Go.Proofs.Ytepnhbicmlfnhad
open Go.RowKit

/-- What the operations make. -/
def halF (B3 : Nat) (vl : Value) (x h2 y : Int) : Nat → (Nat → Value) → (Nat → Nat × Nat) → World → Prop
  | 0, σ, _, _ => σ 0 = .pointer (some ⟨B3, 0, none⟩)
  | 1, σ, _, _ => σ 1 = vl
  | 2, σ, _, _ => σ 2 = .int .i64 x
  | 3, σ, _, _ => σ 3 = .int .i64 h2
  | 4, σ, _, _ => σ 4 = .int .i64 y
  | 5, σ, _, w => KReads w (σ 5) [y] ∧ ∃ a n k, σ 5 = .slice a n k
  | _, _, _, _ => True
theorem halF_keep {B3 : Nat} {vl : Value} {x h2 y : Int} : ∀ j ∈ [0, 1, 2, 3, 4, 5], ∀ σ c w w', halF B3 vl x h2 y j σ c w → Below w.heap.size w w' → halF B3 vl x h2 y j σ c w' := by
  intro j hj σ c w w' h hb
  simp only [List.mem_cons, List.not_mem_nil, or_false] at hj; rcases hj with rfl | rfl | rfl | rfl | rfl | rfl
  · exact h
  · exact h
  · exact h
  · exact h
  · exact h
  · exact ⟨h.1.below hb, h.2⟩
theorem halF_loc {B3 : Nat} {vl : Value} {x h2 y : Int} {j i : Nat} {σ : Nat → Value} {c : Nat → Nat × Nat} {w : World} {v : Value} {r : Nat × Nat} (hj : j ∈ [0, 1, 2, 3, 4, 5]) (hne : i ≠ j) (_hd : True) (h : halF B3 vl x h2 y j σ c w) : halF B3 vl x h2 y j (upd σ i v) (upd c i r) w := by
  simp only [List.mem_cons, List.not_mem_nil, or_false] at hj; rcases hj with rfl | rfl | rfl | rfl | rfl | rfl
  · simp only [halF, upd_other _ _ (Ne.symm hne)] at h ⊢
    exact h
  · simp only [halF, upd_other _ _ (Ne.symm hne)] at h ⊢
    exact h
  · simp only [halF, upd_other _ _ (Ne.symm hne)] at h ⊢
    exact h
  · simp only [halF, upd_other _ _ (Ne.symm hne)] at h ⊢
    exact h
  · simp only [halF, upd_other _ _ (Ne.symm hne)] at h ⊢
    exact h
  · simp only [halF, upd_other _ _ (Ne.symm hne)] at h ⊢
    exact h
set_option maxRecDepth 100000 in
set_option maxHeartbeats 8000000 in
theorem shalve_any (v : Value) (D : ShD) (w : World) (hr : ShReads w v D) (hg : GoodS D) :
    Calls Try.prog 40 #[v] w fun e w' => ∃ u0, e = .returned u0 ∧ ShOwn (Iv w.heap.size w'.heap.size) w' u0 (halveS D) ∧ Below w.heap.size w w' := by
  obtain ⟨v0, rfl, r0⟩ := hr
  have HG := hid hg
  have hl1 := hg.l1
  have hl5 := hg.l5
  obtain ⟨g, off, cap, rfl, hc⟩ := r0.cells 0 hl1
  obtain ⟨z, hz⟩ : ∃ z, z = D.f1 := ⟨_, rfl⟩
  have HZ := hid hz
  rw [← hz]
  have P := box_two w (.slice (some ⟨g, off, none⟩) D.f0.length cap) (.int .i64 z) (.slice none 0 0) (.int .i64 0) 25
  obtain ⟨W, hW⟩ : ∃ W, W = (w.alloc (.cells #[.slice (some ⟨g, off, none⟩) D.f0.length cap, .int .i64 z] 25)).alloc (.cells #[.slice none 0 0, .int .i64 0] 25) := ⟨_, rfl⟩
  obtain ⟨q0, q1⟩ := P.1.two
  rw [← hW] at P
  have HC : Hid (∀ i, i < D.f0.length → KCells W g (off + i) (fl D.f0 i)) := fun i hi => (hc i hi).below P.2.2.1 (hc i hi).lt
  have HGW : Hid (g < w.heap.size) := (hc 0 hl1).lt
  have PA := hid P.1
  have PR := hid P.2.1
  have B := hid P.2.2.1
  have hWs := P.2.2.2
  have HW := hid hW
  clear P hc r0 hg hW hz
  go_enter Try.func40, Try.ntmps40
  go_wp2
  obtain ⟨PO, BO, hWt⟩ := box_next (w := W) (.slice none 0 0) (.int .i64 z) 25
  rw [hWs] at PO
  rw [← HW.out] at q0 q1 ⊢
  clear q0 q1 HW PA
  obtain ⟨V, hV⟩ : ∃ V, V = W.alloc (.cells #[.slice none 0 0, .int .i64 z] 25) := ⟨_, rfl⟩
  rw [← hV] at PO BO hWt ⊢
  replace PR := hid (PR.out.below BO PR.out.lt)
  replace B := hid (B.out.trans (BO.mono B.out.size))
  replace HC : Hid (∀ i, i < D.f0.length → KCells V g (off + i) (fl D.f0 i)) := fun i hi => (HC.out i hi).below BO (HC.out i hi).lt
  have hgw : g < w.heap.size := HGW.out
  have HPO := hid PO
  have hVs : V.heap.size = w.heap.size + 3 := by omega
  clear PO BO hV hWt hWs
  go_loopw [12] (fun i wr => ∃ (k : Nat) (la : Option Addr) (lc : Nat), k ≤ D.f0.length ∧ i = .int .i64 k ∧ BoxL wr (w.heap.size + 2) [.slice la k lc, .int .i64 z] ∧ wr.ownsRow (w.heap.size + 3) 3 1 (.slice la k lc) k (kflat ((D.f0.map halfOf).take k)) ∧ Below (w.heap.size + 2) V wr) (fun i _ => D.f0.length - (intOf i).toNat)
  case atStart => exact ⟨0, none, 0, Nat.zero_le _, rfl, HPO.out, World.ownsRow_nil _ _ _ _, Below.refl _ _⟩
  case round =>
    obtain ⟨k, la, lc, hk, rfl, hbox, hown, hbel⟩ := hrel
    have HB := hid hbox
    have HO := hid hown
    have HL := hid hbel
    have hsz := hbel.size
    clear hbox hown hbel
    by_cases hlt : k < D.f0.length
    · obtain ⟨x, hx⟩ : ∃ x, x = fl D.f0 k := ⟨_, rfl⟩
      have cx : wr.cell? ⟨g, off + k, none⟩ = some (.int .i64 x) := by rw [hx]; exact (HC.out k hlt).below HL.out (by omega)
      have hb := HG.out.win k hlt
      rw [← hx] at hb
      obtain ⟨y, hy⟩ : ∃ y, y = halfOf x := ⟨_, rfl⟩
      obtain ⟨h2, hh2⟩ : ∃ h2 : Int, h2 = x / 2 := ⟨_, rfl⟩
      have hw1 : x.tdiv 2 = h2 := by rw [hh2]; exact Int.tdiv_eq_ediv_of_nonneg (by omega)
      have hw2 : IntKind.i64.wrap h2 = h2 := by rw [IntKind.wrap_i64]; omega
      have HY : Hid (max 1 h2 = y) := by show _ = _; rw [hy, hh2]; rfl
      have HM : Hid ((D.f0.map halfOf).take (k + 1) = (D.f0.map halfOf).take k ++ [y]) := by show _ = _; rw [map_snoc _ _ _ hlt, ← hx, hy]
      have m0 : (0 : Int) ≤ (k : Int) := by omega
      have m1 : (k : Int) < (D.f0.length : Int) := by omega
      obtain ⟨⟨c0, f0⟩, c1, f1⟩ := HB.out.form2
      clear hx hb hy
      clear hh2
      go_wp2_with fail
      refine wp_region_any (by kernel_rfl) ?_
      change wpAny _ _ _ _ _ _ _ (World.drew _)
      obtain ⟨W2, hW2⟩ : ∃ W, W = World.drew wr := ⟨_, rfl⟩
      replace HB : Hid (BoxL W2 (w.heap.size + 2) [.slice la k lc, .int .i64 z]) := by rw [hW2]; exact HB.out
      replace HO : Hid (W2.ownsRow (w.heap.size + 3) 3 1 (.slice la k lc) k (kflat ((D.f0.map halfOf).take k))) := by rw [hW2]; exact HO.out
      replace HL : Hid (Below (w.heap.size + 2) V W2) := by rw [hW2]; exact HL.out.drew
      have hsz2 : V.heap.size ≤ W2.heap.size := HL.out.size
      rw [← hW2]
      clear hW2 hsz c0 c1 f0 f1 cx
      refine wpAny_facts' 3 (Array.replicate 9 false) #[true, true, true, true, true, true, false, false, false] [0, 1, 2, 3, 4, 5] (fun σ => #[.agg #[.slice (some ⟨g, off, none⟩) D.f0.length cap, .int .i64 z], .pointer (some ⟨w.heap.size, 0, none⟩), .pointer (some ⟨w.heap.size + 1, 0, none⟩), .pointer (some ⟨w.heap.size + 1 + 1, 0, none⟩), undef, .int .i64 x, .pointer (some ⟨w.heap.size, 1, none⟩), .int .i64 z, .agg #[.slice none 0 0, .int .i64 z], .pointer (some ⟨w.heap.size, 0, none⟩), .slice (some ⟨g, off, none⟩) D.f0.length cap, .int .i64 (D.f0.length : Nat), .int .i64 (k : Nat), .bool true, .pointer (some ⟨g, off + k, none⟩), .int .i64 x, σ 0, σ 1, σ 2, σ 3, σ 4, σ 5, u22, u23, u24, undef]) (halF (w.heap.size + 1 + 1) (.slice la k lc) x h2 y) (fun i => match i with | 0 => u16 | 1 => u17 | 2 => u18 | 3 => u19 | 4 => u20 | _ => u21) rfl (by kernel_rfl) (by kernel_rfl) (by kernel_rfl) (by kernel_rfl) (by decide) halF_keep (fun j hj i hi σ c w v r hne hd h => halF_loc hj hne trivial h) ?_ ?_
      · intro σ c wr' hb hf hin hdj
        have e0 : halF _ _ _ _ _ 0 σ c wr' := hf 0 (by decide)
        have e1 : halF _ _ _ _ _ 1 σ c wr' := hf 1 (by decide)
        have e2 : halF _ _ _ _ _ 2 σ c wr' := hf 2 (by decide)
        have e3 : halF _ _ _ _ _ 3 σ c wr' := hf 3 (by decide)
        have e4 : halF _ _ _ _ _ 4 σ c wr' := hf 4 (by decide)
        obtain ⟨k5, a5, n5, q5, e5⟩ : halF _ _ _ _ _ 5 σ c wr' := hf 5 (by decide)
        simp only [halF] at e0 e1 e2 e3 e4
        rw [e5] at k5
        clear hf hin hdj
        try dsimp only
        rw [e0, e1, e2, e3, e4, e5]
        replace HB := hid (HB.out.below hb HB.out.lt)
        replace HO := hid (owns_at1 HO.out fun g _ _ hg => hb.block g hg)
        replace HL := hid (HL.out.trans (hb.mono (by omega)))
        have hsz3 : V.heap.size ≤ wr'.heap.size := HL.out.size
        clear hb e0 e1 e2 e3 e4 e5
        refine wpAny_ready (rs := [6]) (by kernel_rfl) (by simp) ?_
        refine AllReady.cons rfl (fun K hK => ?_) AllReady.nil
        refine step_append_reads (by rfl) _ _ (by rfl) (w.heap.size + 3) _ _ _ (by rfl) HO.out _ [y] (by rfl) k5 (by simp; omega) (by omega) ?_
        intro v6 w6 hown6 hgr6 _
        refine hK _ _ ?_
        clear hK K
        obtain ⟨la6, lc6, rfl, P6, P7, O7, B7, _⟩ := app_box0 HB.out HO.out v6 hown6 hgr6 (by omega) (by omega)
        rw [← HM.out] at O7
        have HP7 := hid P7
        have HO7 := hid O7
        have HB7 : Hid (Below (w.heap.size + 2) V (w6.setCell ⟨w.heap.size + 2, 0, none⟩ (.slice la6 (k + 1) lc6))) := HL.out.trans B7
        obtain ⟨⟨d0, e0⟩, d1, e1⟩ := P6.form2
        clear hown6 hgr6 P6 P7 O7 B7 HB HO HL k5
        refine wpAny_ready (rs := [7]) (by kernel_rfl) (by simp) ?_
        refine AllReady.cons rfl (fun K hK => ?_) AllReady.nil
        go_simp
        refine hK _ _ ?_
        clear hK K
        refine wpAny_ready (rs := [8]) (by kernel_rfl) (by simp) ?_
        refine AllReady.cons rfl (fun K hK => ?_) AllReady.nil
        go_simp
        refine hK _ _ ?_
        clear hK K
        refine wpAny_done (by kernel_rfl) ?_ _
        go_wp2
        go_roundw
        case rel => exact ⟨_, .int .i64 ((k : Int) + 1), _, _, _, _, _, _, _, _, _, _, _, _, ⟨k + 1, la6, lc6, by omega, by go_num, HP7.out, HO7.out, HB7.out⟩, rfl⟩
        case measure => simp [intOf]; omega
      · intro i hi σ c wr' hb hd
        simp only [List.mem_cons, List.not_mem_nil, or_false] at hi; rcases hi with rfl | rfl | rfl | rfl | rfl | rfl
        · skip
          clear hd
          refine StepF.of (a1 := ⟨#[.agg #[.slice (some ⟨g, off, none⟩) D.f0.length cap, .int .i64 z], .pointer (some ⟨w.heap.size, 0, none⟩), .pointer (some ⟨w.heap.size + 1, 0, none⟩), .pointer (some ⟨w.heap.size + 1 + 1, 0, none⟩), undef, .int .i64 x, .pointer (some ⟨w.heap.size, 1, none⟩), .int .i64 z, .agg #[.slice none 0 0, .int .i64 z], .pointer (some ⟨w.heap.size, 0, none⟩), .slice (some ⟨g, off, none⟩) D.f0.length cap, .int .i64 (D.f0.length : Nat), .int .i64 (k : Nat), .bool true, .pointer (some ⟨g, off + k, none⟩), .int .i64 x, σ 0, σ 1, σ 2, σ 3, σ 4, σ 5, u22, u23, u24, undef], []⟩) rfl rfl (fun _ => rfl) (fun K hK => ?_)
          go_simp
          exact hK _ _ (Below.refl _ _) rfl
        · skip
          have f0 : halF _ _ _ _ _ 0 σ c wr' := hd 0 (by decide) (by decide)
          simp only [halF] at f0
          clear hd
          refine StepF.of (a1 := ⟨#[.agg #[.slice (some ⟨g, off, none⟩) D.f0.length cap, .int .i64 z], .pointer (some ⟨w.heap.size, 0, none⟩), .pointer (some ⟨w.heap.size + 1, 0, none⟩), .pointer (some ⟨w.heap.size + 1 + 1, 0, none⟩), undef, .int .i64 x, .pointer (some ⟨w.heap.size, 1, none⟩), .int .i64 z, .agg #[.slice none 0 0, .int .i64 z], .pointer (some ⟨w.heap.size, 0, none⟩), .slice (some ⟨g, off, none⟩) D.f0.length cap, .int .i64 (D.f0.length : Nat), .int .i64 (k : Nat), .bool true, .pointer (some ⟨g, off + k, none⟩), .int .i64 x, (.pointer (some ⟨w.heap.size + 1 + 1, 0, none⟩)), σ 1, σ 2, σ 3, σ 4, σ 5, u22, u23, u24, undef], []⟩) (by simp only [f0]) rfl (fun _ => rfl) (fun K hK => ?_)
          obtain ⟨c0, c1⟩ := (HB.out.below hb HB.out.lt).two
          go_simp
          exact hK _ _ (Below.refl _ _) rfl
        · skip
          clear hd
          refine StepF.of (a1 := ⟨#[.agg #[.slice (some ⟨g, off, none⟩) D.f0.length cap, .int .i64 z], .pointer (some ⟨w.heap.size, 0, none⟩), .pointer (some ⟨w.heap.size + 1, 0, none⟩), .pointer (some ⟨w.heap.size + 1 + 1, 0, none⟩), undef, .int .i64 x, .pointer (some ⟨w.heap.size, 1, none⟩), .int .i64 z, .agg #[.slice none 0 0, .int .i64 z], .pointer (some ⟨w.heap.size, 0, none⟩), .slice (some ⟨g, off, none⟩) D.f0.length cap, .int .i64 (D.f0.length : Nat), .int .i64 (k : Nat), .bool true, .pointer (some ⟨g, off + k, none⟩), .int .i64 x, σ 0, σ 1, σ 2, σ 3, σ 4, σ 5, u22, u23, u24, undef], []⟩) rfl rfl (fun _ => rfl) (fun K hK => ?_)
          go_simp
          exact hK _ _ (Below.refl _ _) rfl
        · skip
          have f2 : halF _ _ _ _ _ 2 σ c wr' := hd 2 (by decide) (by decide)
          simp only [halF] at f2
          clear hd
          refine StepF.of (a1 := ⟨#[.agg #[.slice (some ⟨g, off, none⟩) D.f0.length cap, .int .i64 z], .pointer (some ⟨w.heap.size, 0, none⟩), .pointer (some ⟨w.heap.size + 1, 0, none⟩), .pointer (some ⟨w.heap.size + 1 + 1, 0, none⟩), undef, .int .i64 x, .pointer (some ⟨w.heap.size, 1, none⟩), .int .i64 z, .agg #[.slice none 0 0, .int .i64 z], .pointer (some ⟨w.heap.size, 0, none⟩), .slice (some ⟨g, off, none⟩) D.f0.length cap, .int .i64 (D.f0.length : Nat), .int .i64 (k : Nat), .bool true, .pointer (some ⟨g, off + k, none⟩), .int .i64 x, σ 0, σ 1, (.int .i64 x), σ 3, σ 4, σ 5, u22, u23, u24, undef], []⟩) (by simp only [f2]) rfl (fun _ => rfl) (fun K hK => ?_)
          go_simp
          exact hK _ _ (Below.refl _ _) rfl
        · skip
          have f3 : halF _ _ _ _ _ 3 σ c wr' := hd 3 (by decide) (by decide)
          simp only [halF] at f3
          clear hd
          refine StepF.of (a1 := ⟨#[.agg #[.slice (some ⟨g, off, none⟩) D.f0.length cap, .int .i64 z], .pointer (some ⟨w.heap.size, 0, none⟩), .pointer (some ⟨w.heap.size + 1, 0, none⟩), .pointer (some ⟨w.heap.size + 1 + 1, 0, none⟩), undef, .int .i64 x, .pointer (some ⟨w.heap.size, 1, none⟩), .int .i64 z, .agg #[.slice none 0 0, .int .i64 z], .pointer (some ⟨w.heap.size, 0, none⟩), .slice (some ⟨g, off, none⟩) D.f0.length cap, .int .i64 (D.f0.length : Nat), .int .i64 (k : Nat), .bool true, .pointer (some ⟨g, off + k, none⟩), .int .i64 x, σ 0, σ 1, σ 2, (.int .i64 h2), σ 4, σ 5, u22, u23, u24, undef], []⟩) (by simp only [f3]) rfl (fun _ => rfl) (fun K hK => ?_)
          go_simp
          refine (smost_eq 1 h2 y HY.out _).mono ?_
          rintro e w' ⟨rfl, hw⟩; obtain rfl := hw.symm
          exact hK _ _ (Below.refl _ _) rfl
        · skip
          have f4 : halF _ _ _ _ _ 4 σ c wr' := hd 4 (by decide) (by decide)
          simp only [halF] at f4
          clear hd
          refine StepF.of (a1 := ⟨#[.agg #[.slice (some ⟨g, off, none⟩) D.f0.length cap, .int .i64 z], .pointer (some ⟨w.heap.size, 0, none⟩), .pointer (some ⟨w.heap.size + 1, 0, none⟩), .pointer (some ⟨w.heap.size + 1 + 1, 0, none⟩), undef, .int .i64 x, .pointer (some ⟨w.heap.size, 1, none⟩), .int .i64 z, .agg #[.slice none 0 0, .int .i64 z], .pointer (some ⟨w.heap.size, 0, none⟩), .slice (some ⟨g, off, none⟩) D.f0.length cap, .int .i64 (D.f0.length : Nat), .int .i64 (k : Nat), .bool true, .pointer (some ⟨g, off + k, none⟩), .int .i64 x, σ 0, σ 1, σ 2, σ 3, (.int .i64 y), σ 5, u22, u23, u24, undef], []⟩) (by simp only [f4]) rfl (fun _ => rfl) (fun K hK => ?_)
          go_simp
          exact hK _ _ ((Below.refl _ _).alloc (Nat.le_refl _) _) ⟨kreads_int _ _, _, _, _, rfl⟩
    · obtain rfl : k = D.f0.length := by omega
      have ht : (D.f0.map halfOf).take D.f0.length = D.f0.map halfOf := List.take_of_length_le (by simp)
      have O1 := HO.out
      rw [ht] at O1
      have K1 := KOwn.of_owns O1 (by simp; omega)
      have hzz := HZ.out
      have S1 : ShOwn (Iv (w.heap.size + 3) wr.heap.size) wr (.agg #[.slice la D.f0.length lc, .int .i64 z]) (halveS D) := by
        rw [hzz]
        exact ShOwn.mk1 (D := halveS D) K1 (by omega) (fun g h1 h2 => ⟨h1, h2⟩)
      have R1 := PR.out.below HL.out (by omega)
      have LF := sh_leaf R1 (B.out.trans (HL.out.mono (by omega))) (by omega) S1 (by omega) (Nat.le_refl _) (by omega)
      have HT := hid LF.1
      have HBB := hid LF.2.1
      obtain ⟨t0, t1⟩ := LF.2.2
      obtain ⟨⟨c0, f0⟩, c1, f1⟩ := HB.out.form2
      obtain ⟨⟨y0, x0⟩, y1, x1⟩ := R1.form2
      clear LF R1 S1 K1 O1 ht hzz HO HB HL
      go_wp2
      exact bodyPost_ret (v := .agg #[.slice la D.f0.length lc, .int .i64 z]) (by simp [results, Try.results40, go_sem, t0, t1]) rfl ⟨_, rfl, HT.out, HBB.out⟩
end Go.Proofs.Ytepnhbicmlfnhad
