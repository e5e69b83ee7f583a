/-
  spec.MendPiece: a piece made of all others, or the zero answer; nothing old is written.
-/
import Derived.Test.YtijojdempijhbadSIn
import Derived.Test.YtijojdempijhbadSXor
import Derived.Test.YtijojdempijhbadMendMath
import Derived.Test.YtijojdempijhbadXPart
import Derived.Test.YtijojdempijhbadXApp
import Derived.Test.YtijojdempijhbadRegFacts2
namespace Go.Proofs.Ytijojdempijhbad
open Go.RowKit
/-- What the operations make. -/
def smF (ur u0 ud pv : Value) (z X : ByteArray) (n m m1 : Nat) (ys : List XEl) : Nat → (Nat → Value) → (Nat → Nat × Nat) → World → Prop
  | 0, σ, _, _ => σ 0 = ur
  | 1, σ, _, _ => σ 1 = u0
  | 2, σ, _, _ => σ 2 = .int .i64 (m : Nat)
  | 3, σ, _, _ => σ 3 = .int .i64 (m1 : Nat)
  | 4, σ, _, _ => σ 4 = ud
  | 5, σ, _, w => XReads w (σ 5) ys ∧ ∃ a k q, σ 5 = .slice a k q
  | 6, σ, _, _ => σ 6 = u0
  | 7, σ, _, _ => σ 7 = pv
  | 8, σ, _, _ => σ 8 = .string z
  | 9, σ, _, _ => σ 9 = .int .i64 (n : Nat)
  | 10, σ, _, _ => σ 10 = .string X
  | _, _, _, _ => True
theorem smF_keep {ur u0 ud pv : Value} {z X : ByteArray} {n m m1 : Nat} {ys : List XEl} : ∀ j ∈ [0, 1, 2, 3, 4, 5, 6, 7, 8, 9, 10], ∀ σ c w w', smF ur u0 ud pv z X n m m1 ys j σ c w → Below w.heap.size w w' → smF ur u0 ud pv z X n m m1 ys j σ c w' := by
  intro j hj σ c w w' h hb
  simp only [List.mem_cons, List.not_mem_nil, or_false] at hj; rcases hj with rfl | rfl | rfl | rfl | rfl | rfl | rfl | rfl | rfl | rfl | rfl
  · exact h
  · exact h
  · exact h
  · exact h
  · exact h
  · exact ⟨h.1.below hb, h.2⟩
  · exact h
  · exact h
  · exact h
  · exact h
  · exact h
theorem smF_loc {ur u0 ud pv : Value} {z X : ByteArray} {n m m1 : Nat} {ys : List XEl} {j i : Nat} {σ : Nat → Value} {c : Nat → Nat × Nat} {w : World} {v : Value} {r : Nat × Nat} (hj : j ∈ [0, 1, 2, 3, 4, 5, 6, 7, 8, 9, 10]) (hne : i ≠ j) (_hd : True) (h : smF ur u0 ud pv z X n m m1 ys j σ c w) : smF ur u0 ud pv z X n m m1 ys j (upd σ i v) (upd c i r) w := by
  simp only [List.mem_cons, List.not_mem_nil, or_false] at hj; rcases hj with rfl | rfl | rfl | rfl | rfl | rfl | rfl | rfl | rfl | rfl | rfl
  · simp only [smF, upd_other _ _ (Ne.symm hne)] at h ⊢
    exact h
  · simp only [smF, upd_other _ _ (Ne.symm hne)] at h ⊢
    exact h
  · simp only [smF, upd_other _ _ (Ne.symm hne)] at h ⊢
    exact h
  · simp only [smF, upd_other _ _ (Ne.symm hne)] at h ⊢
    exact h
  · simp only [smF, upd_other _ _ (Ne.symm hne)] at h ⊢
    exact h
  · simp only [smF, upd_other _ _ (Ne.symm hne)] at h ⊢
    exact h
  · simp only [smF, upd_other _ _ (Ne.symm hne)] at h ⊢
    exact h
  · simp only [smF, upd_other _ _ (Ne.symm hne)] at h ⊢
    exact h
  · simp only [smF, upd_other _ _ (Ne.symm hne)] at h ⊢
    exact h
  · simp only [smF, upd_other _ _ (Ne.symm hne)] at h ⊢
    exact h
  · simp only [smF, upd_other _ _ (Ne.symm hne)] at h ⊢
    exact h
theorem smF_keep2 {ur u0 ud pv : Value} {z X : ByteArray} {n m m1 : Nat} {ys : List XEl} {g : Nat} : ∀ j ∈ [0, 1, 2, 3, 4, 5, 6, 7, 8, 9, 10], j ≠ 5 → ∀ σ c w w', smF ur u0 ud pv z X n m m1 ys j σ c w → w.grownBy w' (some g) → smF ur u0 ud pv z X n m m1 ys j σ c w' := by
  intro j hj hne σ c w w' h _
  simp only [List.mem_cons, List.not_mem_nil, or_false] at hj; rcases hj with rfl | rfl | rfl | rfl | rfl | rfl | rfl | rfl | rfl | rfl | rfl
  · exact h
  · exact h
  · exact h
  · exact h
  · exact h
  · exact absurd rfl hne
  · exact h
  · exact h
  · exact h
  · exact h
  · exact h
set_option maxRecDepth 100000 in
set_option maxHeartbeats 8000000 in
theorem smend_any (v : Value) (xs : List XEl) (k : Int) (T : ByteArray) (t : Bool) (hT : mendT xs k = T) (ht : mendB xs k = t) (w : World) (hr : XReads w v xs) :
    Calls Try.prog 65 #[v, .int .i64 k] w fun e w' => e = .returned (.tuple #[.string T, .bool t]) ∧ Below w.heap.size w w' := by
  have HR := hid hr
  have HT := hid hT
  have Ht := hid ht
  obtain ⟨a, cap, rfl, hll, _⟩ := hr
  obtain ⟨gd, hg⟩ : ∃ g, goodP xs = g := ⟨_, rfl⟩
  have HG := hid hg
  clear hT ht hg
  cases t
  · have HE : Hid (T = ByteArray.empty) := by show _ = _; rw [← HT.out]; exact mendT_no Ht.out
    have HK : Hid (gd = true → k < 0 ∨ (xs.length : Int) ≤ k) := fun h => by
      have := Ht.out
      unfold mendB at this
      rw [HG.out, h, Bool.true_and, decide_eq_false_iff_not] at this
      omega
    clear HT Ht
    cases gd
    · clear HK
      go_enter Try.func65, Try.ntmps65
      go_wp2_with fail
      refine (spieces_eq _ xs false HG.out _ HR.out).mono ?_
      rintro e w' ⟨rfl, hw⟩; obtain rfl := hw.symm
      go_wp2
      go_ret2
      exact ⟨by rw [HE.out]; rfl, Below.refl _ _⟩
    · have hk := HK.out rfl
      clear HK
      by_cases h0 : k < 0
      · go_enter Try.func65, Try.ntmps65
        go_wp2_with fail
        refine (spieces_eq _ xs true HG.out _ HR.out).mono ?_
        rintro e w' ⟨rfl, hw⟩; obtain rfl := hw.symm
        go_wp2
        go_ret2
        exact ⟨by rw [HE.out]; rfl, Below.refl _ _⟩
      · have h1 : (xs.length : Int) ≤ k := by omega
        go_enter Try.func65, Try.ntmps65
        go_wp2_with fail
        refine (spieces_eq _ xs true HG.out _ HR.out).mono ?_
        rintro e w' ⟨rfl, hw⟩; obtain rfl := hw.symm
        go_wp2
        go_ret2
        exact ⟨by rw [HE.out]; rfl, Below.refl _ _⟩
  obtain ⟨hgg, m, rfl, hm⟩ := mendB_parts Ht.out
  obtain rfl : true = gd := by rw [← HG.out, hgg]
  obtain ⟨n, h1, h2, h3, h4, hs⟩ := goodP_parts hgg
  have HE : Hid (T = ⟨(xorL (allBut xs m) n).toArray⟩) := by show _ = _; rw [← HT.out]; exact mendT_yes Ht.out h1
  have HN : Hid (∀ s ∈ allBut xs m, s.size = n) := fun s h => hs s (allBut_mem h)
  obtain ⟨g, off, cap', e, hc⟩ := HR.out.cells m hm
  cases e
  have c1 : w.cell? ⟨g, off, none⟩ = some (.string (xs.getD 0 xz)) := hc 0 (by omega)
  obtain ⟨z, hz⟩ : ∃ z, xs.getD 0 xz = z := ⟨_, rfl⟩
  have hzs : z.size = n := by rw [← hz]; exact h1
  rw [hz] at c1
  have hzi : (z.size : Int) = (n : Int) := by rw [hzs]
  obtain ⟨m1, hm1⟩ : ∃ m1, m + 1 = m1 := ⟨_, rfl⟩
  have hml : m1 ≤ xs.length := by omega
  have e1 : (m : Int) + 1 = (m1 : Nat) := by rw [← hm1]; simp
  have e2 : IntKind.i64.wrap (m1 : Int) = (m1 : Nat) := by rw [IntKind.wrap_i64]; omega
  have hgw : Hid (g < w.heap.size) := lt_of_cell c1
  have hmi : (m : Int) < (xs.length : Int) := by omega
  have hl0 : (0 : Int) < (xs.length : Int) := by omega
  have hl1 : 0 < xs.length := by omega
  have hmc : m ≤ cap := by omega
  have d0' : decide ((m : Int) < 0) = false := by rw [decide_eq_false_iff_not]; omega
  have d1' : decide (xs.length ≤ m) = false := by rw [decide_eq_false_iff_not]; omega
  have hm1c : m1 ≤ cap := by omega
  have HM1 := hid hm1
  clear hgg h1 hs hc hz hzs HT Ht hm1
  have OWN : Hid ((w.alloc (.cells #[] 9)).ownsRow w.heap.size 9 1 (.slice (some ⟨w.heap.size, 0, none⟩) 0 0) 0 (xflat [])) := World.ownsRow_made w #[] 0 (Nat.le_refl _) (by unfold maxLen; omega) (by simp)
  have BA : Hid (Below w.heap.size w (w.alloc (.cells #[] 9))) := (Below.refl _ _).alloc (Nat.le_refl _) _
  have HTL : Hid ((xs.take m).length = m) := by show _ = _; rw [List.length_take]; omega
  go_enter Try.func65, Try.ntmps65
  go_wp2_with fail
  refine (spieces_eq _ xs true HG.out _ HR.out).mono ?_
  rintro e w' ⟨rfl, hw⟩; obtain rfl := hw.symm
  go_wp2_with (at_builtin; refine wpList_append_xreads _ rfl _ _ rfl w.heap.size _ _ [] rfl OWN.out _ (xs.take m) rfl (xreads_take (HR.out.below BA.out) (by omega)) (by rw [HTL.out]; omega) BA.out.size ?_)
  intro v' w1 hown hgrow _
  rw [show min m xs.length = m from Nat.min_eq_left (by omega)] at hown
  obtain ⟨ra, rk, rq, rfl⟩ : ∃ a k q, v' = .slice a k q := by
    rcases hown.2 with ⟨h, _⟩ | ⟨_, _, _, h, _⟩
    · exact ⟨_, _, _, h⟩
    · exact ⟨_, _, _, h⟩
  have B1 : Hid (Below w.heap.size w w1) := BA.out.grown hgrow BA.out.size (fun j hj => by have := (OWN.out.lt j hj).1; omega)
  have O1 := hid hown
  replace c1 := (B1.out.cell (p := ⟨g, off, none⟩) (lt_of_cell c1)).trans c1
  clear hown hgrow OWN BA
  go_wp2_with fail
  refine wp_region_any (by kernel_rfl) ?_
  change wpAny _ _ _ _ _ _ _ (World.drew _)
  obtain ⟨W2, hW2⟩ : ∃ X, X = World.drew w1 := ⟨_, rfl⟩
  have BW : Hid (Below w.heap.size w W2) := by rw [hW2]; exact B1.out.drew
  replace c1 : W2.cell? ⟨g, off, none⟩ = some (.string z) := by rw [hW2]; exact c1
  have O2 : Hid (W2.ownsRow w.heap.size 9 1 (.slice ra rk rq) m (xflat (xs.take m))) := by rw [hW2]; exact xowns_below O1.out (Below.refl _ _).drew
  rw [← hW2]
  clear hW2 O1 B1
  obtain ⟨G, hG1, HG2⟩ : ∃ G, w.heap.size ≤ G ∧ Hid (∀ wa wb : World, wa.grownBy wb (Value.slice ra rk rq).ownBlock → wa.grownBy wb (some G)) := by
    cases hob : (Value.slice ra rk rq).ownBlock with
    | none => exact ⟨w.heap.size, Nat.le_refl _, fun wa wb h => ⟨h.os, h.tape, h.output, h.size, fun k hk _ => h.block k hk (by simp)⟩⟩
    | some G => exact ⟨G, (O2.out.lt G hob).1, fun _ _ h => h⟩
  have hGg : g ≠ G := by have := hgw.out; omega
  obtain ⟨da, dc, HD⟩ : ∃ (da : Option Addr) (dc : Nat), Hid ((cap = m1 → da = some ⟨g, off, none⟩ ∧ dc = 0) ∧ (¬ cap = m1 → da = some ⟨g, off + m1, none⟩ ∧ dc = cap - m1)) := by
    by_cases h : cap = m1
    · exact ⟨some ⟨g, off, none⟩, 0, ⟨fun _ => ⟨rfl, rfl⟩, fun h' => absurd h h'⟩⟩
    · exact ⟨some ⟨g, off + m1, none⟩, cap - m1, ⟨fun h' => absurd h' h, fun _ => ⟨rfl, rfl⟩⟩⟩
  have RDD : Hid (XReads w (.slice da (xs.length - m1) dc) (xs.drop m1)) := by
    by_cases h : cap = m1
    · exact xreads_none _ _ _ _ _ (by omega)
    · obtain ⟨d1, d2⟩ := HD.out.2 h
      rw [d1, d2]
      exact xreads_drop HR.out hml
  refine wpAny_facts2' 2 (Array.replicate 13 false) #[true, true, true, true, true, true, true, true, true, true, true, false, false] [0, 1, 2, 3, 4, 5, 6, 7, 8, 9, 10] 5 G (fun σ => #[.slice (some ⟨g, off, none⟩) xs.length cap, .int .i64 (m : Nat), undef, undef, .string ⟨#[]⟩, .bool false, .slice ra rk rq, .slice (some ⟨g, off, none⟩) xs.length cap, .bool true, .bool false, .bool false, .int .i64 (m : Nat), .bool false, .bool false, .bool false, .int .i64 (m : Nat), .slice (some ⟨g, off, none⟩) xs.length cap, .int .i64 (xs.length : Nat), .bool false, .bool false, .slice (some ⟨w.heap.size, 0, none⟩) 0 0, .slice (some ⟨g, off, none⟩) xs.length cap, .int .i64 (m : Nat), .slice (some ⟨g, off, none⟩) m cap, .slice ra rk rq, σ 0, σ 1, σ 2, σ 3, σ 4, σ 5, σ 6, σ 7, σ 8, σ 9, σ 10]) (smF (.slice ra rk rq) (.slice (some ⟨g, off, none⟩) xs.length cap) (.slice da (xs.length - m1) dc) (.pointer (some ⟨g, off, none⟩)) z T n m m1 (allBut xs m)) (fun _ => undef) rfl (by kernel_rfl) (by kernel_rfl) (by kernel_rfl) (by kernel_rfl) (by decide) rfl smF_keep smF_keep2 (fun j hj i hi σ c w v r hne hd h => smF_loc hj hne trivial h) ?_ ?_ ?_
  · intro σ c wr' hb hf hin hdj
    have e0 : smF _ _ _ _ _ _ _ _ _ _ 0 σ c wr' := hf 0 (by decide)
    have e1 : smF _ _ _ _ _ _ _ _ _ _ 1 σ c wr' := hf 1 (by decide)
    have e2 : smF _ _ _ _ _ _ _ _ _ _ 2 σ c wr' := hf 2 (by decide)
    have e3 : smF _ _ _ _ _ _ _ _ _ _ 3 σ c wr' := hf 3 (by decide)
    have e4 : smF _ _ _ _ _ _ _ _ _ _ 4 σ c wr' := hf 4 (by decide)
    obtain ⟨r5, a5, m5, q5, e5⟩ : smF _ _ _ _ _ _ _ _ _ _ 5 σ c wr' := hf 5 (by decide)
    have e6 : smF _ _ _ _ _ _ _ _ _ _ 6 σ c wr' := hf 6 (by decide)
    have e7 : smF _ _ _ _ _ _ _ _ _ _ 7 σ c wr' := hf 7 (by decide)
    have e8 : smF _ _ _ _ _ _ _ _ _ _ 8 σ c wr' := hf 8 (by decide)
    have e9 : smF _ _ _ _ _ _ _ _ _ _ 9 σ c wr' := hf 9 (by decide)
    have e10 : smF _ _ _ _ _ _ _ _ _ _ 10 σ c wr' := hf 10 (by decide)
    simp only [smF] at e0 e1 e2 e3 e4 e6 e7 e8 e9 e10
    clear hf hin hdj r5
    try dsimp only
    rw [e0, e1, e2, e3, e4, e5, e6, e7, e8, e9, e10]
    have HBB : Hid (Below w.heap.size w wr') := (BW.out.grown hb BW.out.size (fun k e => by cases e; exact hG1))
    clear hb e0 e1 e2 e3 e4 e5 e6 e7 e8 e9 e10
    refine wpAny_ready (rs := [11]) (by kernel_rfl) (by simp) ?_
    refine AllReady.cons rfl (fun K hK => ?_) AllReady.nil
    go_simp
    refine hK _ _ ?_
    clear hK K
    refine wpAny_ready (rs := [12]) (by kernel_rfl) (by simp) ?_
    refine AllReady.cons rfl (fun K hK => ?_) AllReady.nil
    go_simp
    refine hK _ _ ?_
    clear hK K
    refine wpAny_done (by kernel_rfl) ?_ _
    go_wp2
    go_ret2
    exact ⟨rfl, HBB.out⟩
  · intro σ c wr' hb hd
    have f0 : smF _ _ _ _ _ _ _ _ _ _ 0 σ c wr' := hd 0 (by decide) (by decide)
    have f4 : smF _ _ _ _ _ _ _ _ _ _ 4 σ c wr' := hd 4 (by decide) (by decide)
    simp only [smF] at f0 f4
    clear hd
    refine StepG.of (a1 := ⟨#[.slice (some ⟨g, off, none⟩) xs.length cap, .int .i64 (m : Nat), undef, undef, .string ⟨#[]⟩, .bool false, .slice ra rk rq, .slice (some ⟨g, off, none⟩) xs.length cap, .bool true, .bool false, .bool false, .int .i64 (m : Nat), .bool false, .bool false, .bool false, .int .i64 (m : Nat), .slice (some ⟨g, off, none⟩) xs.length cap, .int .i64 (xs.length : Nat), .bool false, .bool false, .slice (some ⟨w.heap.size, 0, none⟩) 0 0, .slice (some ⟨g, off, none⟩) xs.length cap, .int .i64 (m : Nat), .slice (some ⟨g, off, none⟩) m cap, .slice ra rk rq, (.slice ra rk rq), σ 1, σ 2, σ 3, (.slice da (xs.length - m1) dc), σ 5, σ 6, σ 7, σ 8, σ 9, σ 10], []⟩) (by simp only [f0, f4]) rfl (fun _ => rfl) (fun K hK => ?_)
    refine step_append_x (by rfl) _ _ (by rfl) w.heap.size _ m (xs.take m) (by rfl) (xowns_below O2.out hb) _ (xs.drop m1) (by rfl) (RDD.out.below (BW.out.trans (hb.mono BW.out.size))) (by rw [List.length_drop]; omega) (BW.out.trans (hb.mono BW.out.size)).size ?_
    intro v2 w2 hown hgrow _
    have e2 : xs.take m ++ xs.drop m1 = allBut xs m := by rw [← HM1.out]; rfl
    rw [e2] at hown
    have r2 := (XOwn.of_owns hown (by rw [allBut_len hm]; omega)).reads
    have s2 : ∃ a k q, v2 = .slice a k q := by obtain ⟨a, c, e, _⟩ := r2; exact ⟨_, _, _, e⟩
    exact hK _ w2 (HG2.out _ _ hgrow) ⟨by simpa [upd] using r2, by simpa [upd] using s2⟩
  · intro i hi hne σ c wr' hb hd
    simp only [List.mem_cons, List.not_mem_nil, or_false] at hi; rcases hi with rfl | rfl | rfl | rfl | rfl | rfl | rfl | rfl | rfl | rfl | rfl
    · skip
      clear hd
      refine StepF.of (a1 := ⟨#[.slice (some ⟨g, off, none⟩) xs.length cap, .int .i64 (m : Nat), undef, undef, .string ⟨#[]⟩, .bool false, .slice ra rk rq, .slice (some ⟨g, off, none⟩) xs.length cap, .bool true, .bool false, .bool false, .int .i64 (m : Nat), .bool false, .bool false, .bool false, .int .i64 (m : Nat), .slice (some ⟨g, off, none⟩) xs.length cap, .int .i64 (xs.length : Nat), .bool false, .bool false, .slice (some ⟨w.heap.size, 0, none⟩) 0 0, .slice (some ⟨g, off, none⟩) xs.length cap, .int .i64 (m : Nat), .slice (some ⟨g, off, none⟩) m cap, .slice ra rk rq, σ 0, σ 1, σ 2, σ 3, σ 4, σ 5, σ 6, σ 7, σ 8, σ 9, σ 10], []⟩) rfl rfl (fun _ => rfl) (fun K hK => ?_)
      go_simp
      exact hK _ _ (Below.refl _ _) rfl
    · skip
      clear hd
      refine StepF.of (a1 := ⟨#[.slice (some ⟨g, off, none⟩) xs.length cap, .int .i64 (m : Nat), undef, undef, .string ⟨#[]⟩, .bool false, .slice ra rk rq, .slice (some ⟨g, off, none⟩) xs.length cap, .bool true, .bool false, .bool false, .int .i64 (m : Nat), .bool false, .bool false, .bool false, .int .i64 (m : Nat), .slice (some ⟨g, off, none⟩) xs.length cap, .int .i64 (xs.length : Nat), .bool false, .bool false, .slice (some ⟨w.heap.size, 0, none⟩) 0 0, .slice (some ⟨g, off, none⟩) xs.length cap, .int .i64 (m : Nat), .slice (some ⟨g, off, none⟩) m cap, .slice ra rk rq, σ 0, σ 1, σ 2, σ 3, σ 4, σ 5, σ 6, σ 7, σ 8, σ 9, σ 10], []⟩) rfl rfl (fun _ => rfl) (fun K hK => ?_)
      go_simp
      exact hK _ _ (Below.refl _ _) rfl
    · skip
      clear hd
      refine StepF.of (a1 := ⟨#[.slice (some ⟨g, off, none⟩) xs.length cap, .int .i64 (m : Nat), undef, undef, .string ⟨#[]⟩, .bool false, .slice ra rk rq, .slice (some ⟨g, off, none⟩) xs.length cap, .bool true, .bool false, .bool false, .int .i64 (m : Nat), .bool false, .bool false, .bool false, .int .i64 (m : Nat), .slice (some ⟨g, off, none⟩) xs.length cap, .int .i64 (xs.length : Nat), .bool false, .bool false, .slice (some ⟨w.heap.size, 0, none⟩) 0 0, .slice (some ⟨g, off, none⟩) xs.length cap, .int .i64 (m : Nat), .slice (some ⟨g, off, none⟩) m cap, .slice ra rk rq, σ 0, σ 1, σ 2, σ 3, σ 4, σ 5, σ 6, σ 7, σ 8, σ 9, σ 10], []⟩) rfl rfl (fun _ => rfl) (fun K hK => ?_)
      go_simp
      exact hK _ _ (Below.refl _ _) rfl
    · skip
      have f2 : smF _ _ _ _ _ _ _ _ _ _ 2 σ c wr' := hd 2 (by decide) (by decide)
      simp only [smF] at f2
      clear hd
      refine StepF.of (a1 := ⟨#[.slice (some ⟨g, off, none⟩) xs.length cap, .int .i64 (m : Nat), undef, undef, .string ⟨#[]⟩, .bool false, .slice ra rk rq, .slice (some ⟨g, off, none⟩) xs.length cap, .bool true, .bool false, .bool false, .int .i64 (m : Nat), .bool false, .bool false, .bool false, .int .i64 (m : Nat), .slice (some ⟨g, off, none⟩) xs.length cap, .int .i64 (xs.length : Nat), .bool false, .bool false, .slice (some ⟨w.heap.size, 0, none⟩) 0 0, .slice (some ⟨g, off, none⟩) xs.length cap, .int .i64 (m : Nat), .slice (some ⟨g, off, none⟩) m cap, .slice ra rk rq, σ 0, σ 1, (.int .i64 (m : Nat)), σ 3, σ 4, σ 5, σ 6, σ 7, σ 8, σ 9, σ 10], []⟩) (by simp only [f2]) rfl (fun _ => rfl) (fun K hK => ?_)
      go_simp
      exact hK _ _ (Below.refl _ _) rfl
    · skip
      have f1 : smF _ _ _ _ _ _ _ _ _ _ 1 σ c wr' := hd 1 (by decide) (by decide)
      simp only [smF] at f1
      have f3 : smF _ _ _ _ _ _ _ _ _ _ 3 σ c wr' := hd 3 (by decide) (by decide)
      simp only [smF] at f3
      clear hd
      refine StepF.of (a1 := ⟨#[.slice (some ⟨g, off, none⟩) xs.length cap, .int .i64 (m : Nat), undef, undef, .string ⟨#[]⟩, .bool false, .slice ra rk rq, .slice (some ⟨g, off, none⟩) xs.length cap, .bool true, .bool false, .bool false, .int .i64 (m : Nat), .bool false, .bool false, .bool false, .int .i64 (m : Nat), .slice (some ⟨g, off, none⟩) xs.length cap, .int .i64 (xs.length : Nat), .bool false, .bool false, .slice (some ⟨w.heap.size, 0, none⟩) 0 0, .slice (some ⟨g, off, none⟩) xs.length cap, .int .i64 (m : Nat), .slice (some ⟨g, off, none⟩) m cap, .slice ra rk rq, σ 0, (.slice (some ⟨g, off, none⟩) xs.length cap), σ 2, (.int .i64 (m1 : Nat)), σ 4, σ 5, σ 6, σ 7, σ 8, σ 9, σ 10], []⟩) (by simp only [f1, f3]) rfl (fun _ => rfl) (fun K hK => ?_)
      by_cases hcm : cap = m1
      · obtain ⟨d1, d2⟩ := HD.out.1 hcm
        have hcm2 : xs.length - m1 = 0 := by omega
        subst hcm
        go_simp
        exact hK _ _ (Below.refl _ _) (by simp [smF, upd, d1, d2, hcm2])
      · obtain ⟨d1, d2⟩ := HD.out.2 hcm
        go_simp
        exact hK _ _ (Below.refl _ _) (by simp [smF, upd, d1, d2])
    · exact absurd rfl hne
    · skip
      clear hd
      refine StepF.of (a1 := ⟨#[.slice (some ⟨g, off, none⟩) xs.length cap, .int .i64 (m : Nat), undef, undef, .string ⟨#[]⟩, .bool false, .slice ra rk rq, .slice (some ⟨g, off, none⟩) xs.length cap, .bool true, .bool false, .bool false, .int .i64 (m : Nat), .bool false, .bool false, .bool false, .int .i64 (m : Nat), .slice (some ⟨g, off, none⟩) xs.length cap, .int .i64 (xs.length : Nat), .bool false, .bool false, .slice (some ⟨w.heap.size, 0, none⟩) 0 0, .slice (some ⟨g, off, none⟩) xs.length cap, .int .i64 (m : Nat), .slice (some ⟨g, off, none⟩) m cap, .slice ra rk rq, σ 0, σ 1, σ 2, σ 3, σ 4, σ 5, σ 6, σ 7, σ 8, σ 9, σ 10], []⟩) rfl rfl (fun _ => rfl) (fun K hK => ?_)
      go_simp
      exact hK _ _ (Below.refl _ _) rfl
    · skip
      have f6 : smF _ _ _ _ _ _ _ _ _ _ 6 σ c wr' := hd 6 (by decide) (by decide)
      simp only [smF] at f6
      clear hd
      refine StepF.of (a1 := ⟨#[.slice (some ⟨g, off, none⟩) xs.length cap, .int .i64 (m : Nat), undef, undef, .string ⟨#[]⟩, .bool false, .slice ra rk rq, .slice (some ⟨g, off, none⟩) xs.length cap, .bool true, .bool false, .bool false, .int .i64 (m : Nat), .bool false, .bool false, .bool false, .int .i64 (m : Nat), .slice (some ⟨g, off, none⟩) xs.length cap, .int .i64 (xs.length : Nat), .bool false, .bool false, .slice (some ⟨w.heap.size, 0, none⟩) 0 0, .slice (some ⟨g, off, none⟩) xs.length cap, .int .i64 (m : Nat), .slice (some ⟨g, off, none⟩) m cap, .slice ra rk rq, σ 0, σ 1, σ 2, σ 3, σ 4, σ 5, (.slice (some ⟨g, off, none⟩) xs.length cap), σ 7, σ 8, σ 9, σ 10], []⟩) (by simp only [f6]) rfl (fun _ => rfl) (fun K hK => ?_)
      go_simp
      exact hK _ _ (Below.refl _ _) rfl
    · skip
      have f7 : smF _ _ _ _ _ _ _ _ _ _ 7 σ c wr' := hd 7 (by decide) (by decide)
      simp only [smF] at f7
      clear hd
      refine StepF.of (a1 := ⟨#[.slice (some ⟨g, off, none⟩) xs.length cap, .int .i64 (m : Nat), undef, undef, .string ⟨#[]⟩, .bool false, .slice ra rk rq, .slice (some ⟨g, off, none⟩) xs.length cap, .bool true, .bool false, .bool false, .int .i64 (m : Nat), .bool false, .bool false, .bool false, .int .i64 (m : Nat), .slice (some ⟨g, off, none⟩) xs.length cap, .int .i64 (xs.length : Nat), .bool false, .bool false, .slice (some ⟨w.heap.size, 0, none⟩) 0 0, .slice (some ⟨g, off, none⟩) xs.length cap, .int .i64 (m : Nat), .slice (some ⟨g, off, none⟩) m cap, .slice ra rk rq, σ 0, σ 1, σ 2, σ 3, σ 4, σ 5, σ 6, (.pointer (some ⟨g, off, none⟩)), σ 8, σ 9, σ 10], []⟩) (by simp only [f7]) rfl (fun _ => rfl) (fun K hK => ?_)
      have c2 := (hb.cell (a := ⟨g, off, none⟩) c1 (by simpa using hGg))
      go_simp
      exact hK _ _ (Below.refl _ _) rfl
    · skip
      have f8 : smF _ _ _ _ _ _ _ _ _ _ 8 σ c wr' := hd 8 (by decide) (by decide)
      simp only [smF] at f8
      clear hd
      refine StepF.of (a1 := ⟨#[.slice (some ⟨g, off, none⟩) xs.length cap, .int .i64 (m : Nat), undef, undef, .string ⟨#[]⟩, .bool false, .slice ra rk rq, .slice (some ⟨g, off, none⟩) xs.length cap, .bool true, .bool false, .bool false, .int .i64 (m : Nat), .bool false, .bool false, .bool false, .int .i64 (m : Nat), .slice (some ⟨g, off, none⟩) xs.length cap, .int .i64 (xs.length : Nat), .bool false, .bool false, .slice (some ⟨w.heap.size, 0, none⟩) 0 0, .slice (some ⟨g, off, none⟩) xs.length cap, .int .i64 (m : Nat), .slice (some ⟨g, off, none⟩) m cap, .slice ra rk rq, σ 0, σ 1, σ 2, σ 3, σ 4, σ 5, σ 6, σ 7, (.string z), σ 9, σ 10], []⟩) (by simp only [f8]) rfl (fun _ => rfl) (fun K hK => ?_)
      go_simp
      exact hK _ _ (Below.refl _ _) rfl
    · skip
      have f5 : smF _ _ _ _ _ _ _ _ _ _ 5 σ c wr' := hd 5 (by decide) (by decide)
      obtain ⟨r5, a5, m5, q5, f5⟩ := f5
      have f9 : smF _ _ _ _ _ _ _ _ _ _ 9 σ c wr' := hd 9 (by decide) (by decide)
      simp only [smF] at f9
      clear hd
      refine StepF.of (a1 := ⟨#[.slice (some ⟨g, off, none⟩) xs.length cap, .int .i64 (m : Nat), undef, undef, .string ⟨#[]⟩, .bool false, .slice ra rk rq, .slice (some ⟨g, off, none⟩) xs.length cap, .bool true, .bool false, .bool false, .int .i64 (m : Nat), .bool false, .bool false, .bool false, .int .i64 (m : Nat), .slice (some ⟨g, off, none⟩) xs.length cap, .int .i64 (xs.length : Nat), .bool false, .bool false, .slice (some ⟨w.heap.size, 0, none⟩) 0 0, .slice (some ⟨g, off, none⟩) xs.length cap, .int .i64 (m : Nat), .slice (some ⟨g, off, none⟩) m cap, .slice ra rk rq, σ 0, σ 1, σ 2, σ 3, σ 4, (.slice a5 m5 q5), σ 6, σ 7, σ 8, (.int .i64 (n : Nat)), σ 10], []⟩) (by simp only [f5, f9]) rfl (fun _ => rfl) (fun K hK => ?_)
      rw [f5] at r5
      go_simp
      refine (sxor_any _ (allBut xs m) n _ r5 h2 HN.out).mono ?_
      rintro e w2 ⟨rfl, b2⟩
      exact hK _ w2 b2 (by rw [HE.out]; rfl)
end Go.Proofs.Ytijojdempijhbad
