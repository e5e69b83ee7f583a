/-
  impl.MendPiece: a piece made of all others, or the zero answer; nothing old is written.
-/
import Derived.Test.YtijojdempijhbadIPieces
import Derived.Test.YtijojdempijhbadIUnlike
import Derived.Test.YtijojdempijhbadMendMath
import Derived.Test.YtijojdempijhbadXPart
import Derived.Test.YtijojdempijhbadIConcatX
import Derived.Test.YtijojdempijhbadRegFacts
namespace Go.Proofs.Ytijojdempijhbad
open Go.RowKit
/-- What the operations make. -/
def mdF (u0 pv ut : Value) (z X : ByteArray) (n m m1 : Nat) (xs ys : List XEl) : Nat → (Nat → Value) → (Nat → Nat × Nat) → World → Prop
  | 0, σ, _, _ => σ 0 = u0
  | 1, σ, _, _ => σ 1 = .int .i64 (m : Nat)
  | 2, σ, _, _ => σ 2 = pv
  | 3, σ, _, _ => σ 3 = .string z
  | 4, σ, _, _ => σ 4 = .int .i64 (n : Nat)
  | 5, σ, _, _ => σ 5 = u0
  | 6, σ, _, _ => σ 6 = .int .i64 (m : Nat)
  | 7, σ, _, _ => σ 7 = ut
  | 8, σ, _, _ => σ 8 = u0
  | 9, σ, _, _ => σ 9 = .int .i64 (m : Nat)
  | 10, σ, _, _ => σ 10 = .int .i64 (m1 : Nat)
  | 11, σ, _, w => ∃ a c, σ 11 = .slice a (xs.length - m1) c ∧ XReads w (.slice a (xs.length - m1) c) (xs.drop m1)
  | 12, σ, _, w => ∃ b a c, σ 12 = .slice (some ⟨b, 0, none⟩) 2 2 ∧ w.cell? ⟨b, 0, none⟩ = some ut ∧ w.cell? ⟨b, 1, none⟩ = some (.slice a (xs.length - m1) c) ∧ XReads w (.slice a (xs.length - m1) c) (xs.drop m1)
  | 13, σ, _, w => XReads w (σ 13) ys ∧ ∃ a k q, σ 13 = .slice a k q
  | 14, σ, _, _ => σ 14 = .string X
  | _, _, _, _ => True
theorem mdF_keep {u0 pv ut : Value} {z X : ByteArray} {n m m1 : Nat} {xs ys : List XEl} : ∀ j ∈ [0, 1, 2, 3, 4, 5, 6, 7, 8, 9, 10, 11, 12, 13, 14], ∀ σ c w w', mdF u0 pv ut z X n m m1 xs ys j σ c w → Below w.heap.size w w' → mdF u0 pv ut z X n m m1 xs ys j σ c w' := by
  intro j hj σ c w w' h hb
  simp only [List.mem_cons, List.not_mem_nil, or_false] at hj; rcases hj with rfl | rfl | rfl | rfl | rfl | rfl | rfl | rfl | rfl | rfl | rfl | rfl | rfl | rfl | rfl
  · exact h
  · exact h
  · exact h
  · exact h
  · exact h
  · exact h
  · exact h
  · exact h
  · exact h
  · exact h
  · exact h
  · exact by obtain ⟨a, c, e, hs⟩ := h; exact ⟨a, c, e, hs.below hb⟩
  · exact by obtain ⟨b, a, q, e, h1, h2, h3⟩ := h; exact ⟨b, a, q, e, (hb.cell (p := ⟨b, 0, none⟩) (lt_of_cell h1)).trans h1, (hb.cell (p := ⟨b, 1, none⟩) (lt_of_cell h2)).trans h2, h3.below hb⟩
  · exact ⟨h.1.below hb, h.2⟩
  · exact h
theorem mdF_loc {u0 pv ut : Value} {z X : ByteArray} {n m m1 : Nat} {xs ys : List XEl} {j i : Nat} {σ : Nat → Value} {c : Nat → Nat × Nat} {w : World} {v : Value} {r : Nat × Nat} (hj : j ∈ [0, 1, 2, 3, 4, 5, 6, 7, 8, 9, 10, 11, 12, 13, 14]) (hne : i ≠ j) (_hd : True) (h : mdF u0 pv ut z X n m m1 xs ys j σ c w) : mdF u0 pv ut z X n m m1 xs ys j (upd σ i v) (upd c i r) w := by
  simp only [List.mem_cons, List.not_mem_nil, or_false] at hj; rcases hj with rfl | rfl | rfl | rfl | rfl | rfl | rfl | rfl | rfl | rfl | rfl | rfl | rfl | rfl | rfl
  · simp only [mdF, upd_other _ _ (Ne.symm hne)] at h ⊢
    exact h
  · simp only [mdF, upd_other _ _ (Ne.symm hne)] at h ⊢
    exact h
  · simp only [mdF, upd_other _ _ (Ne.symm hne)] at h ⊢
    exact h
  · simp only [mdF, upd_other _ _ (Ne.symm hne)] at h ⊢
    exact h
  · simp only [mdF, upd_other _ _ (Ne.symm hne)] at h ⊢
    exact h
  · simp only [mdF, upd_other _ _ (Ne.symm hne)] at h ⊢
    exact h
  · simp only [mdF, upd_other _ _ (Ne.symm hne)] at h ⊢
    exact h
  · simp only [mdF, upd_other _ _ (Ne.symm hne)] at h ⊢
    exact h
  · simp only [mdF, upd_other _ _ (Ne.symm hne)] at h ⊢
    exact h
  · simp only [mdF, upd_other _ _ (Ne.symm hne)] at h ⊢
    exact h
  · simp only [mdF, upd_other _ _ (Ne.symm hne)] at h ⊢
    exact h
  · simp only [mdF, upd_other _ _ (Ne.symm hne)] at h ⊢
    exact h
  · simp only [mdF, upd_other _ _ (Ne.symm hne)] at h ⊢
    exact h
  · simp only [mdF, upd_other _ _ (Ne.symm hne)] at h ⊢
    exact h
  · simp only [mdF, upd_other _ _ (Ne.symm hne)] at h ⊢
    exact h
set_option maxRecDepth 100000 in
set_option maxHeartbeats 8000000 in
theorem imend_any (v : Value) (xs : List XEl) (k : Int) (T : ByteArray) (t : Bool) (hT : mendT xs k = T) (ht : mendB xs k = t) (w : World) (hr : XReads w v xs) :
    Calls Try.prog 63 #[v, .int .i64 k] w fun e w' => e = .returned (.tuple #[.string T, .bool t]) ∧ Below w.heap.size w w' := by
  have HR := hid hr
  have HT := hid hT
  have Ht := hid ht
  obtain ⟨a, cap, rfl, hll, _⟩ := hr
  obtain ⟨gd, hg⟩ : ∃ g, goodP xs = g := ⟨_, rfl⟩
  have HG := hid hg
  clear hT ht hg
  cases t
  · have HE : Hid (T = ByteArray.empty) := by show _ = _; rw [← HT.out]; exact mendT_no Ht.out
    have HK : Hid (gd = true → k < 0 ∨ (xs.length : Int) ≤ k) := fun h => by
      have := Ht.out
      unfold mendB at this
      rw [HG.out, h, Bool.true_and, decide_eq_false_iff_not] at this
      omega
    clear HT Ht
    cases gd
    · clear HK
      go_enter Try.func63, Try.ntmps63
      go_wp2_with fail
      refine (ipieces_eq _ xs false HG.out _ HR.out).mono ?_
      rintro e w' ⟨rfl, hw⟩; obtain rfl := hw.symm
      go_wp2
      go_ret2
      exact ⟨by rw [HE.out]; rfl, Below.refl _ _⟩
    · have hk := HK.out rfl
      clear HK
      by_cases h0 : k < 0
      · go_enter Try.func63, Try.ntmps63
        go_wp2_with fail
        refine (ipieces_eq _ xs true HG.out _ HR.out).mono ?_
        rintro e w' ⟨rfl, hw⟩; obtain rfl := hw.symm
        go_wp2
        go_ret2
        exact ⟨by rw [HE.out]; rfl, Below.refl _ _⟩
      · have h1 : (xs.length : Int) ≤ k := by omega
        go_enter Try.func63, Try.ntmps63
        go_wp2_with fail
        refine (ipieces_eq _ xs true HG.out _ HR.out).mono ?_
        rintro e w' ⟨rfl, hw⟩; obtain rfl := hw.symm
        go_wp2
        go_ret2
        exact ⟨by rw [HE.out]; rfl, Below.refl _ _⟩
  obtain ⟨hgg, m, rfl, hm⟩ := mendB_parts Ht.out
  obtain rfl : true = gd := by rw [← HG.out, hgg]
  obtain ⟨n, h1, h2, h3, h4, hs⟩ := goodP_parts hgg
  have HE : Hid (T = ⟨(xorL (allBut xs m) n).toArray⟩) := by show _ = _; rw [← HT.out]; exact mendT_yes Ht.out h1
  have HN : Hid (∀ s ∈ allBut xs m, s.size = n) := fun s h => hs s (allBut_mem h)
  obtain ⟨g, off, cap', e, hc⟩ := HR.out.cells m hm
  cases e
  have c1 : w.cell? ⟨g, off + m, none⟩ = some (.string (xs.getD m xz)) := hc m hm
  obtain ⟨z, hz⟩ : ∃ z, xs.getD m xz = z := ⟨_, rfl⟩
  have hzs : z.size = n := by rw [← hz]; exact hs _ (by simp [List.getD_eq_getElem?_getD, hm])
  rw [hz] at c1
  have hzi : (z.size : Int) = (n : Int) := by rw [hzs]
  obtain ⟨m1, hm1⟩ : ∃ m1, m + 1 = m1 := ⟨_, rfl⟩
  have hml : m1 ≤ xs.length := by omega
  have e1 : (m : Int) + 1 = (m1 : Nat) := by rw [← hm1]; simp
  have e2 : IntKind.i64.wrap (m1 : Int) = (m1 : Nat) := by rw [IntKind.wrap_i64]; omega
  have hmi : (m : Int) < (xs.length : Int) := by omega
  have hmc : m ≤ cap := by omega
  have d0' : decide ((m : Int) < 0) = false := by rw [decide_eq_false_iff_not]; omega
  have d1' : decide (xs.length ≤ m) = false := by rw [decide_eq_false_iff_not]; omega
  have hm1c : m1 ≤ cap := by omega
  have HM1 := hid hm1
  clear hgg h1 hs hc hz hzs HT Ht hm1
  go_enter Try.func63, Try.ntmps63
  go_wp2_with fail
  refine (ipieces_eq _ xs true HG.out _ HR.out).mono ?_
  rintro e w' ⟨rfl, hw⟩; obtain rfl := hw.symm
  go_wp2_with fail
  refine wp_region_any (by kernel_rfl) ?_
  change wpAny _ _ _ _ _ _ _ (World.drew _)
  obtain ⟨W2, hW2⟩ : ∃ X, X = World.drew w := ⟨_, rfl⟩
  have BW : Hid (Below w.heap.size w W2) := by rw [hW2]; exact (Below.refl _ _).drew
  replace c1 : W2.cell? ⟨g, off + m, none⟩ = some (.string z) := by rw [hW2]; exact c1
  rw [← hW2]
  clear hW2
  refine wpAny_facts' 2 (Array.replicate 17 false) #[true, true, true, true, true, true, true, true, true, true, true, true, true, true, true, false, false] [0, 1, 2, 3, 4, 5, 6, 7, 8, 9, 10, 11, 12, 13, 14] (fun σ => #[.slice (some ⟨g, off, none⟩) xs.length cap, .int .i64 (m : Nat), undef, undef, .string ⟨#[]⟩, .bool false, .slice (some ⟨g, off, none⟩) xs.length cap, .bool true, .bool false, .bool false, .int .i64 (m : Nat), .bool false, .bool false, .bool false, .int .i64 (m : Nat), .slice (some ⟨g, off, none⟩) xs.length cap, .int .i64 (xs.length : Nat), .bool false, .bool false, σ 0, σ 1, σ 2, σ 3, σ 4, σ 5, σ 6, σ 7, σ 8, σ 9, σ 10, σ 11, σ 12, σ 13, σ 14]) (mdF (.slice (some ⟨g, off, none⟩) xs.length cap) (.pointer (some ⟨g, off + m, none⟩)) (.slice (some ⟨g, off, none⟩) m cap) z T n m m1 xs (allBut xs m)) (fun _ => undef) rfl (by kernel_rfl) (by kernel_rfl) (by kernel_rfl) (by kernel_rfl) (by decide) mdF_keep (fun j hj i hi σ c w v r hne hd h => mdF_loc hj hne trivial h) ?_ ?_
  · intro σ c wr' hb hf hin hdj
    have e0 : mdF _ _ _ _ _ _ _ _ _ _ 0 σ c wr' := hf 0 (by decide)
    have e1 : mdF _ _ _ _ _ _ _ _ _ _ 1 σ c wr' := hf 1 (by decide)
    have e2 : mdF _ _ _ _ _ _ _ _ _ _ 2 σ c wr' := hf 2 (by decide)
    have e3 : mdF _ _ _ _ _ _ _ _ _ _ 3 σ c wr' := hf 3 (by decide)
    have e4 : mdF _ _ _ _ _ _ _ _ _ _ 4 σ c wr' := hf 4 (by decide)
    have e5 : mdF _ _ _ _ _ _ _ _ _ _ 5 σ c wr' := hf 5 (by decide)
    have e6 : mdF _ _ _ _ _ _ _ _ _ _ 6 σ c wr' := hf 6 (by decide)
    have e7 : mdF _ _ _ _ _ _ _ _ _ _ 7 σ c wr' := hf 7 (by decide)
    have e8 : mdF _ _ _ _ _ _ _ _ _ _ 8 σ c wr' := hf 8 (by decide)
    have e9 : mdF _ _ _ _ _ _ _ _ _ _ 9 σ c wr' := hf 9 (by decide)
    have e10 : mdF _ _ _ _ _ _ _ _ _ _ 10 σ c wr' := hf 10 (by decide)
    obtain ⟨a11, c11, e11, r11⟩ : mdF _ _ _ _ _ _ _ _ _ _ 11 σ c wr' := hf 11 (by decide)
    obtain ⟨b12, a12, c12, e12, p12, q12, r12⟩ : mdF _ _ _ _ _ _ _ _ _ _ 12 σ c wr' := hf 12 (by decide)
    obtain ⟨r13, a13, m13, q13, e13⟩ : mdF _ _ _ _ _ _ _ _ _ _ 13 σ c wr' := hf 13 (by decide)
    have e14 : mdF _ _ _ _ _ _ _ _ _ _ 14 σ c wr' := hf 14 (by decide)
    simp only [mdF] at e0 e1 e2 e3 e4 e5 e6 e7 e8 e9 e10 e14
    clear hf hin hdj p12 q12 r12 r13 r11
    try dsimp only
    rw [e0, e1, e2, e3, e4, e5, e6, e7, e8, e9, e10, e11, e12, e13, e14]
    have HBB := hid (BW.out.trans (hb.mono BW.out.size))
    clear hb e0 e1 e2 e3 e4 e5 e6 e7 e8 e9 e10 e11 e12 e13 e14
    refine wpAny_ready (rs := [15]) (by kernel_rfl) (by simp) ?_
    refine AllReady.cons rfl (fun K hK => ?_) AllReady.nil
    go_simp
    refine hK _ _ ?_
    clear hK K
    refine wpAny_ready (rs := [16]) (by kernel_rfl) (by simp) ?_
    refine AllReady.cons rfl (fun K hK => ?_) AllReady.nil
    go_simp
    refine hK _ _ ?_
    clear hK K
    refine wpAny_done (by kernel_rfl) ?_ _
    go_wp2
    go_ret2
    exact ⟨rfl, HBB.out⟩
  · intro i hi σ c wr' hb hd
    simp only [List.mem_cons, List.not_mem_nil, or_false] at hi; rcases hi with rfl | rfl | rfl | rfl | rfl | rfl | rfl | rfl | rfl | rfl | rfl | rfl | rfl | rfl | rfl
    · skip
      clear hd
      refine StepF.of (a1 := ⟨#[.slice (some ⟨g, off, none⟩) xs.length cap, .int .i64 (m : Nat), undef, undef, .string ⟨#[]⟩, .bool false, .slice (some ⟨g, off, none⟩) xs.length cap, .bool true, .bool false, .bool false, .int .i64 (m : Nat), .bool false, .bool false, .bool false, .int .i64 (m : Nat), .slice (some ⟨g, off, none⟩) xs.length cap, .int .i64 (xs.length : Nat), .bool false, .bool false, σ 0, σ 1, σ 2, σ 3, σ 4, σ 5, σ 6, σ 7, σ 8, σ 9, σ 10, σ 11, σ 12, σ 13, σ 14], []⟩) rfl rfl (fun _ => rfl) (fun K hK => ?_)
      go_simp
      exact hK _ _ (Below.refl _ _) rfl
    · skip
      clear hd
      refine StepF.of (a1 := ⟨#[.slice (some ⟨g, off, none⟩) xs.length cap, .int .i64 (m : Nat), undef, undef, .string ⟨#[]⟩, .bool false, .slice (some ⟨g, off, none⟩) xs.length cap, .bool true, .bool false, .bool false, .int .i64 (m : Nat), .bool false, .bool false, .bool false, .int .i64 (m : Nat), .slice (some ⟨g, off, none⟩) xs.length cap, .int .i64 (xs.length : Nat), .bool false, .bool false, σ 0, σ 1, σ 2, σ 3, σ 4, σ 5, σ 6, σ 7, σ 8, σ 9, σ 10, σ 11, σ 12, σ 13, σ 14], []⟩) rfl rfl (fun _ => rfl) (fun K hK => ?_)
      go_simp
      exact hK _ _ (Below.refl _ _) rfl
    · skip
      have f0 : mdF _ _ _ _ _ _ _ _ _ _ 0 σ c wr' := hd 0 (by decide) (by decide)
      simp only [mdF] at f0
      have f1 : mdF _ _ _ _ _ _ _ _ _ _ 1 σ c wr' := hd 1 (by decide) (by decide)
      simp only [mdF] at f1
      clear hd
      refine StepF.of (a1 := ⟨#[.slice (some ⟨g, off, none⟩) xs.length cap, .int .i64 (m : Nat), undef, undef, .string ⟨#[]⟩, .bool false, .slice (some ⟨g, off, none⟩) xs.length cap, .bool true, .bool false, .bool false, .int .i64 (m : Nat), .bool false, .bool false, .bool false, .int .i64 (m : Nat), .slice (some ⟨g, off, none⟩) xs.length cap, .int .i64 (xs.length : Nat), .bool false, .bool false, (.slice (some ⟨g, off, none⟩) xs.length cap), (.int .i64 (m : Nat)), σ 2, σ 3, σ 4, σ 5, σ 6, σ 7, σ 8, σ 9, σ 10, σ 11, σ 12, σ 13, σ 14], []⟩) (by simp only [f0, f1]) rfl (fun _ => rfl) (fun K hK => ?_)
      go_simp
      exact hK _ _ (Below.refl _ _) rfl
    · skip
      have f2 : mdF _ _ _ _ _ _ _ _ _ _ 2 σ c wr' := hd 2 (by decide) (by decide)
      simp only [mdF] at f2
      clear hd
      refine StepF.of (a1 := ⟨#[.slice (some ⟨g, off, none⟩) xs.length cap, .int .i64 (m : Nat), undef, undef, .string ⟨#[]⟩, .bool false, .slice (some ⟨g, off, none⟩) xs.length cap, .bool true, .bool false, .bool false, .int .i64 (m : Nat), .bool false, .bool false, .bool false, .int .i64 (m : Nat), .slice (some ⟨g, off, none⟩) xs.length cap, .int .i64 (xs.length : Nat), .bool false, .bool false, σ 0, σ 1, (.pointer (some ⟨g, off + m, none⟩)), σ 3, σ 4, σ 5, σ 6, σ 7, σ 8, σ 9, σ 10, σ 11, σ 12, σ 13, σ 14], []⟩) (by simp only [f2]) rfl (fun _ => rfl) (fun K hK => ?_)
      have c2 := (hb.cell (p := ⟨g, off + m, none⟩) (lt_of_cell c1)).trans c1
      go_simp
      exact hK _ _ (Below.refl _ _) rfl
    · skip
      have f3 : mdF _ _ _ _ _ _ _ _ _ _ 3 σ c wr' := hd 3 (by decide) (by decide)
      simp only [mdF] at f3
      clear hd
      refine StepF.of (a1 := ⟨#[.slice (some ⟨g, off, none⟩) xs.length cap, .int .i64 (m : Nat), undef, undef, .string ⟨#[]⟩, .bool false, .slice (some ⟨g, off, none⟩) xs.length cap, .bool true, .bool false, .bool false, .int .i64 (m : Nat), .bool false, .bool false, .bool false, .int .i64 (m : Nat), .slice (some ⟨g, off, none⟩) xs.length cap, .int .i64 (xs.length : Nat), .bool false, .bool false, σ 0, σ 1, σ 2, (.string z), σ 4, σ 5, σ 6, σ 7, σ 8, σ 9, σ 10, σ 11, σ 12, σ 13, σ 14], []⟩) (by simp only [f3]) rfl (fun _ => rfl) (fun K hK => ?_)
      go_simp
      exact hK _ _ (Below.refl _ _) rfl
    · skip
      clear hd
      refine StepF.of (a1 := ⟨#[.slice (some ⟨g, off, none⟩) xs.length cap, .int .i64 (m : Nat), undef, undef, .string ⟨#[]⟩, .bool false, .slice (some ⟨g, off, none⟩) xs.length cap, .bool true, .bool false, .bool false, .int .i64 (m : Nat), .bool false, .bool false, .bool false, .int .i64 (m : Nat), .slice (some ⟨g, off, none⟩) xs.length cap, .int .i64 (xs.length : Nat), .bool false, .bool false, σ 0, σ 1, σ 2, σ 3, σ 4, σ 5, σ 6, σ 7, σ 8, σ 9, σ 10, σ 11, σ 12, σ 13, σ 14], []⟩) rfl rfl (fun _ => rfl) (fun K hK => ?_)
      go_simp
      exact hK _ _ (Below.refl _ _) rfl
    · skip
      clear hd
      refine StepF.of (a1 := ⟨#[.slice (some ⟨g, off, none⟩) xs.length cap, .int .i64 (m : Nat), undef, undef, .string ⟨#[]⟩, .bool false, .slice (some ⟨g, off, none⟩) xs.length cap, .bool true, .bool false, .bool false, .int .i64 (m : Nat), .bool false, .bool false, .bool false, .int .i64 (m : Nat), .slice (some ⟨g, off, none⟩) xs.length cap, .int .i64 (xs.length : Nat), .bool false, .bool false, σ 0, σ 1, σ 2, σ 3, σ 4, σ 5, σ 6, σ 7, σ 8, σ 9, σ 10, σ 11, σ 12, σ 13, σ 14], []⟩) rfl rfl (fun _ => rfl) (fun K hK => ?_)
      go_simp
      exact hK _ _ (Below.refl _ _) rfl
    · skip
      have f5 : mdF _ _ _ _ _ _ _ _ _ _ 5 σ c wr' := hd 5 (by decide) (by decide)
      simp only [mdF] at f5
      have f6 : mdF _ _ _ _ _ _ _ _ _ _ 6 σ c wr' := hd 6 (by decide) (by decide)
      simp only [mdF] at f6
      clear hd
      refine StepF.of (a1 := ⟨#[.slice (some ⟨g, off, none⟩) xs.length cap, .int .i64 (m : Nat), undef, undef, .string ⟨#[]⟩, .bool false, .slice (some ⟨g, off, none⟩) xs.length cap, .bool true, .bool false, .bool false, .int .i64 (m : Nat), .bool false, .bool false, .bool false, .int .i64 (m : Nat), .slice (some ⟨g, off, none⟩) xs.length cap, .int .i64 (xs.length : Nat), .bool false, .bool false, σ 0, σ 1, σ 2, σ 3, σ 4, (.slice (some ⟨g, off, none⟩) xs.length cap), (.int .i64 (m : Nat)), σ 7, σ 8, σ 9, σ 10, σ 11, σ 12, σ 13, σ 14], []⟩) (by simp only [f5, f6]) rfl (fun _ => rfl) (fun K hK => ?_)
      go_simp
      exact hK _ _ (Below.refl _ _) rfl
    · skip
      clear hd
      refine StepF.of (a1 := ⟨#[.slice (some ⟨g, off, none⟩) xs.length cap, .int .i64 (m : Nat), undef, undef, .string ⟨#[]⟩, .bool false, .slice (some ⟨g, off, none⟩) xs.length cap, .bool true, .bool false, .bool false, .int .i64 (m : Nat), .bool false, .bool false, .bool false, .int .i64 (m : Nat), .slice (some ⟨g, off, none⟩) xs.length cap, .int .i64 (xs.length : Nat), .bool false, .bool false, σ 0, σ 1, σ 2, σ 3, σ 4, σ 5, σ 6, σ 7, σ 8, σ 9, σ 10, σ 11, σ 12, σ 13, σ 14], []⟩) rfl rfl (fun _ => rfl) (fun K hK => ?_)
      go_simp
      exact hK _ _ (Below.refl _ _) rfl
    · skip
      clear hd
      refine StepF.of (a1 := ⟨#[.slice (some ⟨g, off, none⟩) xs.length cap, .int .i64 (m : Nat), undef, undef, .string ⟨#[]⟩, .bool false, .slice (some ⟨g, off, none⟩) xs.length cap, .bool true, .bool false, .bool false, .int .i64 (m : Nat), .bool false, .bool false, .bool false, .int .i64 (m : Nat), .slice (some ⟨g, off, none⟩) xs.length cap, .int .i64 (xs.length : Nat), .bool false, .bool false, σ 0, σ 1, σ 2, σ 3, σ 4, σ 5, σ 6, σ 7, σ 8, σ 9, σ 10, σ 11, σ 12, σ 13, σ 14], []⟩) rfl rfl (fun _ => rfl) (fun K hK => ?_)
      go_simp
      exact hK _ _ (Below.refl _ _) rfl
    · skip
      have f9 : mdF _ _ _ _ _ _ _ _ _ _ 9 σ c wr' := hd 9 (by decide) (by decide)
      simp only [mdF] at f9
      clear hd
      refine StepF.of (a1 := ⟨#[.slice (some ⟨g, off, none⟩) xs.length cap, .int .i64 (m : Nat), undef, undef, .string ⟨#[]⟩, .bool false, .slice (some ⟨g, off, none⟩) xs.length cap, .bool true, .bool false, .bool false, .int .i64 (m : Nat), .bool false, .bool false, .bool false, .int .i64 (m : Nat), .slice (some ⟨g, off, none⟩) xs.length cap, .int .i64 (xs.length : Nat), .bool false, .bool false, σ 0, σ 1, σ 2, σ 3, σ 4, σ 5, σ 6, σ 7, σ 8, (.int .i64 (m : Nat)), σ 10, σ 11, σ 12, σ 13, σ 14], []⟩) (by simp only [f9]) rfl (fun _ => rfl) (fun K hK => ?_)
      go_simp
      exact hK _ _ (Below.refl _ _) rfl
    · skip
      have f8 : mdF _ _ _ _ _ _ _ _ _ _ 8 σ c wr' := hd 8 (by decide) (by decide)
      simp only [mdF] at f8
      have f10 : mdF _ _ _ _ _ _ _ _ _ _ 10 σ c wr' := hd 10 (by decide) (by decide)
      simp only [mdF] at f10
      clear hd
      refine StepF.of (a1 := ⟨#[.slice (some ⟨g, off, none⟩) xs.length cap, .int .i64 (m : Nat), undef, undef, .string ⟨#[]⟩, .bool false, .slice (some ⟨g, off, none⟩) xs.length cap, .bool true, .bool false, .bool false, .int .i64 (m : Nat), .bool false, .bool false, .bool false, .int .i64 (m : Nat), .slice (some ⟨g, off, none⟩) xs.length cap, .int .i64 (xs.length : Nat), .bool false, .bool false, σ 0, σ 1, σ 2, σ 3, σ 4, σ 5, σ 6, σ 7, (.slice (some ⟨g, off, none⟩) xs.length cap), σ 9, (.int .i64 (m1 : Nat)), σ 11, σ 12, σ 13, σ 14], []⟩) (by simp only [f8, f10]) rfl (fun _ => rfl) (fun K hK => ?_)
      by_cases hcm : cap = m1
      · have hxm : xs.length ≤ m1 := by omega
        have hcm2 : xs.length - m1 = 0 := by omega
        subst hcm
        go_simp
        refine hK _ _ (Below.refl _ _) ⟨some ⟨g, off, none⟩, 0, ?_, xreads_none _ _ _ _ _ hxm⟩
        simp [upd, hcm2]
      · go_simp
        exact hK _ _ (Below.refl _ _) ⟨_, _, rfl, xreads_drop (HR.out.below (BW.out.trans (hb.mono BW.out.size))) hml⟩
    · skip
      have f7 : mdF _ _ _ _ _ _ _ _ _ _ 7 σ c wr' := hd 7 (by decide) (by decide)
      simp only [mdF] at f7
      have f11 : mdF _ _ _ _ _ _ _ _ _ _ 11 σ c wr' := hd 11 (by decide) (by decide)
      obtain ⟨a11, c11, f11, r11⟩ := f11
      clear hd
      refine StepF.of (a1 := ⟨#[.slice (some ⟨g, off, none⟩) xs.length cap, .int .i64 (m : Nat), undef, undef, .string ⟨#[]⟩, .bool false, .slice (some ⟨g, off, none⟩) xs.length cap, .bool true, .bool false, .bool false, .int .i64 (m : Nat), .bool false, .bool false, .bool false, .int .i64 (m : Nat), .slice (some ⟨g, off, none⟩) xs.length cap, .int .i64 (xs.length : Nat), .bool false, .bool false, σ 0, σ 1, σ 2, σ 3, σ 4, σ 5, σ 6, (.slice (some ⟨g, off, none⟩) m cap), σ 8, σ 9, σ 10, (.slice a11 (xs.length - m1) c11), σ 12, σ 13, σ 14], []⟩) (by simp only [f7, f11]) rfl (fun _ => rfl) (fun K hK => ?_)
      go_simp
      exact hK _ _ ((Below.refl _ _).alloc (Nat.le_refl _) _) ⟨_, a11, c11, rfl, by simp, by simp, r11.below ((Below.refl _ _).alloc (Nat.le_refl _) _)⟩
    · skip
      have f12 : mdF _ _ _ _ _ _ _ _ _ _ 12 σ c wr' := hd 12 (by decide) (by decide)
      obtain ⟨b12, a12, c12, f12, p12, q12, r12⟩ := f12
      clear hd
      refine StepF.of (a1 := ⟨#[.slice (some ⟨g, off, none⟩) xs.length cap, .int .i64 (m : Nat), undef, undef, .string ⟨#[]⟩, .bool false, .slice (some ⟨g, off, none⟩) xs.length cap, .bool true, .bool false, .bool false, .int .i64 (m : Nat), .bool false, .bool false, .bool false, .int .i64 (m : Nat), .slice (some ⟨g, off, none⟩) xs.length cap, .int .i64 (xs.length : Nat), .bool false, .bool false, σ 0, σ 1, σ 2, σ 3, σ 4, σ 5, σ 6, σ 7, σ 8, σ 9, σ 10, σ 11, (.slice (some ⟨b12, 0, none⟩) 2 2), σ 13, σ 14], []⟩) (by simp only [f12]) rfl (fun _ => rfl) (fun K hK => ?_)
      go_simp
      refine (iconcatX_any b12 2 _ _ (xs.take m) (xs.drop m1) _ (xreads_take (HR.out.below (BW.out.trans (hb.mono BW.out.size))) (by omega)) r12 p12 q12 (by rw [List.length_take, List.length_drop]; omega)).mono ?_
      rintro e w2 ⟨u, rfl, o2, b2⟩
      have r2 := o2.reads
      have e2 : xs.take m ++ xs.drop m1 = allBut xs m := by rw [← HM1.out]; rfl
      rw [e2] at r2
      have s2 : ∃ a k q, u = .slice a k q := by obtain ⟨a, c, e, _⟩ := r2; exact ⟨_, _, _, e⟩
      exact hK _ w2 b2 ⟨by simpa [upd] using r2, by simpa [upd] using s2⟩
    · skip
      have f4 : mdF _ _ _ _ _ _ _ _ _ _ 4 σ c wr' := hd 4 (by decide) (by decide)
      simp only [mdF] at f4
      have f13 : mdF _ _ _ _ _ _ _ _ _ _ 13 σ c wr' := hd 13 (by decide) (by decide)
      obtain ⟨r13, a13, m13, q13, f13⟩ := f13
      clear hd
      refine StepF.of (a1 := ⟨#[.slice (some ⟨g, off, none⟩) xs.length cap, .int .i64 (m : Nat), undef, undef, .string ⟨#[]⟩, .bool false, .slice (some ⟨g, off, none⟩) xs.length cap, .bool true, .bool false, .bool false, .int .i64 (m : Nat), .bool false, .bool false, .bool false, .int .i64 (m : Nat), .slice (some ⟨g, off, none⟩) xs.length cap, .int .i64 (xs.length : Nat), .bool false, .bool false, σ 0, σ 1, σ 2, σ 3, (.int .i64 (n : Nat)), σ 5, σ 6, σ 7, σ 8, σ 9, σ 10, σ 11, σ 12, (.slice a13 m13 q13), σ 14], []⟩) (by simp only [f4, f13]) rfl (fun _ => rfl) (fun K hK => ?_)
      rw [f13] at r13
      go_simp
      refine (iunlike_any _ (allBut xs m) n _ r13 h2 HN.out).mono ?_
      rintro e w2 ⟨rfl, b2⟩
      exact hK _ w2 b2 (by rw [HE.out]; rfl)
end Go.Proofs.Ytijojdempijhbad
