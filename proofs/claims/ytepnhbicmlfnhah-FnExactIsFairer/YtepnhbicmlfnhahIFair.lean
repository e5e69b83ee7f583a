/-
  impl.FairnessOf: how fair shares are, in two numbers. Nothing old is written.
-/
import Derived.Test.YtepnhbicmlfnhahIEachS
import Derived.Test.YtepnhbicmlfnhahISumA
import Derived.Test.YtepnhbicmlfnhahIGoodSh
import Derived.Test.YtepnhbicmlfnhahRegFacts
namespace Go.Proofs.Ytepnhbicmlfnhah
open Go.RowKit

def fpI (D : ShD) : Int := bif goodS D then fairP D else 0
def fqI (D : ShD) : Int := bif goodS D then fairQ D else 0
/-- What the operations make. -/
def faiF (A : Nat) (v0 : Value) (s p sq q : Int) (xs : List Int) : Nat → (Nat → Value) → (Nat → Nat × Nat) → World → Prop
  | 0, σ, _, _ => σ 0 = .pointer (some ⟨A, 0, none⟩)
  | 1, σ, _, _ => σ 1 = v0
  | 2, σ, _, _ => σ 2 = .int .i64 s
  | 3, σ, _, _ => σ 3 = .int .i64 p
  | 4, σ, _, _ => σ 4 = .pointer (some ⟨A, 0, none⟩)
  | 5, σ, _, _ => σ 5 = v0
  | 6, σ, _, _ => σ 6 = .int .i64 (xs.length : Nat)
  | 7, σ, _, _ => σ 7 = .pointer (some ⟨A, 0, none⟩)
  | 8, σ, _, _ => σ 8 = v0
  | 9, σ, _, w => KReads w (σ 9) (xs.map sqOf) ∧ ∃ a n k, σ 9 = .slice a n k
  | 10, σ, _, _ => σ 10 = .int .i64 sq
  | 11, σ, _, _ => σ 11 = .int .i64 q
  | 12, σ, _, _ => σ 12 = .int .i64 p
  | _, _, _, _ => True
theorem faiF_keep {A : Nat} {v0 : Value} {s p sq q : Int} {xs : List Int} : ∀ j ∈ [0, 1, 2, 3, 4, 5, 6, 7, 8, 9, 10, 11, 12], ∀ σ c w w', faiF A v0 s p sq q xs j σ c w → Below w.heap.size w w' → faiF A v0 s p sq q xs j σ c w' := by
  intro j hj σ c w w' h hb
  simp only [List.mem_cons, List.not_mem_nil, or_false] at hj; rcases hj with rfl | rfl | rfl | rfl | rfl | rfl | rfl | rfl | rfl | rfl | rfl | rfl | rfl
  · exact h
  · exact h
  · exact h
  · exact h
  · exact h
  · exact h
  · exact h
  · exact h
  · exact h
  · exact ⟨h.1.below hb, h.2⟩
  · exact h
  · exact h
  · exact h
theorem faiF_loc {A : Nat} {v0 : Value} {s p sq q : Int} {xs : List Int} {j i : Nat} {σ : Nat → Value} {c : Nat → Nat × Nat} {w : World} {v : Value} {r : Nat × Nat} (hj : j ∈ [0, 1, 2, 3, 4, 5, 6, 7, 8, 9, 10, 11, 12]) (hne : i ≠ j) (_hd : True) (h : faiF A v0 s p sq q xs j σ c w) : faiF A v0 s p sq q xs j (upd σ i v) (upd c i r) w := by
  simp only [List.mem_cons, List.not_mem_nil, or_false] at hj; rcases hj with rfl | rfl | rfl | rfl | rfl | rfl | rfl | rfl | rfl | rfl | rfl | rfl | rfl
  · simp only [faiF, upd_other _ _ (Ne.symm hne)] at h ⊢
    exact h
  · simp only [faiF, upd_other _ _ (Ne.symm hne)] at h ⊢
    exact h
  · simp only [faiF, upd_other _ _ (Ne.symm hne)] at h ⊢
    exact h
  · simp only [faiF, upd_other _ _ (Ne.symm hne)] at h ⊢
    exact h
  · simp only [faiF, upd_other _ _ (Ne.symm hne)] at h ⊢
    exact h
  · simp only [faiF, upd_other _ _ (Ne.symm hne)] at h ⊢
    exact h
  · simp only [faiF, upd_other _ _ (Ne.symm hne)] at h ⊢
    exact h
  · simp only [faiF, upd_other _ _ (Ne.symm hne)] at h ⊢
    exact h
  · simp only [faiF, upd_other _ _ (Ne.symm hne)] at h ⊢
    exact h
  · simp only [faiF, upd_other _ _ (Ne.symm hne)] at h ⊢
    exact h
  · simp only [faiF, upd_other _ _ (Ne.symm hne)] at h ⊢
    exact h
  · simp only [faiF, upd_other _ _ (Ne.symm hne)] at h ⊢
    exact h
  · simp only [faiF, upd_other _ _ (Ne.symm hne)] at h ⊢
    exact h
set_option maxRecDepth 100000 in
set_option maxHeartbeats 8000000 in
theorem ifair_any (v : Value) (D : ShD) (w : World) (hr : ShReads w v D) (p q : Int) (t : Bool) (hp : fpI D = p) (hq : fqI D = q) (ht : goodS D = t) :
    Calls Try.prog 13 #[v] w fun e w' => e = .returned (.tuple #[.int .i64 p, .int .i64 q, .bool t]) ∧ Below w.heap.size w w' := by
  have HR := hid hr
  have HT := hid ht
  have HP0 := hid hp
  have HQ0 := hid hq
  obtain ⟨v0, rfl, r0⟩ := hr
  have HR0 := hid r0
  obtain ⟨a0, p0, rfl, _, _⟩ := r0
  obtain ⟨z, hz⟩ : ∃ z, z = D.f1 := ⟨_, rfl⟩
  rw [← hz] at HR ⊢
  have PB := hid (boxL_new w [.slice a0 D.f0.length p0, .int .i64 z] 28)
  obtain ⟨q0, q1⟩ := PB.out.two
  have BW : Hid (Below w.heap.size w (w.alloc (.cells #[.slice a0 D.f0.length p0, .int .i64 z] 28))) := (Below.refl _ _).alloc (Nat.le_refl _) _
  clear ht hp hq hz
  go_enter Try.func13, Try.ntmps13
  go_wp2_with fail
  refine (igoodS_eq _ D t HT.out _ (HR.out.below BW.out)).mono ?_
  rintro e w1 ⟨rfl, b1⟩
  replace BW := hid (BW.out.trans (b1.mono BW.out.size))
  replace PB := hid (PB.out.below b1 PB.out.lt)
  clear q0 q1 b1
  obtain ⟨q0, q1⟩ := PB.out.two
  cases t
  · have HV : Hid (p = 0) := by show _ = _; rw [← HP0.out]; unfold fpI; rw [HT.out]; rfl
    have HV2 : Hid (q = 0) := by show _ = _; rw [← HQ0.out]; unfold fqI; rw [HT.out]; rfl
    go_wp2
    go_ret3
    exact ⟨by rw [HV.out, HV2.out]; rfl, BW.out⟩
  have HG : Hid (GoodS D) := (goodS_iff D).1 HT.out
  have hl5 := HG.out.l5
  obtain ⟨s, hs⟩ : ∃ s, wsum D.f0 D.f0.length = s := ⟨_, rfl⟩
  have HS := hid hs
  obtain ⟨sq, hsq⟩ : ∃ s, wsum (D.f0.map sqOf) (D.f0.map sqOf).length = s := ⟨_, rfl⟩
  have HSQ := hid hsq
  have es : s = sumW D := by rw [← hs]; exact wsum_is _ fun j hj => by have := HG.out.psums j hj; omega
  have esq : sq = sqW D := by
    rw [← hsq, List.length_map]; exact wsum_is _ fun j hj => by have := HG.out.psq j hj; omega
  have FA := HG.out.fair
  have HP : Hid (s * s = p ∧ (0 ≤ p ∧ p ≤ 2500000000)) := by
    have e : fairP D = p := by rw [← HP0.out]; unfold fpI; rw [HT.out]; rfl
    rw [e] at FA
    exact ⟨by rw [es]; exact e, FA.1⟩
  have hw1 : IntKind.i64.wrap ((D.f0.length : Int) * sq) = q := by
    have e : fairQ D = q := by rw [← HQ0.out]; unfold fqI; rw [HT.out]; rfl
    rw [e] at FA
    unfold fairQ at e
    rw [esq, IntKind.wrap_i64]
    omega
  clear hs hsq es esq FA HP0 HQ0 q0 q1
  obtain ⟨q0, q1⟩ := PB.out.two
  go_wp2_with fail
  refine wp_region_any (by kernel_rfl) ?_
  change wpAny _ _ _ _ _ _ _ (World.drew _)
  obtain ⟨W2, hW2⟩ : ∃ X, X = World.drew w1 := ⟨_, rfl⟩
  replace PB : Hid (BoxL W2 w.heap.size [.slice a0 D.f0.length p0, .int .i64 z]) := by rw [hW2]; exact PB.out
  replace BW : Hid (Below w.heap.size w W2) := by rw [hW2]; exact BW.out.drew
  have HR1 := hid (HR0.out.below BW.out)
  rw [← hW2]
  clear hW2 q0 q1
  refine wpAny_facts' 2 (Array.replicate 15 false) #[true, true, true, true, true, true, true, true, true, true, true, true, true, false, false] [0, 1, 2, 3, 4, 5, 6, 7, 8, 9, 10, 11, 12] (fun σ => #[.agg #[.slice a0 D.f0.length p0, .int .i64 z], .pointer (some ⟨w.heap.size, 0, none⟩), σ 12, .int .i64 0, .bool false, .agg #[.slice a0 D.f0.length p0, .int .i64 z], .bool true, .bool false, σ 0, σ 1, σ 2, σ 3, σ 4, σ 5, σ 6, σ 7, σ 8, σ 9, σ 10, σ 11]) (faiF w.heap.size (.slice a0 D.f0.length p0) s p sq q D.f0) (fun i => match i with | 12 => .int .i64 0 | _ => undef) rfl (by kernel_rfl) (by kernel_rfl) (by kernel_rfl) (by kernel_rfl) (by decide) faiF_keep (fun j hj i hi σ c w v r hne hd h => faiF_loc hj hne trivial h) ?_ ?_
  · intro σ c wr' hb hf hin hdj
    have e0 : faiF _ _ _ _ _ _ _ 0 σ c wr' := hf 0 (by decide)
    have e1 : faiF _ _ _ _ _ _ _ 1 σ c wr' := hf 1 (by decide)
    have e2 : faiF _ _ _ _ _ _ _ 2 σ c wr' := hf 2 (by decide)
    have e3 : faiF _ _ _ _ _ _ _ 3 σ c wr' := hf 3 (by decide)
    have e4 : faiF _ _ _ _ _ _ _ 4 σ c wr' := hf 4 (by decide)
    have e5 : faiF _ _ _ _ _ _ _ 5 σ c wr' := hf 5 (by decide)
    have e6 : faiF _ _ _ _ _ _ _ 6 σ c wr' := hf 6 (by decide)
    have e7 : faiF _ _ _ _ _ _ _ 7 σ c wr' := hf 7 (by decide)
    have e8 : faiF _ _ _ _ _ _ _ 8 σ c wr' := hf 8 (by decide)
    have e10 : faiF _ _ _ _ _ _ _ 10 σ c wr' := hf 10 (by decide)
    have e11 : faiF _ _ _ _ _ _ _ 11 σ c wr' := hf 11 (by decide)
    have e12 : faiF _ _ _ _ _ _ _ 12 σ c wr' := hf 12 (by decide)
    obtain ⟨_, a9, m9, q9, e9⟩ : faiF _ _ _ _ _ _ _ 9 σ c wr' := hf 9 (by decide)
    simp only [faiF] at e0 e1 e2 e3 e4 e5 e6 e7 e8 e10 e11 e12
    clear hf hin hdj
    try dsimp only
    rw [e0, e1, e2, e3, e4, e5, e6, e7, e8, e9, e10, e11, e12]
    have HB := hid (BW.out.trans (hb.mono BW.out.size))
    clear hb e0 e1 e2 e3 e4 e5 e6 e7 e8 e9 e10 e11 e12 HR1
    refine wpAny_ready (rs := [13]) (by kernel_rfl) (by simp) ?_
    refine AllReady.cons rfl (fun K hK => ?_) AllReady.nil
    go_simp
    refine hK _ _ ?_
    clear hK K
    refine wpAny_ready (rs := [14]) (by kernel_rfl) (by simp) ?_
    refine AllReady.cons rfl (fun K hK => ?_) AllReady.nil
    go_simp
    refine hK _ _ ?_
    clear hK K
    refine wpAny_done (by kernel_rfl) ?_ _
    go_wp2
    go_ret3
    exact ⟨rfl, HB.out⟩
  · intro i hi σ c wr' hb hd
    simp only [List.mem_cons, List.not_mem_nil, or_false] at hi; rcases hi with rfl | rfl | rfl | rfl | rfl | rfl | rfl | rfl | rfl | rfl | rfl | rfl | rfl
    · skip
      clear hd
      refine StepF.of (a1 := ⟨#[.agg #[.slice a0 D.f0.length p0, .int .i64 z], .pointer (some ⟨w.heap.size, 0, none⟩), σ 12, .int .i64 0, .bool false, .agg #[.slice a0 D.f0.length p0, .int .i64 z], .bool true, .bool false, σ 0, σ 1, σ 2, σ 3, σ 4, σ 5, σ 6, σ 7, σ 8, σ 9, σ 10, σ 11], []⟩) rfl rfl (fun _ => rfl) (fun K hK => ?_)
      go_simp
      exact hK _ _ (Below.refl _ _) rfl
    · skip
      have f0 : faiF _ _ _ _ _ _ _ 0 σ c wr' := hd 0 (by decide) (by decide)
      simp only [faiF] at f0
      clear hd
      refine StepF.of (a1 := ⟨#[.agg #[.slice a0 D.f0.length p0, .int .i64 z], .pointer (some ⟨w.heap.size, 0, none⟩), σ 12, .int .i64 0, .bool false, .agg #[.slice a0 D.f0.length p0, .int .i64 z], .bool true, .bool false, (.pointer (some ⟨w.heap.size, 0, none⟩)), σ 1, σ 2, σ 3, σ 4, σ 5, σ 6, σ 7, σ 8, σ 9, σ 10, σ 11], []⟩) (by simp only [f0]) rfl (fun _ => rfl) (fun K hK => ?_)
      obtain ⟨c0, c1⟩ := (PB.out.below hb PB.out.lt).two
      go_simp
      exact hK _ _ (Below.refl _ _) rfl
    · skip
      have f1 : faiF _ _ _ _ _ _ _ 1 σ c wr' := hd 1 (by decide) (by decide)
      simp only [faiF] at f1
      clear hd
      refine StepF.of (a1 := ⟨#[.agg #[.slice a0 D.f0.length p0, .int .i64 z], .pointer (some ⟨w.heap.size, 0, none⟩), σ 12, .int .i64 0, .bool false, .agg #[.slice a0 D.f0.length p0, .int .i64 z], .bool true, .bool false, σ 0, (.slice a0 D.f0.length p0), σ 2, σ 3, σ 4, σ 5, σ 6, σ 7, σ 8, σ 9, σ 10, σ 11], []⟩) (by simp only [f1]) rfl (fun _ => rfl) (fun K hK => ?_)
      go_simp
      refine (isumA_eq _ D.f0 _ (HR1.out.below hb) s HS.out).mono ?_
      rintro e w' ⟨rfl, hw⟩; obtain rfl := hw.symm
      exact hK _ _ (Below.refl _ _) rfl
    · skip
      have f2 : faiF _ _ _ _ _ _ _ 2 σ c wr' := hd 2 (by decide) (by decide)
      simp only [faiF] at f2
      clear hd
      refine StepF.of (a1 := ⟨#[.agg #[.slice a0 D.f0.length p0, .int .i64 z], .pointer (some ⟨w.heap.size, 0, none⟩), σ 12, .int .i64 0, .bool false, .agg #[.slice a0 D.f0.length p0, .int .i64 z], .bool true, .bool false, σ 0, σ 1, (.int .i64 s), σ 3, σ 4, σ 5, σ 6, σ 7, σ 8, σ 9, σ 10, σ 11], []⟩) (by simp only [f2]) rfl (fun _ => rfl) (fun K hK => ?_)
      go_simp
      refine (squared_eq s p HP.out.1 HP.out.2 _).mono ?_
      rintro e w' ⟨rfl, hw⟩; obtain rfl := hw.symm
      exact hK _ _ (Below.refl _ _) rfl
    · skip
      clear hd
      refine StepF.of (a1 := ⟨#[.agg #[.slice a0 D.f0.length p0, .int .i64 z], .pointer (some ⟨w.heap.size, 0, none⟩), σ 12, .int .i64 0, .bool false, .agg #[.slice a0 D.f0.length p0, .int .i64 z], .bool true, .bool false, σ 0, σ 1, σ 2, σ 3, σ 4, σ 5, σ 6, σ 7, σ 8, σ 9, σ 10, σ 11], []⟩) rfl rfl (fun _ => rfl) (fun K hK => ?_)
      go_simp
      exact hK _ _ (Below.refl _ _) rfl
    · skip
      have f4 : faiF _ _ _ _ _ _ _ 4 σ c wr' := hd 4 (by decide) (by decide)
      simp only [faiF] at f4
      clear hd
      refine StepF.of (a1 := ⟨#[.agg #[.slice a0 D.f0.length p0, .int .i64 z], .pointer (some ⟨w.heap.size, 0, none⟩), σ 12, .int .i64 0, .bool false, .agg #[.slice a0 D.f0.length p0, .int .i64 z], .bool true, .bool false, σ 0, σ 1, σ 2, σ 3, (.pointer (some ⟨w.heap.size, 0, none⟩)), σ 5, σ 6, σ 7, σ 8, σ 9, σ 10, σ 11], []⟩) (by simp only [f4]) rfl (fun _ => rfl) (fun K hK => ?_)
      obtain ⟨c0, c1⟩ := (PB.out.below hb PB.out.lt).two
      go_simp
      exact hK _ _ (Below.refl _ _) rfl
    · skip
      have f5 : faiF _ _ _ _ _ _ _ 5 σ c wr' := hd 5 (by decide) (by decide)
      simp only [faiF] at f5
      clear hd
      refine StepF.of (a1 := ⟨#[.agg #[.slice a0 D.f0.length p0, .int .i64 z], .pointer (some ⟨w.heap.size, 0, none⟩), σ 12, .int .i64 0, .bool false, .agg #[.slice a0 D.f0.length p0, .int .i64 z], .bool true, .bool false, σ 0, σ 1, σ 2, σ 3, σ 4, (.slice a0 D.f0.length p0), σ 6, σ 7, σ 8, σ 9, σ 10, σ 11], []⟩) (by simp only [f5]) rfl (fun _ => rfl) (fun K hK => ?_)
      go_simp
      exact hK _ _ (Below.refl _ _) rfl
    · skip
      clear hd
      refine StepF.of (a1 := ⟨#[.agg #[.slice a0 D.f0.length p0, .int .i64 z], .pointer (some ⟨w.heap.size, 0, none⟩), σ 12, .int .i64 0, .bool false, .agg #[.slice a0 D.f0.length p0, .int .i64 z], .bool true, .bool false, σ 0, σ 1, σ 2, σ 3, σ 4, σ 5, σ 6, σ 7, σ 8, σ 9, σ 10, σ 11], []⟩) rfl rfl (fun _ => rfl) (fun K hK => ?_)
      go_simp
      exact hK _ _ (Below.refl _ _) rfl
    · skip
      have f7 : faiF _ _ _ _ _ _ _ 7 σ c wr' := hd 7 (by decide) (by decide)
      simp only [faiF] at f7
      clear hd
      refine StepF.of (a1 := ⟨#[.agg #[.slice a0 D.f0.length p0, .int .i64 z], .pointer (some ⟨w.heap.size, 0, none⟩), σ 12, .int .i64 0, .bool false, .agg #[.slice a0 D.f0.length p0, .int .i64 z], .bool true, .bool false, σ 0, σ 1, σ 2, σ 3, σ 4, σ 5, σ 6, (.pointer (some ⟨w.heap.size, 0, none⟩)), σ 8, σ 9, σ 10, σ 11], []⟩) (by simp only [f7]) rfl (fun _ => rfl) (fun K hK => ?_)
      obtain ⟨c0, c1⟩ := (PB.out.below hb PB.out.lt).two
      go_simp
      exact hK _ _ (Below.refl _ _) rfl
    · skip
      have f8 : faiF _ _ _ _ _ _ _ 8 σ c wr' := hd 8 (by decide) (by decide)
      simp only [faiF] at f8
      clear hd
      refine StepF.of (a1 := ⟨#[.agg #[.slice a0 D.f0.length p0, .int .i64 z], .pointer (some ⟨w.heap.size, 0, none⟩), σ 12, .int .i64 0, .bool false, .agg #[.slice a0 D.f0.length p0, .int .i64 z], .bool true, .bool false, σ 0, σ 1, σ 2, σ 3, σ 4, σ 5, σ 6, σ 7, (.slice a0 D.f0.length p0), σ 9, σ 10, σ 11], []⟩) (by simp only [f8]) rfl (fun _ => rfl) (fun K hK => ?_)
      go_simp
      refine (ieach_squared sqOf _ D.f0 _ (HR1.out.below hb) (by omega) (fun i hi w => squared_eq _ _ rfl (by have h1 := HG.out.win i hi; have h2 := sq_bd h1.1 h1.2; unfold sqOf at h2; omega) w)).mono ?_
      rintro e w2 ⟨u, rfl, hu, b⟩
      exact hK u w2 b ⟨hu.reads, hu.sform⟩
    · skip
      have f9 : faiF _ _ _ _ _ _ _ 9 σ c wr' := hd 9 (by decide) (by decide)
      obtain ⟨g9, a9, m9, q9, f9⟩ := f9; rw [f9] at g9
      clear hd
      refine StepF.of (a1 := ⟨#[.agg #[.slice a0 D.f0.length p0, .int .i64 z], .pointer (some ⟨w.heap.size, 0, none⟩), σ 12, .int .i64 0, .bool false, .agg #[.slice a0 D.f0.length p0, .int .i64 z], .bool true, .bool false, σ 0, σ 1, σ 2, σ 3, σ 4, σ 5, σ 6, σ 7, σ 8, (.slice a9 m9 q9), σ 10, σ 11], []⟩) (by simp only [f9]) rfl (fun _ => rfl) (fun K hK => ?_)
      go_simp
      refine (isumA_eq _ (D.f0.map sqOf) _ g9 sq HSQ.out).mono ?_
      rintro e w' ⟨rfl, hw⟩; obtain rfl := hw.symm
      exact hK _ _ (Below.refl _ _) rfl
    · skip
      have f6 : faiF _ _ _ _ _ _ _ 6 σ c wr' := hd 6 (by decide) (by decide)
      simp only [faiF] at f6
      have f10 : faiF _ _ _ _ _ _ _ 10 σ c wr' := hd 10 (by decide) (by decide)
      simp only [faiF] at f10
      clear hd
      refine StepF.of (a1 := ⟨#[.agg #[.slice a0 D.f0.length p0, .int .i64 z], .pointer (some ⟨w.heap.size, 0, none⟩), σ 12, .int .i64 0, .bool false, .agg #[.slice a0 D.f0.length p0, .int .i64 z], .bool true, .bool false, σ 0, σ 1, σ 2, σ 3, σ 4, σ 5, (.int .i64 (D.f0.length : Nat)), σ 7, σ 8, σ 9, (.int .i64 sq), σ 11], []⟩) (by simp only [f6, f10]) rfl (fun _ => rfl) (fun K hK => ?_)
      go_simp
      exact hK _ _ (Below.refl _ _) rfl
    · skip
      have f3 : faiF _ _ _ _ _ _ _ 3 σ c wr' := hd 3 (by decide) (by decide)
      simp only [faiF] at f3
      clear hd
      refine StepF.of (a1 := ⟨#[.agg #[.slice a0 D.f0.length p0, .int .i64 z], .pointer (some ⟨w.heap.size, 0, none⟩), σ 12, .int .i64 0, .bool false, .agg #[.slice a0 D.f0.length p0, .int .i64 z], .bool true, .bool false, σ 0, σ 1, σ 2, (.int .i64 p), σ 4, σ 5, σ 6, σ 7, σ 8, σ 9, σ 10, σ 11], []⟩) (by simp only [f3]) rfl (fun _ => rfl) (fun K hK => ?_)
      go_simp
      exact hK _ _ (Below.refl _ _) rfl
end Go.Proofs.Ytepnhbicmlfnhah
