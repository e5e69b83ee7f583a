/-
  What is drawn for texts to be split: some text of at most 40 bytes and a number; nothing old is written.
-/
import Derived.Test.YtijojdempijhbadDrawAm
import Derived.Test.YtijojdempijhbadPcRow
import Derived.Test.YtijojdempijhbadRegFacts3
namespace Go.Proofs.Ytijojdempijhbad
open Go.RowKit

set_option maxHeartbeats 1000000 in
theorem of_in12 (Q : ByteArray → Prop) (B b N g n : Nat) (cap : Nat) (w : World) (h : Cur B w b N) (hN : N ≤ 1152921504606846974) (hg : g ≠ b) (hl : ∀ i, i < n → ∃ t : ByteArray, Q t ∧ w.cell? ⟨g, i, none⟩ = some (.string t)) (h0 : 0 < n) (hn : n ≤ 1000) :
    Calls Try.prog 152 #[.pointer (some ⟨b, 0, none⟩), .slice (some ⟨g, 0, none⟩) n cap] w fun e w' => ∃ t : ByteArray, Q t ∧ e = .returned (.string t) ∧ Cur B w' b (N + 2) ∧ w.grownBy w' (some b) := by
  have H := hid h
  have HL := hid hl
  clear h hl
  go_enter Try.func152, Try.ntmps152
  go_wp2_with fail
  refine (pick_any B b N n _ H.out hN (by omega)).mono ?_
  rintro e w1 ⟨r, hr, rfl, c1, g1⟩
  have hrn : r < n := by omega
  obtain ⟨z, hq, hz⟩ := HL.out r hrn
  have hz1 : w1.cell? ⟨g, r, none⟩ = some (.string z) := g1.cell hz (by simpa using hg)
  have C1 := hid c1; have G1 := hid g1; have HQ := hid hq; clear c1 g1 hr hz hq
  go_wp2
  go_ret
  exact ⟨z, HQ.out, rfl, C1.out, G1.out⟩
theorem lit_str12 (Q : ByteArray → Prop) (w : World) (ts : List ByteArray) (T : TypeId) (hq : ∀ t ∈ ts, Q t) : ∀ i, i < ts.length → ∃ t : ByteArray, Q t ∧ (w.alloc (.cells (ts.map Value.string).toArray T)).cell? ⟨w.heap.size, i, none⟩ = some (.string t) := fun i hi => by
  refine ⟨ts[i], hq _ (List.getElem_mem hi), ?_⟩
  rw [World.cell?_alloc_mark]
  simp [hi]
/-- What the operations make. -/
def dsF (g : Nat) : Nat → (Nat → Value) → (Nat → Nat × Nat) → World → Prop
  | 0, σ, _, _ => σ 0 = .pointer (some ⟨g, 0, none⟩)
  | 1, σ, _, _ => ∃ r : Nat, r ≤ 4 ∧ σ 1 = .int .i64 (r : Nat)
  | 2, σ, _, w => ∃ r b : Nat, (r ≤ 4 ∧ g < b) ∧ σ 2 = .slice (some ⟨b, 0, none⟩) r r ∧ w.rowIs b 5 r (fun _ => .int .u8 0)
  | 3, σ, _, _ => ∃ t : ByteArray, t.size ≤ 4 ∧ σ 3 = .string t
  | 4, σ, _, _ => σ 4 = .pointer (some ⟨g, 0, none⟩)
  | 5, σ, _, w => ∃ b : Nat, g < b ∧ σ 5 = .slice (some ⟨b, 0, none⟩) 3 3 ∧ ∀ i, i < 3 → ∃ t : ByteArray, t.size ≤ 30 ∧ w.cell? ⟨b, i, none⟩ = some (.string t)
  | 6, σ, _, _ => ∃ t : ByteArray, t.size ≤ 30 ∧ σ 6 = .string t
  | 7, σ, _, _ => ∃ t : ByteArray, t.size ≤ 40 ∧ σ 7 = .string t
  | 8, σ, _, _ => σ 8 = .pointer (some ⟨g, 0, none⟩)
  | 9, σ, _, _ => ∃ r : Nat, r ≤ 9 ∧ σ 9 = .int .i64 (r : Nat)
  | 10, σ, _, _ => ∃ z : Int, (-1 ≤ z ∧ z ≤ 8) ∧ σ 10 = .int .i64 z
  | 11, σ, _, _ => ∃ t : ByteArray, t.size ≤ 40 ∧ σ 11 = .string t
  | _, _, _, _ => True
theorem dsF_keep {g : Nat} : ∀ j ∈ [0, 1, 2, 3, 4, 5, 6, 7, 8, 9, 10, 11], ∀ σ c w w', dsF g j σ c w → w.grownBy w' (some g) → dsF g j σ c w' := by
  intro j hj σ c w w' h hb
  simp only [List.mem_cons, List.not_mem_nil, or_false] at hj; rcases hj with rfl | rfl | rfl | rfl | rfl | rfl | rfl | rfl | rfl | rfl | rfl | rfl
  · exact h
  · exact h
  · exact by obtain ⟨r, b, h1, e, hr⟩ := h; exact ⟨r, b, h1, e, hr.of_block (hb.block b hr.lt (by intro e; cases e; omega))⟩
  · exact h
  · exact h
  · exact by obtain ⟨b, h1, e, hr⟩ := h; exact ⟨b, h1, e, fun i hi => by obtain ⟨t, ht, hc⟩ := hr i hi; exact ⟨t, ht, hb.cell hc (by simp; omega)⟩⟩
  · exact h
  · exact h
  · exact h
  · exact h
  · exact h
  · exact h
theorem dsF_loc {g : Nat} {j i : Nat} {σ : Nat → Value} {c : Nat → Nat × Nat} {w : World} {v : Value} {r : Nat × Nat} (hj : j ∈ [0, 1, 2, 3, 4, 5, 6, 7, 8, 9, 10, 11]) (hne : i ≠ j) (_hd : True) (h : dsF g j σ c w) : dsF g j (upd σ i v) (upd c i r) w := by
  simp only [List.mem_cons, List.not_mem_nil, or_false] at hj; rcases hj with rfl | rfl | rfl | rfl | rfl | rfl | rfl | rfl | rfl | rfl | rfl | rfl
  · simp only [dsF, upd_other _ _ (Ne.symm hne)] at h ⊢
    exact h
  · simp only [dsF, upd_other _ _ (Ne.symm hne)] at h ⊢
    exact h
  · simp only [dsF, upd_other _ _ (Ne.symm hne)] at h ⊢
    exact h
  · simp only [dsF, upd_other _ _ (Ne.symm hne)] at h ⊢
    exact h
  · simp only [dsF, upd_other _ _ (Ne.symm hne)] at h ⊢
    exact h
  · simp only [dsF, upd_other _ _ (Ne.symm hne)] at h ⊢
    exact h
  · simp only [dsF, upd_other _ _ (Ne.symm hne)] at h ⊢
    exact h
  · simp only [dsF, upd_other _ _ (Ne.symm hne)] at h ⊢
    exact h
  · simp only [dsF, upd_other _ _ (Ne.symm hne)] at h ⊢
    exact h
  · simp only [dsF, upd_other _ _ (Ne.symm hne)] at h ⊢
    exact h
  · simp only [dsF, upd_other _ _ (Ne.symm hne)] at h ⊢
    exact h
  · simp only [dsF, upd_other _ _ (Ne.symm hne)] at h ⊢
    exact h
set_option maxRecDepth 100000 in
set_option maxHeartbeats 8000000 in
theorem drawSpl_any (v : Value) (w : World) (h : CodeOk w.heap.size w v) :
    Calls Try.prog 68 #[v] w fun e w' => ∃ (s : ByteArray) (m : Int), e = .returned (.tuple #[.string s, .int .i64 m]) ∧ (s.size ≤ 40 ∧ -1 ≤ m ∧ m ≤ 8) ∧ Below w.heap.size w w' := by
  have H := hid (cur_new w v h)
  obtain ⟨a, len, cap, rfl, hlen, hx⟩ := h
  clear hlen hx
  go_enter Try.func68, Try.ntmps68
  go_wp2_with fail
  refine wp_region_any (by kernel_rfl) ?_
  change wpAny _ _ _ _ _ _ _ (World.drew _)
  obtain ⟨W2, hW2⟩ : ∃ X, X = World.drew (w.alloc (.cells #[.slice a len cap, .int .i64 0, .int .u64 0] 109)) := ⟨_, rfl⟩
  have BW : Hid (Below w.heap.size w W2) := by rw [hW2]; exact ((Below.refl _ _).alloc (Nat.le_refl _) _).drew
  have C0 : Hid (Cur w.heap.size W2 w.heap.size 0) := by rw [hW2]; exact H.out.below (Below.refl _ _).drew
  have hsW : W2.heap.size = w.heap.size + 1 := by rw [hW2]; exact World.size_alloc _ _
  rw [← hW2]
  clear hW2 H
  refine wpAny_facts3' 1 (Array.replicate 13 false) #[true, true, true, true, true, true, true, true, true, true, true, true, false] [0, 1, 2, 3, 4, 5, 6, 7, 8, 9, 10, 11] [1, 6, 9] w.heap.size (fun k wz => Cur w.heap.size wz w.heap.size (2 * k)) (fun σ => #[.slice a len cap, undef, σ 11, .int .i64 0, .pointer (some ⟨w.heap.size, 0, none⟩), .slice a len cap, .agg #[.slice a len cap, .int .i64 0, .int .u64 0], .pointer (some ⟨w.heap.size, 0, none⟩), σ 0, σ 1, σ 2, σ 3, σ 4, σ 5, σ 6, σ 7, σ 8, σ 9, σ 10]) (dsF w.heap.size) (fun i => bif i == 11 then .string ⟨#[]⟩ else undef) rfl (by kernel_rfl) (by kernel_rfl) (by kernel_rfl) (by kernel_rfl) (by decide) (by kernel_rfl) dsF_keep (fun k wz wz' h hb => h.below hb) C0.out (fun j hj i hi σ c w v r hne hd h => dsF_loc hj hne trivial h) ?_ ?_ ?_
  · intro σ c wr' hb hr hf hin hdj
    have e0 : dsF _ 0 σ c wr' := hf 0 (by decide)
    obtain ⟨r1, q1, e1⟩ : dsF _ 1 σ c wr' := hf 1 (by decide)
    obtain ⟨r2, b2, q2, e2, k2⟩ : dsF _ 2 σ c wr' := hf 2 (by decide)
    obtain ⟨t3, q3, e3⟩ : dsF _ 3 σ c wr' := hf 3 (by decide)
    have e4 : dsF _ 4 σ c wr' := hf 4 (by decide)
    obtain ⟨b5, q5, e5, k5⟩ : dsF _ 5 σ c wr' := hf 5 (by decide)
    obtain ⟨t6, q6, e6⟩ : dsF _ 6 σ c wr' := hf 6 (by decide)
    obtain ⟨t7, q7, e7⟩ : dsF _ 7 σ c wr' := hf 7 (by decide)
    have e8 : dsF _ 8 σ c wr' := hf 8 (by decide)
    obtain ⟨r9, q9, e9⟩ : dsF _ 9 σ c wr' := hf 9 (by decide)
    obtain ⟨z10, q10, e10⟩ : dsF _ 10 σ c wr' := hf 10 (by decide)
    obtain ⟨t11, q11, e11⟩ : dsF _ 11 σ c wr' := hf 11 (by decide)
    simp only [dsF] at e0 e4 e8
    clear hf hin hdj k2 k5
    try dsimp only
    rw [e0, e1, e2, e3, e4, e5, e6, e7, e8, e9, e10, e11]
    have HBB : Hid (Below w.heap.size w wr') := BW.out.trans (only_below hb (by omega) (by omega))
    clear hb hr e0 e1 e2 e3 e4 e5 e6 e7 e8 e9 e10 e11
    refine wpAny_ready (rs := [12]) (by kernel_rfl) (by simp) ?_
    refine AllReady.cons rfl (fun K hK => ?_) AllReady.nil
    go_simp
    refine hK _ _ ?_
    clear hK K
    refine wpAny_done (by kernel_rfl) ?_ _
    go_wp2
    go_ret2
    exact ⟨t11, z10, rfl, ⟨q11, q10.1, q10.2⟩, HBB.out⟩
  · intro m hm σ c wr' hb hr hd
    have hm' : m < 3 := hm
    clear hm
    obtain rfl | rfl | rfl : m = 0 ∨ m = 1 ∨ m = 2 := by omega
    · skip
      have f0 : dsF _ 0 σ c wr' := hd 0 (by decide) (by decide)
      simp only [dsF] at f0
      clear hd
      refine StepH.of (a1 := ⟨#[.slice a len cap, undef, σ 11, .int .i64 0, .pointer (some ⟨w.heap.size, 0, none⟩), .slice a len cap, .agg #[.slice a len cap, .int .i64 0, .int .u64 0], .pointer (some ⟨w.heap.size, 0, none⟩), (.pointer (some ⟨w.heap.size, 0, none⟩)), σ 1, σ 2, σ 3, σ 4, σ 5, σ 6, σ 7, σ 8, σ 9, σ 10], []⟩) (by simp only [f0]) rfl (fun _ => rfl) (fun K hK => ?_)
      go_simp
      refine (pick_any w.heap.size w.heap.size _ 5 _ hr (by omega) (by omega)).mono ?_
      rintro e w2 ⟨r, hr', rfl, c2, g2⟩
      exact hK _ w2 g2 c2 ⟨r, by omega, rfl⟩
    · skip
      have f4 : dsF _ 4 σ c wr' := hd 4 (by decide) (by decide)
      simp only [dsF] at f4
      have f5 : dsF _ 5 σ c wr' := hd 5 (by decide) (by decide)
      obtain ⟨b5, h5, f5, k5⟩ := f5
      clear hd
      refine StepH.of (a1 := ⟨#[.slice a len cap, undef, σ 11, .int .i64 0, .pointer (some ⟨w.heap.size, 0, none⟩), .slice a len cap, .agg #[.slice a len cap, .int .i64 0, .int .u64 0], .pointer (some ⟨w.heap.size, 0, none⟩), σ 0, σ 1, σ 2, σ 3, (.pointer (some ⟨w.heap.size, 0, none⟩)), (.slice (some ⟨b5, 0, none⟩) 3 3), σ 6, σ 7, σ 8, σ 9, σ 10], []⟩) (by simp only [f4, f5]) rfl (fun _ => rfl) (fun K hK => ?_)
      go_simp
      refine (of_in12 (fun t => t.size ≤ 30) w.heap.size w.heap.size _ b5 3 3 _ hr (by omega) (by omega) k5 (by omega) (by omega)).mono ?_
      rintro e w2 ⟨t, ht, rfl, c2, g2⟩
      exact hK _ w2 g2 c2 ⟨t, ht, rfl⟩
    · skip
      have f8 : dsF _ 8 σ c wr' := hd 8 (by decide) (by decide)
      simp only [dsF] at f8
      clear hd
      refine StepH.of (a1 := ⟨#[.slice a len cap, undef, σ 11, .int .i64 0, .pointer (some ⟨w.heap.size, 0, none⟩), .slice a len cap, .agg #[.slice a len cap, .int .i64 0, .int .u64 0], .pointer (some ⟨w.heap.size, 0, none⟩), σ 0, σ 1, σ 2, σ 3, σ 4, σ 5, σ 6, σ 7, (.pointer (some ⟨w.heap.size, 0, none⟩)), σ 9, σ 10], []⟩) (by simp only [f8]) rfl (fun _ => rfl) (fun K hK => ?_)
      go_simp
      refine (pick_any w.heap.size w.heap.size _ 10 _ hr (by omega) (by omega)).mono ?_
      rintro e w2 ⟨r, hr', rfl, c2, g2⟩
      exact hK _ w2 g2 c2 ⟨r, by omega, rfl⟩
  · intro i hi hne σ c wr' hb hd
    simp only [List.mem_cons, List.not_mem_nil, or_false] at hi; rcases hi with rfl | rfl | rfl | rfl | rfl | rfl | rfl | rfl | rfl | rfl | rfl | rfl
    · skip
      clear hd
      refine StepF.of (a1 := ⟨#[.slice a len cap, undef, σ 11, .int .i64 0, .pointer (some ⟨w.heap.size, 0, none⟩), .slice a len cap, .agg #[.slice a len cap, .int .i64 0, .int .u64 0], .pointer (some ⟨w.heap.size, 0, none⟩), σ 0, σ 1, σ 2, σ 3, σ 4, σ 5, σ 6, σ 7, σ 8, σ 9, σ 10], []⟩) rfl rfl (fun _ => rfl) (fun K hK => ?_)
      go_simp
      exact hK _ _ (Below.refl _ _) rfl
    · exact absurd (by decide) hne
    · skip
      have f1 : dsF _ 1 σ c wr' := hd 1 (by decide) (by decide)
      obtain ⟨r1, h1, f1⟩ := f1
      clear hd
      refine StepF.of (a1 := ⟨#[.slice a len cap, undef, σ 11, .int .i64 0, .pointer (some ⟨w.heap.size, 0, none⟩), .slice a len cap, .agg #[.slice a len cap, .int .i64 0, .int .u64 0], .pointer (some ⟨w.heap.size, 0, none⟩), σ 0, (.int .i64 (r1 : Nat)), σ 2, σ 3, σ 4, σ 5, σ 6, σ 7, σ 8, σ 9, σ 10], []⟩) (by simp only [f1]) rfl (fun _ => rfl) (fun K hK => ?_)
      have mk := run_make_row' (P := Try.prog) 22 5 (.int .u8 0) 1 Try.underlying22 info_u8 rfl .i64 .i64 r1 (by omega) (by omega)
      have hsz := hb.size
      go_simp
      exact hK _ _ ((Below.refl _ _).alloc (Nat.le_refl _) _) ⟨r1, _, ⟨h1, by omega⟩, rfl, World.rowIs_made _ _ _ _⟩
    · skip
      have f2 : dsF _ 2 σ c wr' := hd 2 (by decide) (by decide)
      obtain ⟨r2, b2, h2, f2, k2⟩ := f2
      clear hd
      refine StepF.of (a1 := ⟨#[.slice a len cap, undef, σ 11, .int .i64 0, .pointer (some ⟨w.heap.size, 0, none⟩), .slice a len cap, .agg #[.slice a len cap, .int .i64 0, .int .u64 0], .pointer (some ⟨w.heap.size, 0, none⟩), σ 0, σ 1, (.slice (some ⟨b2, 0, none⟩) r2 r2), σ 3, σ 4, σ 5, σ 6, σ 7, σ 8, σ 9, σ 10], []⟩) (by simp only [f2]) rfl (fun _ => rfl) (fun K hK => ?_)
      have hconv := conv_row wr' b2 r2 (List.replicate r2 0) (fun j hj => by rw [k2.cell (by simpa using hj), List.getD_eq_getElem?_getD, List.getElem?_replicate]; split <;> rfl)
      rw [List.length_replicate] at hconv
      have hz : (⟨(List.replicate r2 (0 : UInt8)).toArray⟩ : ByteArray).size ≤ 4 := by show (List.replicate r2 (0 : UInt8)).toArray.size ≤ 4; simp; omega
      generalize (⟨(List.replicate r2 (0 : UInt8)).toArray⟩ : ByteArray) = tt at hconv hz
      go_simp
      exact hK _ _ (Below.refl _ _) ⟨tt, hz, rfl⟩
    · skip
      clear hd
      refine StepF.of (a1 := ⟨#[.slice a len cap, undef, σ 11, .int .i64 0, .pointer (some ⟨w.heap.size, 0, none⟩), .slice a len cap, .agg #[.slice a len cap, .int .i64 0, .int .u64 0], .pointer (some ⟨w.heap.size, 0, none⟩), σ 0, σ 1, σ 2, σ 3, σ 4, σ 5, σ 6, σ 7, σ 8, σ 9, σ 10], []⟩) rfl rfl (fun _ => rfl) (fun K hK => ?_)
      go_simp
      exact hK _ _ (Below.refl _ _) rfl
    · skip
      clear hd
      refine StepF.of (a1 := ⟨#[.slice a len cap, undef, σ 11, .int .i64 0, .pointer (some ⟨w.heap.size, 0, none⟩), .slice a len cap, .agg #[.slice a len cap, .int .i64 0, .int .u64 0], .pointer (some ⟨w.heap.size, 0, none⟩), σ 0, σ 1, σ 2, σ 3, σ 4, σ 5, σ 6, σ 7, σ 8, σ 9, σ 10], []⟩) rfl rfl (fun _ => rfl) (fun K hK => ?_)
      have hsz := hb.size
      go_simp
      exact hK _ _ ((Below.refl _ _).alloc (Nat.le_refl _) _) ⟨_, by omega, rfl, lit_str12 (fun t => t.size ≤ 30) wr' [⟨#[]⟩, ⟨#[97, 98, 99]⟩, ⟨#[115, 111, 109, 101, 32, 98, 121, 116, 101, 115, 32, 116, 111, 32, 98, 101, 32, 115, 112, 108, 105, 116]⟩] _ (by decide)⟩
    · exact absurd (by decide) hne
    · skip
      have f3 : dsF _ 3 σ c wr' := hd 3 (by decide) (by decide)
      obtain ⟨t3, h3, f3⟩ := f3
      have f6 : dsF _ 6 σ c wr' := hd 6 (by decide) (by decide)
      obtain ⟨t6, h6, f6⟩ := f6
      clear hd
      refine StepF.of (a1 := ⟨#[.slice a len cap, undef, σ 11, .int .i64 0, .pointer (some ⟨w.heap.size, 0, none⟩), .slice a len cap, .agg #[.slice a len cap, .int .i64 0, .int .u64 0], .pointer (some ⟨w.heap.size, 0, none⟩), σ 0, σ 1, σ 2, (.string t3), σ 4, σ 5, (.string t6), σ 7, σ 8, σ 9, σ 10], []⟩) (by simp only [f3, f6]) rfl (fun _ => rfl) (fun K hK => ?_)
      have hadd := run_string_add_sum (P := Try.prog) wr' t3 t6 (by omega)
      have hs7 : (t3 ++ t6).size ≤ 40 := by rw [ByteArray.size_append]; omega
      generalize t3 ++ t6 = t7 at hadd hs7
      go_simp
      exact hK _ _ (Below.refl _ _) ⟨t7, hs7, rfl⟩
    · skip
      clear hd
      refine StepF.of (a1 := ⟨#[.slice a len cap, undef, σ 11, .int .i64 0, .pointer (some ⟨w.heap.size, 0, none⟩), .slice a len cap, .agg #[.slice a len cap, .int .i64 0, .int .u64 0], .pointer (some ⟨w.heap.size, 0, none⟩), σ 0, σ 1, σ 2, σ 3, σ 4, σ 5, σ 6, σ 7, σ 8, σ 9, σ 10], []⟩) rfl rfl (fun _ => rfl) (fun K hK => ?_)
      go_simp
      exact hK _ _ (Below.refl _ _) rfl
    · exact absurd (by decide) hne
    · skip
      have f9 : dsF _ 9 σ c wr' := hd 9 (by decide) (by decide)
      obtain ⟨r9, h9, f9⟩ := f9
      clear hd
      refine StepF.of (a1 := ⟨#[.slice a len cap, undef, σ 11, .int .i64 0, .pointer (some ⟨w.heap.size, 0, none⟩), .slice a len cap, .agg #[.slice a len cap, .int .i64 0, .int .u64 0], .pointer (some ⟨w.heap.size, 0, none⟩), σ 0, σ 1, σ 2, σ 3, σ 4, σ 5, σ 6, σ 7, σ 8, (.int .i64 (r9 : Nat)), σ 10], []⟩) (by simp only [f9]) rfl (fun _ => rfl) (fun K hK => ?_)
      obtain ⟨z, hz⟩ : ∃ z : Int, (r9 : Int) - 1 = z := ⟨_, rfl⟩
      have hw : IntKind.i64.wrap z = z := by rw [IntKind.wrap_i64]; omega
      have hz2 : -1 ≤ z ∧ z ≤ 8 := by omega
      go_simp
      exact hK _ _ (Below.refl _ _) ⟨z, hz2, by first | rfl | simp [upd, hw]⟩
    · skip
      have f7 : dsF _ 7 σ c wr' := hd 7 (by decide) (by decide)
      obtain ⟨t7, h7, f7⟩ := f7
      clear hd
      refine StepF.of (a1 := ⟨#[.slice a len cap, undef, σ 11, .int .i64 0, .pointer (some ⟨w.heap.size, 0, none⟩), .slice a len cap, .agg #[.slice a len cap, .int .i64 0, .int .u64 0], .pointer (some ⟨w.heap.size, 0, none⟩), σ 0, σ 1, σ 2, σ 3, σ 4, σ 5, σ 6, (.string t7), σ 8, σ 9, σ 10], []⟩) (by simp only [f7]) rfl (fun _ => rfl) (fun K hK => ?_)
      go_simp
      exact hK _ _ (Below.refl _ _) ⟨t7, h7, rfl⟩
end Go.Proofs.Ytijojdempijhbad
