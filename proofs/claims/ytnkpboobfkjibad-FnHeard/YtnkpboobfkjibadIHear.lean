/-
  impl.HearSpans: what is heard of, in memory of its own. Nothing old is written.
-/
import Derived.Test.YtnkpboobfkjibadSmallSd
import Derived.Test.YtnkpboobfkjibadITell2
import Derived.Test.YtnkpboobfkjibadIInOrdW
import Derived.Test.YtnkpboobfkjibadIGoodSd
import Derived.Test.YtnkpboobfkjibadIPutS
import Derived.Test.YtnkpboobfkjibadIWithout
import Derived.Test.YtnkpboobfkjibadKSpanConv
import Derived.Test.YtnkpboobfkjibadSdBox
import Derived.Test.YtnkpboobfkjibadKOwnS
import Derived.Test.YtnkpboobfkjibadRegFacts2
namespace Go.Proofs.Ytnkpboobfkjibad
open Go.RowKit
/-- What the operations make. -/
def hrF (A g bl bf : Nat) (vj vt : Value) (lo fr : List Int) (z : Int) : Nat → (Nat → Value) → (Nat → Nat × Nat) → World → Prop
  | 0, σ, _, _ => σ 0 = .pointer (some ⟨A, 0, none⟩)
  | 1, σ, _, _ => σ 1 = .int .i64 z
  | 2, σ, _, _ => σ 2 = vj
  | 3, σ, _, _ => σ 3 = .map (some bl)
  | 4, σ, c, w => g < (c 4).1 ∧ KOwn (c 4).1 (c 4).2 w (σ 4) lo ∧ ∃ a k q, σ 4 = .slice a k q
  | 5, σ, _, _ => σ 5 = .agg #[σ 1, σ 2, σ 4]
  | 6, σ, _, _ => σ 6 = .map (some bf)
  | 7, σ, c, w => g < (c 7).1 ∧ KOwn (c 7).1 (c 7).2 w (σ 7) fr ∧ ∃ a k q, σ 7 = .slice a k q
  | 8, σ, _, _ => σ 8 = vt
  | 9, σ, _, w => BoxL w g [.int .i64 z, vj, σ 4]
  | 10, σ, _, _ => σ 10 = σ 7
  | _, _, _, _ => True
theorem hrF_keep {A g bl bf : Nat} {vj vt : Value} {lo fr : List Int} {z : Int} : ∀ j ∈ [0, 1, 2, 3, 4, 5, 6, 7, 8, 9, 10], ∀ σ c w w', hrF A g bl bf vj vt lo fr z j σ c w → Below w.heap.size w w' → hrF A g bl bf vj vt lo fr z j σ c w' := by
  intro j hj σ c w w' h hb
  simp only [List.mem_cons, List.not_mem_nil, or_false] at hj; rcases hj with rfl | rfl | rfl | rfl | rfl | rfl | rfl | rfl | rfl | rfl | rfl
  · exact h
  · exact h
  · exact h
  · exact h
  · exact ⟨h.1, h.2.1.below hb, h.2.2⟩
  · exact h
  · exact h
  · exact ⟨h.1, h.2.1.below hb, h.2.2⟩
  · exact h
  · exact h.below hb h.lt
  · exact h
set_option linter.unusedSimpArgs false in
theorem hrF_loc {A g bl bf : Nat} {vj vt : Value} {lo fr : List Int} {z : Int} {j i : Nat} {σ : Nat → Value} {c : Nat → Nat × Nat} {w : World} {v : Value} {r : Nat × Nat} (hj : j ∈ [0, 1, 2, 3, 4, 5, 6, 7, 8, 9, 10]) (hne : i ≠ j) (hd : (j = 5 → i ≠ 1 ∧ i ≠ 2 ∧ i ≠ 4) ∧ (j = 9 → i ≠ 4) ∧ (j = 10 → i ≠ 7)) (h : hrF A g bl bf vj vt lo fr z j σ c w) : hrF A g bl bf vj vt lo fr z j (upd σ i v) (upd c i r) w := by
  simp only [List.mem_cons, List.not_mem_nil, or_false] at hj; rcases hj with rfl | rfl | rfl | rfl | rfl | rfl | rfl | rfl | rfl | rfl | rfl
  · simp only [hrF, upd_other _ _ (Ne.symm hne)] at h ⊢
    exact h
  · simp only [hrF, upd_other _ _ (Ne.symm hne)] at h ⊢
    exact h
  · simp only [hrF, upd_other _ _ (Ne.symm hne)] at h ⊢
    exact h
  · simp only [hrF, upd_other _ _ (Ne.symm hne)] at h ⊢
    exact h
  · simp only [hrF, upd_other _ _ (Ne.symm hne)] at h ⊢
    exact h
  · obtain ⟨d1, d2, d4⟩ := hd.1 rfl
    simp only [hrF, upd_other _ _ (Ne.symm hne), upd_other _ _ (Ne.symm d1), upd_other _ _ (Ne.symm d2), upd_other _ _ (Ne.symm d4)] at h ⊢
    exact h
  · simp only [hrF, upd_other _ _ (Ne.symm hne)] at h ⊢
    exact h
  · simp only [hrF, upd_other _ _ (Ne.symm hne)] at h ⊢
    exact h
  · simp only [hrF, upd_other _ _ (Ne.symm hne)] at h ⊢
    exact h
  · have d4 := hd.2.1 rfl
    simp only [hrF, upd_other _ _ (Ne.symm hne), upd_other _ _ (Ne.symm d4)] at h ⊢
    exact h
  · have d7 := hd.2.2 rfl
    simp only [hrF, upd_other _ _ (Ne.symm hne), upd_other _ _ (Ne.symm d7)] at h ⊢
    exact h
theorem hrF_keep2 {A g bl bf : Nat} {vj vt : Value} {lo fr : List Int} {z : Int} : ∀ j ∈ [0, 1, 2, 3, 4, 5, 6, 7, 8, 9, 10], j ≠ 9 → ∀ σ c w w', hrF A g bl bf vj vt lo fr z j σ c w → w.grownBy w' (some g) → hrF A g bl bf vj vt lo fr z j σ c w' := by
  intro j hj hne σ c w w' h hb
  simp only [List.mem_cons, List.not_mem_nil, or_false] at hj; rcases hj with rfl | rfl | rfl | rfl | rfl | rfl | rfl | rfl | rfl | rfl | rfl
  · exact h
  · exact h
  · exact h
  · exact h
  · exact ⟨h.1, h.2.1.at (fun k h1 h2 h3 => grown_at2 hb k h3 (by have := h.1; omega)), h.2.2⟩
  · exact h
  · exact h
  · exact ⟨h.1, h.2.1.at (fun k h1 h2 h3 => grown_at2 hb k h3 (by have := h.1; omega)), h.2.2⟩
  · exact h
  · exact absurd rfl hne
  · exact h
set_option maxRecDepth 100000 in
set_option maxHeartbeats 8000000 in
theorem ihear_any (v vl : Value) (D : SdD) (l : List Sp) (w : World) (hr : SdReads w v D) (hl : SpReads w vl l) (X : SdD) (F L : List Int) (t : Bool) (hX : hearSd D l = X) (hF : hearFr D l = F) (hL : hearLa D l = L) (ht : hearB D l = t) :
    Calls Try.prog 31 #[v, vl] w fun e w' => ∃ u0 u1 u2 S0 S1 S2, e = .returned (.tuple #[u0, u1, u2, .bool t]) ∧ SdOwn S0 w' u0 X ∧ KOwnS S1 w' u1 F ∧ KOwnS S2 w' u2 L ∧
      ((∀ g, S0 g → S1 g → False) ∧ (∀ g, S0 g → S2 g → False) ∧ (∀ g, S1 g → S2 g → False)) ∧ (∀ g, S0 g ∨ S1 g ∨ S2 g → w.heap.size ≤ g ∧ g < w'.heap.size) ∧ Below w.heap.size w w' := by
  have HR := hid hr
  have RL := hid hl
  have HX := hid hX
  have HF := hid hF
  have HL := hid hL
  have HT := hid ht
  obtain ⟨v1, v2, rfl, r1, r2⟩ := hr
  have R1 := hid r1
  have R2 := hid r2
  obtain ⟨a1, p1, rfl, _, _⟩ := r1
  obtain ⟨a2, p2, rfl, _, _⟩ := r2
  obtain ⟨al, pl, rfl, _, _⟩ := hl
  obtain ⟨z, hz⟩ : ∃ z, z = D.f0 := ⟨_, rfl⟩
  have HZ := hid hz
  rw [← hz] at HR ⊢
  obtain ⟨t1, e1⟩ : ∃ b, goodSd D = b := ⟨_, rfl⟩
  have E1 := hid e1
  obtain ⟨PA, BA, hsA⟩ := box_three (w := w) (.int .i64 z) (.slice a1 D.f1.length p1) (.slice a2 D.f2.length p2) 49
  obtain ⟨W0, hW0⟩ : ∃ W, W = w.alloc (.cells #[.int .i64 z, .slice a1 D.f1.length p1, .slice a2 D.f2.length p2] 49) := ⟨_, rfl⟩
  rw [← hW0] at PA BA hsA
  obtain ⟨PR, BR, hsR⟩ := box_three (w := W0) (.int .i64 0) (.slice none 0 0) (.slice none 0 0) 49
  obtain ⟨W1, hW1⟩ : ∃ W, W = W0.alloc (.cells #[.int .i64 0, .slice none 0 0, .slice none 0 0] 49) := ⟨_, rfl⟩
  rw [← hW1] at PR BR hsR
  rw [hsA] at PR hsR
  have PA := hid (PA.below BR PA.lt)
  have PR := hid PR
  have B := hid (BA.trans (BR.mono (by omega)))
  rw [hW0] at hW1
  have HW := hid hW1
  obtain ⟨q0, q1, q2⟩ := PA.out.three
  rw [HW.out] at q0 q1 q2
  clear hz BA BR hW0 hW1 hsA hX hF hL ht e1
  go_enter Try.func31, Try.ntmps31
  go_wp2_with fail
  rw [← HW.out]
  clear HW q0 q1 q2
  refine (igoodSd_eq _ D t1 E1.out _ (HR.out.below B.out)).mono ?_
  rintro e w1 ⟨rfl, b1⟩
  have hs1 := b1.size
  replace B := hid (B.out.trans (b1.mono B.out.size))
  replace PA := hid (PA.out.below b1 PA.out.lt)
  replace PR := hid (PR.out.below b1 PR.out.lt)
  clear b1
  have LEAF : Hid (t = false → X = ⟨0, [], []⟩ ∧ F = [] ∧ L = []) := fun h => by
    have h2 := HT.out
    rw [h] at h2
    refine ⟨?_, ?_, ?_⟩
    · rw [← HX.out]; unfold hearSd; rw [h2]; rfl
    · rw [← HF.out]; unfold hearFr; rw [h2]; rfl
    · rw [← HL.out]; unfold hearLa; rw [h2]; rfl
  cases t1
  · have HV : Hid (t = false) := by show _ = _; rw [← HT.out]; unfold hearB; rw [E1.out]; rfl
    have HV2 := hid (LEAF.out HV.out)
    obtain ⟨⟨y0, f0⟩, ⟨y1, f1⟩, y2, f2⟩ := PR.out.form3
    have LF := sd_leaf PR.out B.out (by omega) (sdOwn_bare (Iv (w.heap.size + 2) (w.heap.size + 2)) w1 0) (by omega) (by omega) (by omega)
    have HO := hid LF.1
    have HB := hid LF.2.1
    obtain ⟨t0, t1, t2⟩ := LF.2.2
    clear LF
    go_wp2
    exact bodyPost_ret (v := .tuple #[.agg #[.int .i64 0, .slice none 0 0, .slice none 0 0], .slice none 0 0, .slice none 0 0, .bool false]) (by simp [results, Try.results31, go_sem, t0, t1, t2]) rfl
      ⟨_, _, _, _, fun _ => False, fun _ => False, by rw [HV.out], by rw [HV2.out.1]; exact HO.out, by rw [HV2.out.2.1]; exact ⟨0, 0, kown_nil _ _ _ _ _, fun g _ h => absurd h (by omega)⟩, by rw [HV2.out.2.2]; exact ⟨0, 0, kown_nil _ _ _ _ _, fun g _ h => absurd h (by omega)⟩, ⟨fun _ _ h => h, fun _ _ h => h, fun _ h _ => h⟩, fun g h => by rcases h with h | h | h; exact h; exact h.elim; exact h.elim, HB.out⟩
  obtain ⟨gb, gr⟩ := goodSd_parts E1.out
  obtain ⟨hz60, hl20, hl60⟩ := goodSd_few E1.out
  rw [← HZ.out] at hz60 gb gr
  obtain ⟨n, hn⟩ : ∃ n : Nat, z = (n : Int) := ⟨z.toNat, by omega⟩
  have hn60 : n ≤ 60 := by omega
  subst hn
  obtain ⟨t2, e2⟩ : ∃ b, belB l (n : Int) = b := ⟨_, rfl⟩
  have E2 := hid e2
  have HGB := hid gb
  have HGR := hid gr
  obtain ⟨q0, q1, q2⟩ := PA.out.three
  clear gb gr hz60 e2
  go_wp2_with fail
  refine (ibel_eq _ l (n : Int) t2 E2.out (by omega) _ (RL.out.below B.out)).mono ?_
  rintro e w2 ⟨rfl, b2⟩
  have hs2 := b2.size
  replace B := hid (B.out.trans (b2.mono B.out.size))
  replace PA := hid (PA.out.below b2 PA.out.lt)
  replace PR := hid (PR.out.below b2 PR.out.lt)
  clear b2 q0 q1 q2
  cases t2
  · skip
    have HV : Hid (t = false) := by show _ = _; rw [← HT.out]; unfold hearB; rw [← HZ.out, E2.out, Bool.false_and, Bool.and_false]
    have HV2 := hid (LEAF.out HV.out)
    obtain ⟨⟨y0, f0⟩, ⟨y1, f1⟩, y2, f2⟩ := PR.out.form3
    have LF := sd_leaf PR.out B.out (by omega) (sdOwn_bare (Iv (w.heap.size + 2) (w.heap.size + 2)) w2 0) (by omega) (by omega) (by omega)
    have HO := hid LF.1
    have HB := hid LF.2.1
    obtain ⟨t0, t1, t2⟩ := LF.2.2
    clear LF
    go_wp2
    exact bodyPost_ret (v := .tuple #[.agg #[.int .i64 0, .slice none 0 0, .slice none 0 0], .slice none 0 0, .slice none 0 0, .bool false]) (by simp [results, Try.results31, go_sem, t0, t1, t2]) rfl
      ⟨_, _, _, _, fun _ => False, fun _ => False, by rw [HV.out], by rw [HV2.out.1]; exact HO.out, by rw [HV2.out.2.1]; exact ⟨0, 0, kown_nil _ _ _ _ _, fun g _ h => absurd h (by omega)⟩, by rw [HV2.out.2.2]; exact ⟨0, 0, kown_nil _ _ _ _ _, fun g _ h => absurd h (by omega)⟩, ⟨fun _ _ h => h, fun _ _ h => h, fun _ h _ => h⟩, fun g h => by rcases h with h | h | h; exact h; exact h.elim; exact h.elim, HB.out⟩
  have ga : goodL D.f1 = true := by have := HGB.out; unfold belB at this; rw [Bool.and_eq_true] at this; exact this.1
  have gl : goodL l = true := by have := E2.out; unfold belB at this; rw [Bool.and_eq_true] at this; exact this.1
  obtain ⟨q0, q1, q2⟩ := PA.out.three
  go_wp2_with fail
  refine (ijoin_good _ _ D.f1 l _ (R1.out.below B.out).s (RL.out.below B.out).s ga gl).mono ?_
  rintro e w3 ⟨vj, rfl, oj, b3⟩
  have hs3 := b3.size
  replace B := hid (B.out.trans (b3.mono B.out.size))
  replace PA := hid (PA.out.below b3 PA.out.lt)
  replace PR := hid (PR.out.below b3 PR.out.lt)
  have OJ0 := hid oj.k
  clear b3 q0 q1 q2 oj
  obtain ⟨aj, nj, pj, rfl⟩ := OJ0.out.sform
  by_cases h20 : (joinL D.f1 l).length ≤ 20
  rotate_left
  · have htb : tellB (joinL D.f1 l) = false := by unfold tellB; simpa using h20
    rw [htb]
    have HV : Hid (t = false) := by show _ = _; rw [← HT.out]; unfold hearB; rw [decide_eq_false h20, Bool.and_false, Bool.and_false]
    have HV2 := hid (LEAF.out HV.out)
    obtain ⟨⟨y0, f0⟩, ⟨y1, f1⟩, y2, f2⟩ := PR.out.form3
    have LF := sd_leaf PR.out B.out (by omega) (sdOwn_bare (Iv (w.heap.size + 2) (w.heap.size + 2)) w3 0) (by omega) (by omega) (by omega)
    have HO := hid LF.1
    have HB := hid LF.2.1
    obtain ⟨t0, t1, t2⟩ := LF.2.2
    clear LF
    go_wp2
    exact bodyPost_ret (v := .tuple #[.agg #[.int .i64 0, .slice none 0 0, .slice none 0 0], .slice none 0 0, .slice none 0 0, .bool false]) (by simp [results, Try.results31, go_sem, t0, t1, t2]) rfl
      ⟨_, _, _, _, fun _ => False, fun _ => False, by rw [HV.out], by rw [HV2.out.1]; exact HO.out, by rw [HV2.out.2.1]; exact ⟨0, 0, kown_nil _ _ _ _ _, fun g _ h => absurd h (by omega)⟩, by rw [HV2.out.2.2]; exact ⟨0, 0, kown_nil _ _ _ _ _, fun g _ h => absurd h (by omega)⟩, ⟨fun _ _ h => h, fun _ _ h => h, fun _ h _ => h⟩, fun g h => by rcases h with h | h | h; exact h; exact h.elim; exact h.elim, HB.out⟩
  have htb : tellB (joinL D.f1 l) = true := by unfold tellB; simpa using h20
  have OJ : Hid (SpOwn w2.heap.size w3.heap.size w3 (.slice aj nj pj) (joinL D.f1 l)) := by
    have := OJ0.out
    unfold tellY at this
    rw [if_pos h20] at this
    exact this
  rw [htb]
  have HBJ : Hid (belB (joinL D.f1 l) (n : Int) = true) := join_bel HGB.out E2.out h20
  have HTT : Hid (t = true) := by show _ = _; rw [← HT.out]; unfold hearB; rw [E1.out, ← HZ.out, E2.out, decide_eq_true h20]; rfl
  have HXX : Hid (X = ⟨(n : Int), joinL D.f1 l, selU (lostF (joinL D.f1 l) D.f2) n⟩) := by show _ = _; rw [← HX.out]; unfold hearSd; rw [HT.out, HTT.out, ← HZ.out]; rfl
  have HFF : Hid (F = selU (freshF (joinL D.f1 l) D.f1) n) := by show _ = _; rw [← HF.out]; unfold hearFr; rw [HT.out, HTT.out, ← HZ.out]; rfl
  have HLL : Hid (L = selU (lateF (joinL D.f1 l) D.f2) n) := by show _ = _; rw [← HL.out]; unfold hearLa; rw [HT.out, HTT.out, ← HZ.out]; rfl
  have HIJ := hid (bel_in HBJ.out ⟨by omega, by omega⟩)
  have HID := hid (bel_in HGB.out ⟨by omega, by omega⟩)
  have HRM : Hid (∀ x ∈ D.f2, 0 ≤ x ∧ x ≤ (n : Int) - 1) := fun x hx => risB_mem HGR.out x hx
  clear htb OJ0 ga gl LEAF
  go_wp2_with fail
  refine (iletters_any _ (joinL D.f1 l) _ OJ.out.reads.s (by omega) HIJ.out).mono ?_
  rintro e w4 ⟨rfl, ⟨m4, hm4, s4⟩, b4⟩
  have hs4 := b4.size
  replace B := hid (B.out.trans (b4.mono B.out.size))
  replace PA := hid (PA.out.below b4 PA.out.lt)
  replace PR := hid (PR.out.below b4 PR.out.lt)
  replace OJ := hid (OJ.out.below b4)
  have SH := hid s4
  have hh4 := s4.lt
  clear s4 b4
  have hm4' : m4 ≤ 1200 := by omega
  obtain ⟨q0, q1, q2⟩ := PA.out.three
  go_wp2_with fail
  refine (iletters_any _ D.f1 _ (R1.out.below B.out).s (by omega) HID.out).mono ?_
  rintro e w5 ⟨rfl, ⟨m5, hm5, s5⟩, b5⟩
  have hs5 := b5.size
  replace B := hid (B.out.trans (b5.mono B.out.size))
  replace PA := hid (PA.out.below b5 PA.out.lt)
  replace PR := hid (PR.out.below b5 PR.out.lt)
  replace OJ := hid (OJ.out.below b5)
  replace SH := hid (SH.out.below b5)
  clear b5 q0 q1 q2
  go_wp2_with fail
  refine (iwithout_any _ _ m4 m5 _ _ _ SH.out s5 (by omega)).mono ?_
  rintro e w6 ⟨rfl, s6, b6⟩
  have hs6 := b6.size
  replace B := hid (B.out.trans (b6.mono B.out.size))
  replace PA := hid (PA.out.below b6 PA.out.lt)
  replace PR := hid (PR.out.below b6 PR.out.lt)
  replace OJ := hid (OJ.out.below b6)
  replace SH := hid (SH.out.below b6)
  have SF := hid s6
  have hh6 := s6.lt
  clear s5 s6 b6
  obtain ⟨q0, q1, q2⟩ := PA.out.three
  go_wp2_with fail
  refine (isetof_any _ D.f2 _ (R2.out.below B.out) (fun x hx => by have := HRM.out x hx; exact inW_small (by omega) (by omega)) (by omega)).mono ?_
  rintro e w7 ⟨rfl, s7, b7⟩
  have hs7 := b7.size
  replace B := hid (B.out.trans (b7.mono B.out.size))
  replace PA := hid (PA.out.below b7 PA.out.lt)
  replace PR := hid (PR.out.below b7 PR.out.lt)
  replace OJ := hid (OJ.out.below b7)
  replace SH := hid (SH.out.below b7)
  replace SF := hid (SF.out.below b7)
  have S7 := hid s7
  clear s7 b7 q0 q1 q2
  go_wp2_with fail
  refine (iwithout_any _ _ D.f2.length m4 _ _ _ S7.out SH.out (by omega)).mono ?_
  rintro e w8 ⟨rfl, s8, b8⟩
  have hs8 := b8.size
  replace B := hid (B.out.trans (b8.mono B.out.size))
  replace PA := hid (PA.out.below b8 PA.out.lt)
  replace PR := hid (PR.out.below b8 PR.out.lt)
  replace OJ := hid (OJ.out.below b8)
  replace SH := hid (SH.out.below b8)
  replace SF := hid (SF.out.below b8)
  have SL := hid s8
  have hh8 := s8.lt
  clear s8 b8 S7
  have hE : 0 ≤ endN (joinL D.f1 l) ∧ endN (joinL D.f1 l) ≤ 60 := by
    unfold endN
    by_cases h0 : (joinL D.f1 l).length = 0
    · rw [decide_eq_true h0]; exact ⟨by show (0 : Int) ≤ 0; omega, by show (0 : Int) ≤ 60; omega⟩
    · rw [decide_eq_false h0]
      have hc : chainB (-1) (joinL D.f1 l) = true := by have := HBJ.out; unfold belB at this; rw [Bool.and_eq_true] at this; exact good_chain this.1
      have := bel_has HBJ.out (chain_last hc h0)
      show 0 ≤ lastTo (joinL D.f1 l) ∧ lastTo (joinL D.f1 l) ≤ 60
      omega
  obtain ⟨m, hm⟩ : ∃ m : Nat, max (endN (joinL D.f1 l) - 3) 0 = (m : Int) := ⟨(max (endN (joinL D.f1 l) - 3) 0).toNat, by omega⟩
  have hm60 : m ≤ 60 := by omega
  have HMX := hid hm
  have HEN : Hid (0 ≤ endN (joinL D.f1 l) ∧ endN (joinL D.f1 l) ≤ 1000000) := ⟨hE.1, by omega⟩
  clear hm hE
  go_wp2_with fail
  refine (iover_eq _ (joinL D.f1 l) m HMX.out HEN.out _ OJ.out.reads).mono ?_
  rintro e w' ⟨rfl, hw⟩; obtain rfl := hw.symm
  go_wp2_with fail
  refine (iopenB_any m w3.heap.size w7.heap.size _ _ _ _ _ hm60 SH.out SL.out).mono ?_
  rintro e w9 ⟨d9, rfl, s9, hd9, b9⟩
  have hs9 := b9.size
  replace B := hid (B.out.trans (b9.mono B.out.size))
  replace PA := hid (PA.out.below b9 PA.out.lt)
  replace PR := hid (PR.out.below b9 PR.out.lt)
  replace OJ := hid (OJ.out.below b9)
  replace SF := hid (SF.out.below b9)
  replace SL := hid (SL.out.below b9)
  have S9 := hid s9
  clear s9 b9 SH
  go_wp2_with fail
  refine (iinorderW_any d9 m _ _ S9.out (by omega)).mono ?_
  rintro e w10 ⟨vt, rfl, ys, ot, hlt, hmem, hlen, hin, b10⟩
  obtain rfl : ys = selU (lateF (joinL D.f1 l) D.f2) n := sel_of_set hlt hmem (fun x => late_set HBJ.out HMX.out x)
  have hs10 := b10.size
  replace B := hid (B.out.trans (b10.mono B.out.size))
  replace PA := hid (PA.out.below b10 PA.out.lt)
  replace PR := hid (PR.out.below b10 PR.out.lt)
  replace OJ := hid (OJ.out.below b10)
  replace SF := hid (SF.out.below b10)
  replace SL := hid (SL.out.below b10)
  have OT := hid ot
  have HIN := hid hin
  have hlen60 : (selU (lateF (joinL D.f1 l) D.f2) n).length ≤ 60 := by omega
  clear b10 ot hlt hmem hlen hin S9
  obtain ⟨at', nt, pt, rfl⟩ := OT.out.sform
  go_wp2_with fail
  refine (iputs_any w7.heap.size D.f2.length _ _ (selU (lateF (joinL D.f1 l) D.f2) n) _ SL.out OT.out.reads HIN.out (by omega)).mono ?_
  rintro e w11 ⟨rfl, s11, g11⟩
  have hs11 := g11.size
  replace B : Hid (Below w.heap.size w w11) := B.out.grown g11 B.out.size (fun k e => by cases e; omega)
  replace PA := hid (PA.out.of_block (g11.block _ PA.out.lt (by simp; omega)))
  replace PR := hid (PR.out.of_block (g11.block _ PR.out.lt (by simp; omega)))
  replace OJ := hid (OJ.out.at (w' := w11) fun k h1 h2 h3 => g11.block k h3 (by simp; omega))
  replace SF := hid (SF.out.grown g11 (by omega))
  replace OT := hid (OT.out.at (w' := w11) fun k h1 h2 h3 => g11.block k h3 (by simp; omega))
  replace SL : Hid (MSet w11 w7.heap.size (D.f2.length + (selU (lateF (joinL D.f1 l) D.f2) n).length) (fun x => upTo n x && lostF (joinL D.f1 l) D.f2 x)) := s11.congr fun x => lost_set HRM.out x
  clear s11 g11 HIN
  obtain ⟨q0, q1, q2⟩ := PA.out.three
  go_wp2_with fail
  refine wp_region_any (by kernel_rfl) ?_
  change wpAny _ _ _ _ _ _ _ (World.drew _)
  obtain ⟨W2, hW2⟩ : ∃ X, X = World.drew w11 := ⟨_, rfl⟩
  replace PA : Hid (BoxL W2 w.heap.size [.int .i64 (n : Nat), .slice a1 D.f1.length p1, .slice a2 D.f2.length p2]) := by rw [hW2]; exact PA.out
  replace PR : Hid (BoxL W2 (w.heap.size + 1) [.int .i64 0, .slice none 0 0, .slice none 0 0]) := by rw [hW2]; exact PR.out
  replace B : Hid (Below w.heap.size w W2) := by rw [hW2]; exact B.out.drew
  replace OJ : Hid (SpOwn w2.heap.size w3.heap.size W2 (.slice aj nj pj) (joinL D.f1 l)) := by rw [hW2]; exact OJ.out
  replace OT : Hid (KOwn w9.heap.size w10.heap.size W2 (.slice at' nt pt) (selU (lateF (joinL D.f1 l) D.f2) n)) := by rw [hW2]; exact OT.out
  replace SF := hid (show MSet W2 w5.heap.size m4 (fun x => hasL (joinL D.f1 l) x && !hasL D.f1 x) by rw [hW2]; exact SF.out)
  replace SL := hid (show MSet W2 w7.heap.size (D.f2.length + (selU (lateF (joinL D.f1 l) D.f2) n).length) (fun x => upTo n x && lostF (joinL D.f1 l) D.f2 x) by rw [hW2]; exact SL.out)
  have hsW : w11.heap.size = W2.heap.size := by rw [hW2]; rfl
  rw [hsW] at hs11
  have hs0 : w.heap.size + 2 ≤ w1.heap.size := by omega
  rw [← hW2]
  clear hW2 q0 q1 q2 hsW
  refine wpAny_facts2' 2 (Array.replicate 13 false) #[true, true, true, true, true, true, true, true, true, true, true, false, false] [0, 1, 2, 3, 4, 5, 6, 7, 8, 9, 10] 9 (w.heap.size + 1) (fun σ => #[.agg #[.int .i64 (n : Nat), .slice a1 D.f1.length p1, .slice a2 D.f2.length p2], .slice al l.length pl, .pointer (some ⟨w.heap.size, 0, none⟩), undef, .pointer (some ⟨w.heap.size + 1, 0, none⟩), σ 10, .slice none 0 0, .bool false, .slice aj nj pj, .bool true, .map (some w3.heap.size), .map (some w5.heap.size), .map (some w7.heap.size), .slice at' nt pt, .agg #[.int .i64 (n : Nat), .slice a1 D.f1.length p1, .slice a2 D.f2.length p2], .bool true, .bool false, .bool false, .slice al l.length pl, .pointer (some ⟨w.heap.size, 0, none⟩), .int .i64 (n : Nat), .bool true, .bool false, .bool false, undef, .tuple #[.slice aj nj pj, .bool true], .pointer (some ⟨w.heap.size, 1, none⟩), .slice a1 D.f1.length p1, .slice al l.length pl, .tuple #[.slice aj nj pj, .bool true], .slice aj nj pj, .bool true, .bool true, .bool false, undef, .slice aj nj pj, .map (some w3.heap.size), .map (some w3.heap.size), .pointer (some ⟨w.heap.size, 1, none⟩), .slice a1 D.f1.length p1, .map (some w4.heap.size), .map (some w5.heap.size), .pointer (some ⟨w.heap.size, 2, none⟩), .slice a2 D.f2.length p2, .map (some w6.heap.size), .map (some w3.heap.size), .map (some w7.heap.size), .slice aj nj pj, .int .i64 (m : Nat), .map (some w3.heap.size), .map (some w7.heap.size), .map (some d9), .slice at' nt pt, .map (some w7.heap.size), .slice at' nt pt, .tuple #[], σ 0, σ 1, σ 2, σ 3, σ 4, σ 5, σ 6, σ 7, σ 8]) (hrF w.heap.size (w.heap.size + 1) w7.heap.size w5.heap.size (.slice aj nj pj) (.slice at' nt pt) (selU (lostF (joinL D.f1 l) D.f2) n) (selU (freshF (joinL D.f1 l) D.f1) n) (n : Int)) (fun i => if i = 10 then .slice none 0 0 else undef) rfl (by kernel_rfl) (by kernel_rfl) (by kernel_rfl) (by kernel_rfl) (by decide) rfl hrF_keep hrF_keep2 (fun j hj i hi σ c w v r hne hd h => hrF_loc hj hne ⟨fun e => by subst e; exact ⟨(hd 1 (by decide)).symm, (hd 2 (by decide)).symm, (hd 4 (by decide)).symm⟩, fun e => by subst e; exact (hd 4 (by decide)).symm, fun e => by subst e; exact (hd 7 (by decide)).symm⟩ h) ?_ ?_ ?_
  · intro σ c wr' hb hf hin hdj
    have e0 : hrF _ _ _ _ _ _ _ _ _ 0 σ c wr' := hf 0 (by decide)
    have e1 : hrF _ _ _ _ _ _ _ _ _ 1 σ c wr' := hf 1 (by decide)
    have e2 : hrF _ _ _ _ _ _ _ _ _ 2 σ c wr' := hf 2 (by decide)
    have e3 : hrF _ _ _ _ _ _ _ _ _ 3 σ c wr' := hf 3 (by decide)
    have e5 : hrF _ _ _ _ _ _ _ _ _ 5 σ c wr' := hf 5 (by decide)
    have e6 : hrF _ _ _ _ _ _ _ _ _ 6 σ c wr' := hf 6 (by decide)
    have e8 : hrF _ _ _ _ _ _ _ _ _ 8 σ c wr' := hf 8 (by decide)
    obtain ⟨g4, k4, a4, m4', q4, e4⟩ : hrF _ _ _ _ _ _ _ _ _ 4 σ c wr' := hf 4 (by decide)
    obtain ⟨g7, k7, a7, m7, q7, e7⟩ : hrF _ _ _ _ _ _ _ _ _ 7 σ c wr' := hf 7 (by decide)
    have e9 : hrF _ _ _ _ _ _ _ _ _ 9 σ c wr' := hf 9 (by decide)
    have e10 : hrF _ _ _ _ _ _ _ _ _ 10 σ c wr' := hf 10 (by decide)
    simp only [hrF] at e0 e1 e2 e3 e5 e6 e8 e9 e10
    rw [e7] at e10
    rw [e4] at e9 k4
    rw [e7] at k7
    rw [e1, e2, e4] at e5
    have n4 := hin 4 (by decide)
    have n7 := hin 7 (by decide)
    have d47 := hdj 4 (by decide) 7 (by decide) (by decide)
    clear hf hin hdj
    try dsimp only
    rw [e0, e1, e2, e3, e4, e5, e6, e7, e8, e10]
    have HBB : Hid (Below w.heap.size w wr') := B.out.grown hb B.out.size (fun k e => by cases e; omega)
    have hsr := hb.size
    have oj := OJ.out.at (w' := wr') fun k h1 h2 h3 => hb.block k h3 (by simp; omega)
    have ot := OT.out.at (w' := wr') fun k h1 h2 h3 => hb.block k h3 (by simp; omega)
    have HO : Hid (SdOwn (fun g => (w2.heap.size ≤ g ∧ g < w3.heap.size) ∨ ((c 4).1 ≤ g ∧ g < (c 4).2)) wr' (.agg #[.int .i64 (n : Nat), .slice aj nj pj, .slice a4 m4' q4]) ⟨(n : Int), joinL D.f1 l, selU (lostF (joinL D.f1 l) D.f2) n⟩) :=
      SdOwn.mk2 (D := ⟨(n : Int), joinL D.f1 l, selU (lostF (joinL D.f1 l) D.f2) n⟩) (c1 := (w2.heap.size, w3.heap.size)) oj k4 hs3 n4.2.1 (fun g h1 h2 => .inl ⟨h1, h2⟩) (fun g h1 h2 => .inr ⟨h1, h2⟩) (.inl (by show w3.heap.size ≤ _; omega))
    have HOF := hid k7.inS
    have HOT := hid ot.inS
    obtain ⟨t0, t1, t2⟩ := e9.three
    have HDJ : Hid (((c 4).2 ≤ (c 7).1 ∨ (c 7).2 ≤ (c 4).1) ∧ W2.heap.size ≤ (c 4).1 ∧ W2.heap.size ≤ (c 7).1 ∧ (c 4).2 ≤ wr'.heap.size ∧ (c 7).2 ≤ wr'.heap.size) := ⟨d47, n4.1, n7.1, n4.2.2, n7.2.2⟩
    clear hb k4 k7 oj ot n4 n7 d47 e0 e1 e2 e3 e4 e5 e6 e7 e8 e9 e10 g4 g7
    refine wpAny_ready (rs := [11]) (by kernel_rfl) (by simp) ?_
    refine AllReady.cons rfl (fun K hK => ?_) AllReady.nil
    go_simp
    refine hK _ _ ?_
    clear hK K
    refine wpAny_ready (rs := [12]) (by kernel_rfl) (by simp) ?_
    refine AllReady.cons rfl (fun K hK => ?_) AllReady.nil
    go_simp
    refine hK _ _ ?_
    clear hK K
    refine wpAny_done (by kernel_rfl) ?_ _
    go_wp2
    refine bodyPost_ret (v := .tuple #[.agg #[.int .i64 (n : Nat), .slice aj nj pj, .slice a4 m4' q4], .slice a7 m7 q7, .slice at' nt pt, .bool true]) (by simp [results, Try.results31, go_sem, t0, t1, t2]) rfl ⟨_, _, _, _, _, _, by rw [HTT.out], by rw [HXX.out]; exact HO.out, by rw [HFF.out]; exact HOF.out, by rw [HLL.out]; exact HOT.out, ⟨?_, ?_, ?_⟩, ?_, HBB.out⟩
    · intro g h1 h2; have := HDJ.out; unfold Iv at h2; omega
    · intro g h1 h2; have := HDJ.out; unfold Iv at h2; omega
    · intro g h1 h2; have := HDJ.out; unfold Iv at h1 h2; omega
    · intro g h; have := HDJ.out; unfold Iv at h; omega
  · intro σ c wr' hb hd
    have f1 : hrF _ _ _ _ _ _ _ _ _ 1 σ c wr' := hd 1 (by decide) (by decide)
    have f2 : hrF _ _ _ _ _ _ _ _ _ 2 σ c wr' := hd 2 (by decide) (by decide)
    obtain ⟨_, k4, a4, m4', q4, f4⟩ : hrF _ _ _ _ _ _ _ _ _ 4 σ c wr' := hd 4 (by decide) (by decide)
    have f5 : hrF _ _ _ _ _ _ _ _ _ 5 σ c wr' := hd 5 (by decide) (by decide)
    simp only [hrF] at f1 f2 f5
    rw [f1, f2, f4] at f5
    clear hd
    have PR2 := PR.out.below hb PR.out.lt
    obtain ⟨⟨y0, g0⟩, ⟨y1, g1⟩, y2, g2⟩ := PR2.form3
    refine StepG.of (a1 := ⟨#[.agg #[.int .i64 (n : Nat), .slice a1 D.f1.length p1, .slice a2 D.f2.length p2], .slice al l.length pl, .pointer (some ⟨w.heap.size, 0, none⟩), undef, .pointer (some ⟨w.heap.size + 1, 0, none⟩), σ 10, .slice none 0 0, .bool false, .slice aj nj pj, .bool true, .map (some w3.heap.size), .map (some w5.heap.size), .map (some w7.heap.size), .slice at' nt pt, .agg #[.int .i64 (n : Nat), .slice a1 D.f1.length p1, .slice a2 D.f2.length p2], .bool true, .bool false, .bool false, .slice al l.length pl, .pointer (some ⟨w.heap.size, 0, none⟩), .int .i64 (n : Nat), .bool true, .bool false, .bool false, undef, .tuple #[.slice aj nj pj, .bool true], .pointer (some ⟨w.heap.size, 1, none⟩), .slice a1 D.f1.length p1, .slice al l.length pl, .tuple #[.slice aj nj pj, .bool true], .slice aj nj pj, .bool true, .bool true, .bool false, undef, .slice aj nj pj, .map (some w3.heap.size), .map (some w3.heap.size), .pointer (some ⟨w.heap.size, 1, none⟩), .slice a1 D.f1.length p1, .map (some w4.heap.size), .map (some w5.heap.size), .pointer (some ⟨w.heap.size, 2, none⟩), .slice a2 D.f2.length p2, .map (some w6.heap.size), .map (some w3.heap.size), .map (some w7.heap.size), .slice aj nj pj, .int .i64 (m : Nat), .map (some w3.heap.size), .map (some w7.heap.size), .map (some d9), .slice at' nt pt, .map (some w7.heap.size), .slice at' nt pt, .tuple #[], σ 0, (.int .i64 (n : Nat)), (.slice aj nj pj), σ 3, (.slice a4 m4' q4), (.agg #[.int .i64 (n : Nat), .slice aj nj pj, .slice a4 m4' q4]), σ 6, σ 7, σ 8], []⟩) (by simp only [f1, f2, f4, f5]) rfl (fun _ => rfl) (fun K hK => ?_)
    go_simp
    refine hK undef _ ?_ ?_
    · have o := three_only wr' (w.heap.size + 1) (.int .i64 (n : Nat)) (.slice aj nj pj) (.slice a4 m4' q4)
      exact ⟨rfl, rfl, rfl, by rw [o.1]; exact Nat.le_refl _, fun i _ hne => o.2.1 i (by simpa using hne)⟩
    · show BoxL _ _ [.int .i64 (n : Nat), .slice aj nj pj, σ 4]
      rw [f4]
      exact three_put PR2 _ _ _
  · intro i hi hne σ c wr' hb hd
    simp only [List.mem_cons, List.not_mem_nil, or_false] at hi; rcases hi with rfl | rfl | rfl | rfl | rfl | rfl | rfl | rfl | rfl | rfl | rfl
    · skip
      clear hd
      refine StepF.of (a1 := ⟨#[.agg #[.int .i64 (n : Nat), .slice a1 D.f1.length p1, .slice a2 D.f2.length p2], .slice al l.length pl, .pointer (some ⟨w.heap.size, 0, none⟩), undef, .pointer (some ⟨w.heap.size + 1, 0, none⟩), σ 10, .slice none 0 0, .bool false, .slice aj nj pj, .bool true, .map (some w3.heap.size), .map (some w5.heap.size), .map (some w7.heap.size), .slice at' nt pt, .agg #[.int .i64 (n : Nat), .slice a1 D.f1.length p1, .slice a2 D.f2.length p2], .bool true, .bool false, .bool false, .slice al l.length pl, .pointer (some ⟨w.heap.size, 0, none⟩), .int .i64 (n : Nat), .bool true, .bool false, .bool false, undef, .tuple #[.slice aj nj pj, .bool true], .pointer (some ⟨w.heap.size, 1, none⟩), .slice a1 D.f1.length p1, .slice al l.length pl, .tuple #[.slice aj nj pj, .bool true], .slice aj nj pj, .bool true, .bool true, .bool false, undef, .slice aj nj pj, .map (some w3.heap.size), .map (some w3.heap.size), .pointer (some ⟨w.heap.size, 1, none⟩), .slice a1 D.f1.length p1, .map (some w4.heap.size), .map (some w5.heap.size), .pointer (some ⟨w.heap.size, 2, none⟩), .slice a2 D.f2.length p2, .map (some w6.heap.size), .map (some w3.heap.size), .map (some w7.heap.size), .slice aj nj pj, .int .i64 (m : Nat), .map (some w3.heap.size), .map (some w7.heap.size), .map (some d9), .slice at' nt pt, .map (some w7.heap.size), .slice at' nt pt, .tuple #[], σ 0, σ 1, σ 2, σ 3, σ 4, σ 5, σ 6, σ 7, σ 8], []⟩) rfl rfl (fun _ => rfl) (fun K hK => ?_)
      go_simp
      exact hK _ _ (Below.refl _ _) rfl
    · skip
      have f0 : hrF _ _ _ _ _ _ _ _ _ 0 σ c wr' := hd 0 (by decide) (by decide)
      simp only [hrF] at f0
      clear hd
      refine StepF.of (a1 := ⟨#[.agg #[.int .i64 (n : Nat), .slice a1 D.f1.length p1, .slice a2 D.f2.length p2], .slice al l.length pl, .pointer (some ⟨w.heap.size, 0, none⟩), undef, .pointer (some ⟨w.heap.size + 1, 0, none⟩), σ 10, .slice none 0 0, .bool false, .slice aj nj pj, .bool true, .map (some w3.heap.size), .map (some w5.heap.size), .map (some w7.heap.size), .slice at' nt pt, .agg #[.int .i64 (n : Nat), .slice a1 D.f1.length p1, .slice a2 D.f2.length p2], .bool true, .bool false, .bool false, .slice al l.length pl, .pointer (some ⟨w.heap.size, 0, none⟩), .int .i64 (n : Nat), .bool true, .bool false, .bool false, undef, .tuple #[.slice aj nj pj, .bool true], .pointer (some ⟨w.heap.size, 1, none⟩), .slice a1 D.f1.length p1, .slice al l.length pl, .tuple #[.slice aj nj pj, .bool true], .slice aj nj pj, .bool true, .bool true, .bool false, undef, .slice aj nj pj, .map (some w3.heap.size), .map (some w3.heap.size), .pointer (some ⟨w.heap.size, 1, none⟩), .slice a1 D.f1.length p1, .map (some w4.heap.size), .map (some w5.heap.size), .pointer (some ⟨w.heap.size, 2, none⟩), .slice a2 D.f2.length p2, .map (some w6.heap.size), .map (some w3.heap.size), .map (some w7.heap.size), .slice aj nj pj, .int .i64 (m : Nat), .map (some w3.heap.size), .map (some w7.heap.size), .map (some d9), .slice at' nt pt, .map (some w7.heap.size), .slice at' nt pt, .tuple #[], (.pointer (some ⟨w.heap.size, 0, none⟩)), σ 1, σ 2, σ 3, σ 4, σ 5, σ 6, σ 7, σ 8], []⟩) (by simp only [f0]) rfl (fun _ => rfl) (fun K hK => ?_)
      obtain ⟨c0, c1, c2⟩ := (PA.out.of_block (hb.block _ PA.out.lt (by simp))).three
      go_simp
      exact hK _ _ (Below.refl _ _) rfl
    · skip
      clear hd
      refine StepF.of (a1 := ⟨#[.agg #[.int .i64 (n : Nat), .slice a1 D.f1.length p1, .slice a2 D.f2.length p2], .slice al l.length pl, .pointer (some ⟨w.heap.size, 0, none⟩), undef, .pointer (some ⟨w.heap.size + 1, 0, none⟩), σ 10, .slice none 0 0, .bool false, .slice aj nj pj, .bool true, .map (some w3.heap.size), .map (some w5.heap.size), .map (some w7.heap.size), .slice at' nt pt, .agg #[.int .i64 (n : Nat), .slice a1 D.f1.length p1, .slice a2 D.f2.length p2], .bool true, .bool false, .bool false, .slice al l.length pl, .pointer (some ⟨w.heap.size, 0, none⟩), .int .i64 (n : Nat), .bool true, .bool false, .bool false, undef, .tuple #[.slice aj nj pj, .bool true], .pointer (some ⟨w.heap.size, 1, none⟩), .slice a1 D.f1.length p1, .slice al l.length pl, .tuple #[.slice aj nj pj, .bool true], .slice aj nj pj, .bool true, .bool true, .bool false, undef, .slice aj nj pj, .map (some w3.heap.size), .map (some w3.heap.size), .pointer (some ⟨w.heap.size, 1, none⟩), .slice a1 D.f1.length p1, .map (some w4.heap.size), .map (some w5.heap.size), .pointer (some ⟨w.heap.size, 2, none⟩), .slice a2 D.f2.length p2, .map (some w6.heap.size), .map (some w3.heap.size), .map (some w7.heap.size), .slice aj nj pj, .int .i64 (m : Nat), .map (some w3.heap.size), .map (some w7.heap.size), .map (some d9), .slice at' nt pt, .map (some w7.heap.size), .slice at' nt pt, .tuple #[], σ 0, σ 1, σ 2, σ 3, σ 4, σ 5, σ 6, σ 7, σ 8], []⟩) rfl rfl (fun _ => rfl) (fun K hK => ?_)
      go_simp
      exact hK _ _ (Below.refl _ _) rfl
    · skip
      clear hd
      refine StepF.of (a1 := ⟨#[.agg #[.int .i64 (n : Nat), .slice a1 D.f1.length p1, .slice a2 D.f2.length p2], .slice al l.length pl, .pointer (some ⟨w.heap.size, 0, none⟩), undef, .pointer (some ⟨w.heap.size + 1, 0, none⟩), σ 10, .slice none 0 0, .bool false, .slice aj nj pj, .bool true, .map (some w3.heap.size), .map (some w5.heap.size), .map (some w7.heap.size), .slice at' nt pt, .agg #[.int .i64 (n : Nat), .slice a1 D.f1.length p1, .slice a2 D.f2.length p2], .bool true, .bool false, .bool false, .slice al l.length pl, .pointer (some ⟨w.heap.size, 0, none⟩), .int .i64 (n : Nat), .bool true, .bool false, .bool false, undef, .tuple #[.slice aj nj pj, .bool true], .pointer (some ⟨w.heap.size, 1, none⟩), .slice a1 D.f1.length p1, .slice al l.length pl, .tuple #[.slice aj nj pj, .bool true], .slice aj nj pj, .bool true, .bool true, .bool false, undef, .slice aj nj pj, .map (some w3.heap.size), .map (some w3.heap.size), .pointer (some ⟨w.heap.size, 1, none⟩), .slice a1 D.f1.length p1, .map (some w4.heap.size), .map (some w5.heap.size), .pointer (some ⟨w.heap.size, 2, none⟩), .slice a2 D.f2.length p2, .map (some w6.heap.size), .map (some w3.heap.size), .map (some w7.heap.size), .slice aj nj pj, .int .i64 (m : Nat), .map (some w3.heap.size), .map (some w7.heap.size), .map (some d9), .slice at' nt pt, .map (some w7.heap.size), .slice at' nt pt, .tuple #[], σ 0, σ 1, σ 2, σ 3, σ 4, σ 5, σ 6, σ 7, σ 8], []⟩) rfl rfl (fun _ => rfl) (fun K hK => ?_)
      go_simp
      exact hK _ _ (Below.refl _ _) rfl
    · skip
      have f3 : hrF _ _ _ _ _ _ _ _ _ 3 σ c wr' := hd 3 (by decide) (by decide)
      simp only [hrF] at f3
      clear hd
      refine StepF.of (a1 := ⟨#[.agg #[.int .i64 (n : Nat), .slice a1 D.f1.length p1, .slice a2 D.f2.length p2], .slice al l.length pl, .pointer (some ⟨w.heap.size, 0, none⟩), undef, .pointer (some ⟨w.heap.size + 1, 0, none⟩), σ 10, .slice none 0 0, .bool false, .slice aj nj pj, .bool true, .map (some w3.heap.size), .map (some w5.heap.size), .map (some w7.heap.size), .slice at' nt pt, .agg #[.int .i64 (n : Nat), .slice a1 D.f1.length p1, .slice a2 D.f2.length p2], .bool true, .bool false, .bool false, .slice al l.length pl, .pointer (some ⟨w.heap.size, 0, none⟩), .int .i64 (n : Nat), .bool true, .bool false, .bool false, undef, .tuple #[.slice aj nj pj, .bool true], .pointer (some ⟨w.heap.size, 1, none⟩), .slice a1 D.f1.length p1, .slice al l.length pl, .tuple #[.slice aj nj pj, .bool true], .slice aj nj pj, .bool true, .bool true, .bool false, undef, .slice aj nj pj, .map (some w3.heap.size), .map (some w3.heap.size), .pointer (some ⟨w.heap.size, 1, none⟩), .slice a1 D.f1.length p1, .map (some w4.heap.size), .map (some w5.heap.size), .pointer (some ⟨w.heap.size, 2, none⟩), .slice a2 D.f2.length p2, .map (some w6.heap.size), .map (some w3.heap.size), .map (some w7.heap.size), .slice aj nj pj, .int .i64 (m : Nat), .map (some w3.heap.size), .map (some w7.heap.size), .map (some d9), .slice at' nt pt, .map (some w7.heap.size), .slice at' nt pt, .tuple #[], σ 0, σ 1, σ 2, (.map (some w7.heap.size)), σ 4, σ 5, σ 6, σ 7, σ 8], []⟩) (by simp only [f3]) rfl (fun _ => rfl) (fun K hK => ?_)
      go_simp
      refine (iinorderW_any w7.heap.size _ _ _ (SL.out.of_block (hb.block _ SL.out.lt (by simp; omega))) (by omega)).mono ?_
      rintro e w2 ⟨u, rfl, ys, ho, hlt, hmem, _, _, b⟩
      obtain rfl : ys = selU (lostF (joinL D.f1 l) D.f2) n := sel_of_set hlt hmem (fun x => rfl)
      exact hK u w2 b ⟨by show w.heap.size + 1 < wr'.heap.size; have := hb.size; omega, ho, ho.sform⟩
    · skip
      have f1 : hrF _ _ _ _ _ _ _ _ _ 1 σ c wr' := hd 1 (by decide) (by decide)
      simp only [hrF] at f1
      have f2 : hrF _ _ _ _ _ _ _ _ _ 2 σ c wr' := hd 2 (by decide) (by decide)
      simp only [hrF] at f2
      have f4 : hrF _ _ _ _ _ _ _ _ _ 4 σ c wr' := hd 4 (by decide) (by decide)
      obtain ⟨_, k4, a4, m4, q4, f4⟩ := f4
      clear hd
      refine StepF.of (a1 := ⟨#[.agg #[.int .i64 (n : Nat), .slice a1 D.f1.length p1, .slice a2 D.f2.length p2], .slice al l.length pl, .pointer (some ⟨w.heap.size, 0, none⟩), undef, .pointer (some ⟨w.heap.size + 1, 0, none⟩), σ 10, .slice none 0 0, .bool false, .slice aj nj pj, .bool true, .map (some w3.heap.size), .map (some w5.heap.size), .map (some w7.heap.size), .slice at' nt pt, .agg #[.int .i64 (n : Nat), .slice a1 D.f1.length p1, .slice a2 D.f2.length p2], .bool true, .bool false, .bool false, .slice al l.length pl, .pointer (some ⟨w.heap.size, 0, none⟩), .int .i64 (n : Nat), .bool true, .bool false, .bool false, undef, .tuple #[.slice aj nj pj, .bool true], .pointer (some ⟨w.heap.size, 1, none⟩), .slice a1 D.f1.length p1, .slice al l.length pl, .tuple #[.slice aj nj pj, .bool true], .slice aj nj pj, .bool true, .bool true, .bool false, undef, .slice aj nj pj, .map (some w3.heap.size), .map (some w3.heap.size), .pointer (some ⟨w.heap.size, 1, none⟩), .slice a1 D.f1.length p1, .map (some w4.heap.size), .map (some w5.heap.size), .pointer (some ⟨w.heap.size, 2, none⟩), .slice a2 D.f2.length p2, .map (some w6.heap.size), .map (some w3.heap.size), .map (some w7.heap.size), .slice aj nj pj, .int .i64 (m : Nat), .map (some w3.heap.size), .map (some w7.heap.size), .map (some d9), .slice at' nt pt, .map (some w7.heap.size), .slice at' nt pt, .tuple #[], σ 0, (.int .i64 (n : Nat)), (.slice aj nj pj), σ 3, (.slice a4 m4 q4), σ 5, σ 6, σ 7, σ 8], []⟩) (by simp only [f1, f2, f4]) rfl (fun _ => rfl) (fun K hK => ?_)
      go_simp
      exact hK _ _ (Below.refl _ _) (by show _ = Value.agg #[σ 1, σ 2, σ 4]; rw [f1, f2, f4]; rfl)
    · skip
      clear hd
      refine StepF.of (a1 := ⟨#[.agg #[.int .i64 (n : Nat), .slice a1 D.f1.length p1, .slice a2 D.f2.length p2], .slice al l.length pl, .pointer (some ⟨w.heap.size, 0, none⟩), undef, .pointer (some ⟨w.heap.size + 1, 0, none⟩), σ 10, .slice none 0 0, .bool false, .slice aj nj pj, .bool true, .map (some w3.heap.size), .map (some w5.heap.size), .map (some w7.heap.size), .slice at' nt pt, .agg #[.int .i64 (n : Nat), .slice a1 D.f1.length p1, .slice a2 D.f2.length p2], .bool true, .bool false, .bool false, .slice al l.length pl, .pointer (some ⟨w.heap.size, 0, none⟩), .int .i64 (n : Nat), .bool true, .bool false, .bool false, undef, .tuple #[.slice aj nj pj, .bool true], .pointer (some ⟨w.heap.size, 1, none⟩), .slice a1 D.f1.length p1, .slice al l.length pl, .tuple #[.slice aj nj pj, .bool true], .slice aj nj pj, .bool true, .bool true, .bool false, undef, .slice aj nj pj, .map (some w3.heap.size), .map (some w3.heap.size), .pointer (some ⟨w.heap.size, 1, none⟩), .slice a1 D.f1.length p1, .map (some w4.heap.size), .map (some w5.heap.size), .pointer (some ⟨w.heap.size, 2, none⟩), .slice a2 D.f2.length p2, .map (some w6.heap.size), .map (some w3.heap.size), .map (some w7.heap.size), .slice aj nj pj, .int .i64 (m : Nat), .map (some w3.heap.size), .map (some w7.heap.size), .map (some d9), .slice at' nt pt, .map (some w7.heap.size), .slice at' nt pt, .tuple #[], σ 0, σ 1, σ 2, σ 3, σ 4, σ 5, σ 6, σ 7, σ 8], []⟩) rfl rfl (fun _ => rfl) (fun K hK => ?_)
      go_simp
      exact hK _ _ (Below.refl _ _) rfl
    · skip
      have f6 : hrF _ _ _ _ _ _ _ _ _ 6 σ c wr' := hd 6 (by decide) (by decide)
      simp only [hrF] at f6
      clear hd
      refine StepF.of (a1 := ⟨#[.agg #[.int .i64 (n : Nat), .slice a1 D.f1.length p1, .slice a2 D.f2.length p2], .slice al l.length pl, .pointer (some ⟨w.heap.size, 0, none⟩), undef, .pointer (some ⟨w.heap.size + 1, 0, none⟩), σ 10, .slice none 0 0, .bool false, .slice aj nj pj, .bool true, .map (some w3.heap.size), .map (some w5.heap.size), .map (some w7.heap.size), .slice at' nt pt, .agg #[.int .i64 (n : Nat), .slice a1 D.f1.length p1, .slice a2 D.f2.length p2], .bool true, .bool false, .bool false, .slice al l.length pl, .pointer (some ⟨w.heap.size, 0, none⟩), .int .i64 (n : Nat), .bool true, .bool false, .bool false, undef, .tuple #[.slice aj nj pj, .bool true], .pointer (some ⟨w.heap.size, 1, none⟩), .slice a1 D.f1.length p1, .slice al l.length pl, .tuple #[.slice aj nj pj, .bool true], .slice aj nj pj, .bool true, .bool true, .bool false, undef, .slice aj nj pj, .map (some w3.heap.size), .map (some w3.heap.size), .pointer (some ⟨w.heap.size, 1, none⟩), .slice a1 D.f1.length p1, .map (some w4.heap.size), .map (some w5.heap.size), .pointer (some ⟨w.heap.size, 2, none⟩), .slice a2 D.f2.length p2, .map (some w6.heap.size), .map (some w3.heap.size), .map (some w7.heap.size), .slice aj nj pj, .int .i64 (m : Nat), .map (some w3.heap.size), .map (some w7.heap.size), .map (some d9), .slice at' nt pt, .map (some w7.heap.size), .slice at' nt pt, .tuple #[], σ 0, σ 1, σ 2, σ 3, σ 4, σ 5, (.map (some w5.heap.size)), σ 7, σ 8], []⟩) (by simp only [f6]) rfl (fun _ => rfl) (fun K hK => ?_)
      go_simp
      refine (iinorderW_any w5.heap.size _ _ _ (SF.out.of_block (hb.block _ SF.out.lt (by simp; omega))) (by omega)).mono ?_
      rintro e w2 ⟨u, rfl, ys, ho, hlt, hmem, _, _, b⟩
      obtain rfl : ys = selU (freshF (joinL D.f1 l) D.f1) n := sel_of_set hlt hmem (fun x => fresh_set HBJ.out x)
      exact hK u w2 b ⟨by show w.heap.size + 1 < wr'.heap.size; have := hb.size; omega, ho, ho.sform⟩
    · skip
      clear hd
      refine StepF.of (a1 := ⟨#[.agg #[.int .i64 (n : Nat), .slice a1 D.f1.length p1, .slice a2 D.f2.length p2], .slice al l.length pl, .pointer (some ⟨w.heap.size, 0, none⟩), undef, .pointer (some ⟨w.heap.size + 1, 0, none⟩), σ 10, .slice none 0 0, .bool false, .slice aj nj pj, .bool true, .map (some w3.heap.size), .map (some w5.heap.size), .map (some w7.heap.size), .slice at' nt pt, .agg #[.int .i64 (n : Nat), .slice a1 D.f1.length p1, .slice a2 D.f2.length p2], .bool true, .bool false, .bool false, .slice al l.length pl, .pointer (some ⟨w.heap.size, 0, none⟩), .int .i64 (n : Nat), .bool true, .bool false, .bool false, undef, .tuple #[.slice aj nj pj, .bool true], .pointer (some ⟨w.heap.size, 1, none⟩), .slice a1 D.f1.length p1, .slice al l.length pl, .tuple #[.slice aj nj pj, .bool true], .slice aj nj pj, .bool true, .bool true, .bool false, undef, .slice aj nj pj, .map (some w3.heap.size), .map (some w3.heap.size), .pointer (some ⟨w.heap.size, 1, none⟩), .slice a1 D.f1.length p1, .map (some w4.heap.size), .map (some w5.heap.size), .pointer (some ⟨w.heap.size, 2, none⟩), .slice a2 D.f2.length p2, .map (some w6.heap.size), .map (some w3.heap.size), .map (some w7.heap.size), .slice aj nj pj, .int .i64 (m : Nat), .map (some w3.heap.size), .map (some w7.heap.size), .map (some d9), .slice at' nt pt, .map (some w7.heap.size), .slice at' nt pt, .tuple #[], σ 0, σ 1, σ 2, σ 3, σ 4, σ 5, σ 6, σ 7, σ 8], []⟩) rfl rfl (fun _ => rfl) (fun K hK => ?_)
      go_simp
      exact hK _ _ (Below.refl _ _) rfl
    · exact absurd rfl hne
    · skip
      have f7 : hrF _ _ _ _ _ _ _ _ _ 7 σ c wr' := hd 7 (by decide) (by decide)
      obtain ⟨_, k7, a7, m7, q7, f7⟩ := f7
      clear hd
      refine StepF.of (a1 := ⟨#[.agg #[.int .i64 (n : Nat), .slice a1 D.f1.length p1, .slice a2 D.f2.length p2], .slice al l.length pl, .pointer (some ⟨w.heap.size, 0, none⟩), undef, .pointer (some ⟨w.heap.size + 1, 0, none⟩), σ 10, .slice none 0 0, .bool false, .slice aj nj pj, .bool true, .map (some w3.heap.size), .map (some w5.heap.size), .map (some w7.heap.size), .slice at' nt pt, .agg #[.int .i64 (n : Nat), .slice a1 D.f1.length p1, .slice a2 D.f2.length p2], .bool true, .bool false, .bool false, .slice al l.length pl, .pointer (some ⟨w.heap.size, 0, none⟩), .int .i64 (n : Nat), .bool true, .bool false, .bool false, undef, .tuple #[.slice aj nj pj, .bool true], .pointer (some ⟨w.heap.size, 1, none⟩), .slice a1 D.f1.length p1, .slice al l.length pl, .tuple #[.slice aj nj pj, .bool true], .slice aj nj pj, .bool true, .bool true, .bool false, undef, .slice aj nj pj, .map (some w3.heap.size), .map (some w3.heap.size), .pointer (some ⟨w.heap.size, 1, none⟩), .slice a1 D.f1.length p1, .map (some w4.heap.size), .map (some w5.heap.size), .pointer (some ⟨w.heap.size, 2, none⟩), .slice a2 D.f2.length p2, .map (some w6.heap.size), .map (some w3.heap.size), .map (some w7.heap.size), .slice aj nj pj, .int .i64 (m : Nat), .map (some w3.heap.size), .map (some w7.heap.size), .map (some d9), .slice at' nt pt, .map (some w7.heap.size), .slice at' nt pt, .tuple #[], σ 0, σ 1, σ 2, σ 3, σ 4, σ 5, σ 6, (.slice a7 m7 q7), σ 8], []⟩) (by simp only [f7]) rfl (fun _ => rfl) (fun K hK => ?_)
      go_simp
      exact hK _ _ (Below.refl _ _) (by show _ = σ 7; rw [f7]; rfl)
end Go.Proofs.Ytnkpboobfkjibad
