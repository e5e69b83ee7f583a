/-
  Senders in memory of their own, to whose lost ones one may append: plain facts on the memory.
  spec.l1In: whether a number lies between two. Nothing is written.
  spec.NewSender: a sender that has sent so many letters. Nothing old is written.
-/
import Derived.Test.YtijojdempijhbadSdBox
import Derived.Test.YtijojdempijhbadKAppd
import Derived.Test.YtijojdempijhbadInts
namespace Go.Proofs.Ytijojdempijhbad
open Go.RowKit

def SdOwnA (S : Nat → Prop) (w : World) (v : Value) (D : SdD) : Prop := ∃ v1 v2 c1 c2, v = .agg #[.int .i64 D.f0, v1, v2] ∧ Aset S (2) (sdIv c1 c2) ∧ SpOwn c1.1 c1.2 w v1 D.f1 ∧ KOwn c2.1 c2.2 w v2 D.f2 ∧ KApp c2.1 c2.2 w v2 D.f2
theorem SdOwnA.own {S : Nat → Prop} {w : World} {v : Value} {D : SdD} (h : SdOwnA S w v D) : SdOwn S w v D := by
  obtain ⟨v1, v2, c1, c2, rfl, ha, h1, h2, _⟩ := h
  exact ⟨v1, v2, c1, c2, rfl, ha, h1, h2⟩
theorem SdOwnA.mono {S S' : Nat → Prop} {w : World} {v : Value} {D : SdD} (h : SdOwnA S w v D) (hs : ∀ g, S g → S' g) : SdOwnA S' w v D := by
  obtain ⟨v1, v2, c1, c2, rfl, ha, hr⟩ := h
  exact ⟨v1, v2, c1, c2, rfl, ha.mono hs, hr⟩
theorem SdOwnA.at {S : Nat → Prop} {w w' : World} {v : Value} {D : SdD} (h : SdOwnA S w v D) (hk : ∀ g, S g → g < w.heap.size → w'.heap[g]? = w.heap[g]?) : SdOwnA S w' v D := by
  obtain ⟨v1, v2, c1, c2, rfl, ha, h1, h2, h3⟩ := h
  have n1 := ha.inn 0 (by omega)
  have n2 := ha.inn 1 (by omega)
  exact ⟨v1, v2, c1, c2, rfl, ha, h1.at fun g g1 g2 g3 => hk g (n1.2 g g1 g2) g3, h2.at fun g g1 g2 g3 => hk g (n2.2 g g1 g2) g3, h3.at fun g g1 g2 g3 => hk g (n2.2 g g1 g2) g3⟩
theorem SdOwnA.below {S : Nat → Prop} {w w' : World} {v : Value} {D : SdD} (h : SdOwnA S w v D) (hb : Below w.heap.size w w') : SdOwnA S w' v D := h.at fun g _ hg => hb.block g hg
theorem SdOwnA.form {S : Nat → Prop} {w : World} {v : Value} {D : SdD} (h : SdOwnA S w v D) : ∃ a1 n1 k1 a2 n2 k2, v = .agg #[.int .i64 D.f0, .slice a1 n1 k1, .slice a2 n2 k2] := h.own.form
theorem SdOwnA.mk2 {S : Nat → Prop} {w : World} {v1 v2 : Value} {D : SdD} {c1 c2 : Nat × Nat} (h1 : SpOwn c1.1 c1.2 w v1 D.f1) (h2 : KOwn c2.1 c2.2 w v2 D.f2) (h3 : KApp c2.1 c2.2 w v2 D.f2) (l1 : c1.1 ≤ c1.2) (l2 : c2.1 ≤ c2.2) (s1 : ∀ g, c1.1 ≤ g → g < c1.2 → S g) (s2 : ∀ g, c2.1 ≤ g → g < c2.2 → S g) (hd : Dj c1 c2) : SdOwnA S w (.agg #[.int .i64 D.f0, v1, v2]) D := by
  refine ⟨_, _, c1, c2, rfl, ⟨fun i hi => ?_, fun i j hi hj hne => ?_⟩, h1, h2, h3⟩
  · rcases i with _ | _ | i
    · exact ⟨l1, s1⟩
    · exact ⟨l2, s2⟩
    · omega
  · rcases i with _ | _ | i <;> rcases j with _ | _ | j
    · omega
    · exact hd
    · omega
    · exact hd.symm
    · omega
    · omega
    · omega
    · omega
    · omega
theorem sdOwnA_bare (S : Nat → Prop) (w : World) (n : Int) : SdOwnA S w (.agg #[.int .i64 n, .slice none 0 0, .slice none 0 0]) ⟨n, [], []⟩ :=
  SdOwnA.mk2 (D := ⟨n, [], []⟩) (c1 := (0, 0)) (c2 := (0, 0)) (spown_nil _ _ _ _ _) (kown_nil _ _ _ _ _) (.inl ⟨rfl, _, rfl⟩) (Nat.le_refl _) (Nat.le_refl _) (fun g _ h => absurd h (by simp)) (fun g _ h => absurd h (by simp)) (.inl (Nat.le_refl _))
theorem sd_leafA {w V : World} {b lo hi n1 k1 n2 k2 : Nat} {a1 a2 : Option Addr} {z : Int} {X : SdD} {x0 x1 x2 : Value} (PR : BoxL V b [x0, x1, x2]) (B : Below w.heap.size w V) (hb : w.heap.size ≤ b) (O : SdOwnA (Iv lo hi) V (.agg #[.int .i64 z, .slice a1 n1 k1, .slice a2 n2 k2]) X) (hlo : w.heap.size ≤ lo) (hhi : hi ≤ V.heap.size) (hbS : b < lo ∨ hi ≤ b) :
    SdOwnA (Iv w.heap.size (((V.setCell ⟨b, 0, none⟩ (.int .i64 z)).setCell ⟨b, 1, none⟩ (.slice a1 n1 k1)).setCell ⟨b, 2, none⟩ (.slice a2 n2 k2)).heap.size) (((V.setCell ⟨b, 0, none⟩ (.int .i64 z)).setCell ⟨b, 1, none⟩ (.slice a1 n1 k1)).setCell ⟨b, 2, none⟩ (.slice a2 n2 k2)) (.agg #[.int .i64 z, .slice a1 n1 k1, .slice a2 n2 k2]) X ∧ Below w.heap.size w (((V.setCell ⟨b, 0, none⟩ (.int .i64 z)).setCell ⟨b, 1, none⟩ (.slice a1 n1 k1)).setCell ⟨b, 2, none⟩ (.slice a2 n2 k2)) ∧
    ((((V.setCell ⟨b, 0, none⟩ (.int .i64 z)).setCell ⟨b, 1, none⟩ (.slice a1 n1 k1)).setCell ⟨b, 2, none⟩ (.slice a2 n2 k2)).cell? ⟨b, 0, none⟩ = some (.int .i64 z) ∧ (((V.setCell ⟨b, 0, none⟩ (.int .i64 z)).setCell ⟨b, 1, none⟩ (.slice a1 n1 k1)).setCell ⟨b, 2, none⟩ (.slice a2 n2 k2)).cell? ⟨b, 1, none⟩ = some (.slice a1 n1 k1) ∧ (((V.setCell ⟨b, 0, none⟩ (.int .i64 z)).setCell ⟨b, 1, none⟩ (.slice a1 n1 k1)).setCell ⟨b, 2, none⟩ (.slice a2 n2 k2)).cell? ⟨b, 2, none⟩ = some (.slice a2 n2 k2)) := by
  have o := three_only V b (.int .i64 z) (.slice a1 n1 k1) (.slice a2 n2 k2)
  refine ⟨?_, B.trans (three_below V _ _ _ hb), (three_put PR _ _ _).three⟩
  refine (O.at fun g hg _ => o.2.1 g (by rintro rfl; unfold Iv at hg; omega)).mono fun g hg => ?_
  rw [o.1]
  unfold Iv at hg ⊢
  omega
end Go.Proofs.Ytijojdempijhbad
namespace Go.Proofs.Ytijojdempijhbad
open Go.RowKit

theorem l1In_eq (n lo hi : Int) (t : Bool) (h : decide (lo ≤ n ∧ n ≤ hi) = t) (w : World) : Calls Try.prog 108 #[.int .i64 n, .int .i64 lo, .int .i64 hi] w fun e w' => e = .returned (.bool t) ∧ w' = w := by
  by_cases h1 : lo ≤ n
  · by_cases h2 : n ≤ hi
    · have hv : Hid (t = true) := by show _ = _; rw [← h]; simp [h1, h2]
      clear h
      go_enter Try.func108, Try.ntmps108
      go_wp2
      go_ret
      exact ⟨by rw [hv.out]; rfl, rfl⟩
    · have hv : Hid (t = false) := by show _ = _; rw [← h]; simp [h2]
      clear h
      go_enter Try.func108, Try.ntmps108
      go_wp2
      go_ret
      exact ⟨by rw [hv.out]; rfl, rfl⟩
  · have hv : Hid (t = false) := by show _ = _; rw [← h]; simp [h1]
    clear h
    go_enter Try.func108, Try.ntmps108
    go_wp2
    go_ret
    exact ⟨by rw [hv.out]; rfl, rfl⟩
end Go.Proofs.Ytijojdempijhbad
namespace Go.Proofs.Ytijojdempijhbad
open Go.RowKit

set_option maxRecDepth 100000 in
set_option maxHeartbeats 4000000 in
theorem snewSd_app (n : Int) (w : World) (X : SdD) (t : Bool) (hX : newSd n = X) (ht : newSdB n = t) :
    Calls Try.prog 45 #[.int .i64 n] w fun e w' => ∃ u0, e = .returned (.tuple #[u0, .bool t]) ∧ SdOwnA (Iv w.heap.size w'.heap.size) w' u0 X ∧ Below w.heap.size w w' := by
  have HX := hid hX
  have HT := hid ht
  obtain ⟨PR, BR, hsR⟩ := box_three (w := w) (.int .i64 0) (.slice none 0 0) (.slice none 0 0) 49
  obtain ⟨W, hW⟩ : ∃ W, W = w.alloc (.cells #[.int .i64 0, .slice none 0 0, .slice none 0 0] 49) := ⟨_, rfl⟩
  rw [← hW] at PR BR hsR
  have HR := hid PR
  have HB := hid BR
  have HW := hid hW
  clear hX ht PR BR hW
  go_enter Try.func45, Try.ntmps45
  go_wp2_with fail
  rw [← HW.out]
  clear HW
  refine (l1In_eq n 0 60 t HT.out _).mono ?_
  rintro e w' ⟨rfl, hw⟩; obtain rfl := hw.symm
  obtain ⟨⟨y0, f0⟩, ⟨y1, f1⟩, y2, f2⟩ := HR.out.form3
  cases t
  · have HV : Hid (X = ⟨0, [], []⟩) := by show _ = _; rw [← HX.out]; unfold newSd; rw [HT.out]; rfl
    have LF := sd_leafA HR.out HB.out (Nat.le_refl _) (sdOwnA_bare (Iv (w.heap.size + 1) (w.heap.size + 1)) W 0) (by omega) (by omega) (by omega)
    have HO := hid LF.1
    have HBB := hid LF.2.1
    obtain ⟨t0, t1, t2⟩ := LF.2.2
    clear LF
    go_wp2
    exact bodyPost_ret (v := .tuple #[.agg #[.int .i64 0, .slice none 0 0, .slice none 0 0], .bool false]) (by simp [results, Try.results45, go_sem, t0, t1, t2]) rfl ⟨_, rfl, by rw [HV.out]; exact HO.out, HBB.out⟩
  · have HV : Hid (X = ⟨n, [], []⟩) := by show _ = _; rw [← HX.out]; unfold newSd; rw [HT.out]; rfl
    have LF := sd_leafA HR.out HB.out (Nat.le_refl _) (sdOwnA_bare (Iv (w.heap.size + 1) (w.heap.size + 1)) W n) (by omega) (by omega) (by omega)
    have HO := hid LF.1
    have HBB := hid LF.2.1
    obtain ⟨t0, t1, t2⟩ := LF.2.2
    clear LF
    go_wp2
    exact bodyPost_ret (v := .tuple #[.agg #[.int .i64 n, .slice none 0 0, .slice none 0 0], .bool true]) (by simp [results, Try.results45, go_sem, t0, t1, t2]) rfl ⟨_, rfl, by rw [HV.out]; exact HO.out, HBB.out⟩
theorem snewSd_any (n : Int) (w : World) (X : SdD) (t : Bool) (hX : newSd n = X) (ht : newSdB n = t) :
    Calls Try.prog 45 #[.int .i64 n] w fun e w' => ∃ u0, e = .returned (.tuple #[u0, .bool t]) ∧ SdOwn (Iv w.heap.size w'.heap.size) w' u0 X ∧ Below w.heap.size w w' :=
  (snewSd_app n w X t hX ht).mono fun _ _ ⟨u0, e, o, b⟩ => ⟨u0, e, o.own, b⟩
end Go.Proofs.Ytijojdempijhbad
