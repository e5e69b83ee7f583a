/-
  impl.repeated with impl.RoundOf: rounds one behind the other, none of them refused. Nothing old is written.
-/
import Derived.Test.YtepnhbicmlfnhadIRound
namespace Go.Proofs.Ytepnhbicmlfnhad
open Go.RowKit

/-- Blocks ahead of two boxes, or behind them. -/
def Sx (lo b hi : Nat) : Nat → Prop := fun g => (lo ≤ g ∧ g < b) ∨ (b + 2 ≤ g ∧ g < hi)
theorem rnd_good {E : ShD} (h : GoodS E) {t : Bool} (ht : goodS (rndS E) = t) : rndB E = t ∧ rndR E = tellS t (rndS E) ∧ rndH E = (t && overS E) := by
  have a : rndB E = t := by unfold rndB; rw [(goodS_iff E).2 h, ht]; rfl
  refine ⟨a, ?_, ?_⟩
  · unfold rndR; rw [a]
  · unfold rndH; rw [a]
set_option maxRecDepth 100000 in
set_option maxHeartbeats 16000000 in
theorem irepeat_any (a0 : Option Addr) (n0 p0 : Nat) (z : Int) (D : ShD) (m lo : Nat) (w : World) (hO : ShOwn (Iv lo w.heap.size) w (.agg #[.slice a0 n0 p0, .int .i64 z]) D) (hz : z = D.f1) (hg : GoodS D) (hm : m ≤ 40) (hlo : lo ≤ w.heap.size) (X : ShD) (N : Int) (t : Bool)
    (hX : ((bif (rndsS D m).isSome then ((rndsS D m).getD (zeroS, 0)).1 else zeroS) = X)) (hN : ((bif (rndsS D m).isSome then (((rndsS D m).getD (zeroS, 0)).2 : Int) else 0) = N)) (ht : (rndsS D m).isSome = t) :
    Calls Try.prog 48 #[.agg #[.slice a0 n0 p0, .int .i64 z], .int .i64 (m : Nat), .func (.func 23) #[] #[]] w fun e w' => ∃ u0, e = .returned (.tuple #[u0, .int .i64 N, .bool t]) ∧ ShOwn (Iv lo w'.heap.size) w' u0 X ∧ Below w.heap.size w w' := by
  have HG := hid hg
  have HX := hid hX
  have HN := hid hN
  have HT := hid ht
  have HZ := hid hz
  have P := box_two w (.slice a0 n0 p0) (.int .i64 z) (.slice none 0 0) (.int .i64 0) 25
  obtain ⟨W, hW⟩ : ∃ W, W = (w.alloc (.cells #[.slice a0 n0 p0, .int .i64 z] 25)).alloc (.cells #[.slice none 0 0, .int .i64 0] 25) := ⟨_, rfl⟩
  rw [← hW] at P
  have PA := hid P.1
  have PR := hid P.2.1
  have B := hid P.2.2.1
  have hWs := P.2.2.2
  have O0 := hid ((hO.below P.2.2.1).mono (S' := Sx lo w.heap.size W.heap.size) fun g hg => by have : lo ≤ g ∧ g < w.heap.size := hg; unfold Sx; omega)
  have HW := hid hW
  have LEAF : Hid (t = false → X = zeroS ∧ N = 0) := fun h => by
    have h2 := HT.out
    rw [h] at h2
    refine ⟨?_, ?_⟩
    · rw [← HX.out, h2]; rfl
    · rw [← HN.out, h2]; rfl
  clear P hg hX hN ht hW hz hO
  go_enter Try.func48, Try.ntmps48
  go_wp2
  rw [← HW.out]
  clear HW
  go_loopw [9, 15] (fun cv iv wr => ∃ (k n : Nat) (E : ShD) (a : Option Addr) (l q : Nat), iv = .int .i64 (k : Nat) ∧ k ≤ m ∧ cv = .int .i64 (n : Nat) ∧ rndsS D k = some (E, n) ∧ BoxL wr w.heap.size [.slice a l q, .int .i64 E.f1] ∧ ShOwn (Sx lo w.heap.size wr.heap.size) wr (.agg #[.slice a l q, .int .i64 E.f1]) E ∧ (W.heap.size ≤ wr.heap.size ∧ BoxL wr (w.heap.size + 1) [.slice none 0 0, .int .i64 0] ∧ Below w.heap.size w wr)) (fun _ iv _ => m - (intOf iv).toNat)
  case atStart => exact ⟨0, 0, D, a0, n0, p0, rfl, by omega, rfl, rfl, by rw [← HZ.out]; exact PA.out, by rw [← HZ.out]; exact O0.out, Nat.le_refl _, PR.out, B.out⟩
  case round =>
    obtain ⟨k, n, E, a, l, q, rfl, hk, rfl, hE, hb7, hO, hVs, hPR, hBl⟩ := hrel
    have HE := hid hE
    have HB7 := hid hb7
    have HO := hid hO
    have HPR := hid hPR
    have HBL := hid hBl
    clear hE hb7 hO hPR hBl
    have HGE : Hid (GoodS E) := rndsS_good HG.out HE.out
    have hn : n ≤ k := rndsS_le HE.out
    obtain ⟨zE, hzE⟩ : ∃ z, z = E.f1 := ⟨_, rfl⟩
    rw [← hzE] at HB7 HO
    clear hzE PA O0 PR B
    by_cases hj : k < m
    · have hjd : (k : Int) < (m : Int) := by omega
      obtain ⟨q0, q1⟩ := HB7.out.two
      obtain ⟨t2, e2⟩ : ∃ b, goodS (rndS E) = b := ⟨_, rfl⟩
      have ET := hid e2
      obtain ⟨r1, r2, r3⟩ := rnd_good HGE.out e2
      have R1 := hid r1
      have R2 := hid r2
      have R3 := hid r3
      clear e2 r1 r2 r3
      obtain ⟨h1, eh⟩ : ∃ b, (t2 && overS E) = b := ⟨_, rfl⟩
      rw [eh] at R3
      have EH := hid eh
      clear eh
      go_wp2_with fail
      refine (iroundOf_any _ E _ HO.out.reads _ h1 t2 R2.out R3.out R1.out).mono ?_
      rintro e w2 ⟨u0, rfl, o2, b2⟩
      obtain ⟨a2, n2, k2, rfl⟩ := o2.form
      obtain ⟨z2, hz2⟩ : ∃ z2, z2 = (tellS t2 (rndS E)).f1 := ⟨_, rfl⟩
      rw [← hz2] at o2 ⊢
      have HZ2 := hid hz2
      have hs4 := b2.size
      replace HBL := hid (HBL.out.trans (b2.mono HBL.out.size))
      replace HPR := hid (HPR.out.below b2 HPR.out.lt)
      replace HB7 := hid (HB7.out.below b2 HB7.out.lt)
      have O := hid o2
      clear b2 q0 q1 o2 hz2 HO
      obtain ⟨P5, B5, hs5⟩ := box_next (w := w2) (.slice a2 n2 k2) (.int .i64 z2) 25
      obtain ⟨V5, hV5⟩ : ∃ V, V = w2.alloc (.cells #[.slice a2 n2 k2, .int .i64 z2] 25) := ⟨_, rfl⟩
      rw [← hV5] at B5 hs5 P5
      replace HBL := hid (HBL.out.trans (B5.mono HBL.out.size))
      replace HPR := hid (HPR.out.below B5 HPR.out.lt)
      replace HB7 := hid (HB7.out.below B5 HB7.out.lt)
      replace O := hid (O.out.below B5)
      have HP5 := hid P5
      have HV5 := hid hV5
      clear P5 B5 hV5
      cases t2
      · have HNO : Hid (rndsS D (k + 1) = none) := by show _ = _; rw [rndsS_step HE.out, ET.out]; rfl
        have HV : Hid (t = false) := by show _ = _; rw [← HT.out, rndsS_none HNO.out m (by omega)]; rfl
        have HV2 := hid (LEAF.out HV.out)
        obtain ⟨P6, B6, hs6⟩ := box_next (w := V5) (.slice none 0 0) (.int .i64 0) 25
        obtain ⟨V6, hV6⟩ : ∃ V, V = V5.alloc (.cells #[.slice none 0 0, .int .i64 0] 25) := ⟨_, rfl⟩
        rw [← hV6] at P6 B6 hs6
        replace HBL := hid (HBL.out.trans (B6.mono HBL.out.size))
        replace HPR := hid (HPR.out.below B6 HPR.out.lt)
        have LF := sh_leaf (w := w) HPR.out HBL.out (by omega) (shOwn_zero (Iv (w.heap.size + 2) (w.heap.size + 2)) V6) (by omega) (by omega) (by omega)
        have HOO := hid (LF.1.mono (S' := Iv lo _) fun g hg => by have h := hg.1; have h2 := hg.2; exact ⟨by omega, h2⟩)
        have HB := hid LF.2.1
        obtain ⟨t0, t1⟩ := LF.2.2
        obtain ⟨⟨y0, f0⟩, y1, f1⟩ := HPR.out.form2
        obtain ⟨q0, q1⟩ := P6.two
        have HV6 := hid hV6
        rw [hV6, HV5.out] at y0 f0 y1 f1 t0 t1 q0 q1
        clear LF O HP5 HB7 HE P6 B6 hV6
        go_wp2
        rw [← HV5.out, ← HV6.out] at t0 t1 ⊢
        exact bodyPost_ret (v := .tuple #[.agg #[.slice none 0 0, .int .i64 0], .int .i64 0, .bool false]) (by simp [results, Try.results48, go_sem, t0, t1]) rfl ⟨_, by rw [HV.out, HV2.out.2], by rw [HV2.out.1]; exact HOO.out, HB.out⟩
      · have HST : Hid (rndsS D (k + 1) = some (rndS E, n + bitN h1)) := by show _ = _; rw [rndsS_step HE.out, ET.out, ← EH.out]; rfl
        have ON := two_only V5 w.heap.size (.slice a2 n2 k2) (.int .i64 z2)
        have PN := two_put HB7.out (.slice a2 n2 k2) (.int .i64 z2)
        obtain ⟨U, hU⟩ : ∃ U, U = (V5.setCell ⟨w.heap.size, 0, none⟩ (.slice a2 n2 k2)).setCell ⟨w.heap.size, 1, none⟩ (.int .i64 z2) := ⟨_, rfl⟩
        rw [← hU] at ON PN
        have hsU : U.heap.size = V5.heap.size := ON.1
        have HPN := hid PN
        have HON : Hid (ShOwn (Sx lo w.heap.size U.heap.size) U (.agg #[.slice a2 n2 k2, .int .i64 z2]) (rndS E)) := (O.out.at fun g hg _ => ON.2.1 g (by rintro rfl; have : wr.heap.size ≤ w.heap.size ∧ w.heap.size < w2.heap.size := hg; omega)).mono fun g hg => by have : wr.heap.size ≤ g ∧ g < w2.heap.size := hg; unfold Sx; omega
        have HPRN := hid (HPR.out.of_block (ON.2.1 _ (by omega)))
        have HBLN := hid (HBL.out.trans (ON.below fun j e => by omega))
        obtain ⟨q0, q1⟩ := HP5.out.two
        obtain ⟨⟨y0, f0⟩, y1, f1⟩ := HB7.out.form2
        rw [HV5.out] at hU
        have HU := hid hU
        have HZ3 : Hid (z2 = (rndS E).f1) := HZ2.out
        rw [HZ3.out] at HPN HON
        rw [HV5.out] at q0 q1 y0 f0 y1 f1
        clear ON PN hU O HPR HBL HP5 HE
        have hq5 : w2.heap.size < V5.heap.size := by omega
        cases h1
        · go_wp2
          rw [← HU.out]
          go_roundw
          case rel => exact ⟨k + 1, n, rndS E, a2, n2, k2, by go_num, by omega, rfl, HST.out, HPN.out, HON.out, by omega, HPRN.out, HBLN.out⟩
          case measure => simp [intOf]; omega
        · have hw1 : IntKind.i64.wrap ((n : Int) + 1) = ((n + 1 : Nat) : Int) := by rw [IntKind.wrap_i64]; omega
          go_wp2
          rw [← HU.out]
          go_roundw
          case rel => exact ⟨k + 1, n + 1, rndS E, a2, n2, k2, by go_num, by omega, rfl, HST.out, HPN.out, HON.out, by omega, HPRN.out, HBLN.out⟩
          case measure => simp [intOf]; omega
    · obtain rfl : k = m := by omega
      have HV : Hid (t = true) := by show _ = _; rw [← HT.out, HE.out]; rfl
      have HV2 : Hid (X = E) := by show _ = _; rw [← HX.out, HE.out]; rfl
      have HV3 : Hid (N = (n : Int)) := by show _ = _; rw [← HN.out, HE.out]; rfl
      obtain ⟨q0, q1⟩ := HB7.out.two
      obtain ⟨⟨y0, f0⟩, y1, f1⟩ := HPR.out.form2
      have ON := two_only wr (w.heap.size + 1) (.slice a l q) (.int .i64 zE)
      obtain ⟨t0, t1⟩ := (two_put HPR.out (.slice a l q) (.int .i64 zE)).two
      have HB := hid (HBL.out.trans (ON.below fun j e => by omega))
      have HOO : Hid (ShOwn (Iv lo ((wr.setCell ⟨w.heap.size + 1, 0, none⟩ (.slice a l q)).setCell ⟨w.heap.size + 1, 1, none⟩ (.int .i64 zE)).heap.size) ((wr.setCell ⟨w.heap.size + 1, 0, none⟩ (.slice a l q)).setCell ⟨w.heap.size + 1, 1, none⟩ (.int .i64 zE)) (.agg #[.slice a l q, .int .i64 zE]) E) := by
        rw [ON.1]
        exact (HO.out.at fun g hg _ => ON.2.1 g (by rintro rfl; unfold Sx at hg; omega)).mono fun g hg => by unfold Sx at hg; show _ ∧ _; omega
      clear ON HO HE HB7 HPR HBL
      go_wp2
      exact bodyPost_ret (v := .tuple #[.agg #[.slice a l q, .int .i64 zE], .int .i64 (n : Nat), .bool true]) (by simp [results, Try.results48, go_sem, t0, t1]) rfl ⟨_, by rw [HV.out, HV3.out], by rw [HV2.out]; exact HOO.out, HB.out⟩
end Go.Proofs.Ytepnhbicmlfnhad
