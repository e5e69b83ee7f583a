/-
  spec.l11Open, spec.OpenIn: letters neither heard of nor lost, in memory of their own. Nothing old is written.
-/
import Derived.Test.YthmkeinhjlmgmahSGoodSd
import Derived.Test.YthmkeinhjlmgmahSHas1
import Derived.Test.YthmkeinhjlmgmahKAppN
import Derived.Test.YthmkeinhjlmgmahKOwnS
import Derived.Test.YthmkeinhjlmgmahSdBox
namespace Go.Proofs.Ythmkeinhjlmgmah
open Go.RowKit

set_option maxRecDepth 100000 in
set_option maxHeartbeats 8000000 in
theorem sopen_good (v : Value) (D : SdD) (w : World) (hr : SdReads w v D) (hz : 0 ≤ D.f0 ∧ D.f0 ≤ 60) :
    Calls Try.prog 64 #[v] w fun e w' => ∃ u0, e = .returned u0 ∧ KOwn w.heap.size w'.heap.size w' u0 (openU D.f1 D.f2 D.f0.toNat) ∧ Below w.heap.size w w' := by
  obtain ⟨v1, v2, rfl, r1, r2⟩ := hr
  have R1 := hid r1
  have R2 := hid r2
  obtain ⟨m, hm⟩ : ∃ m : Nat, D.f0 = (m : Int) := ⟨D.f0.toNat, by omega⟩
  have hm60 : m ≤ 60 := by omega
  rw [hm]
  obtain ⟨PB, BB, hsB⟩ := box_three (w := w) (.int .i64 (m : Nat)) v1 v2 34
  obtain ⟨W, hW⟩ : ∃ W, W = w.alloc (.cells #[.int .i64 (m : Nat), v1, v2] 34) := ⟨_, rfl⟩
  rw [← hW] at PB BB hsB
  have HP := hid PB
  have HB := hid BB
  have HW := hid hW
  clear hm hz r1 r2 PB BB hW
  go_enter Try.func64, Try.ntmps64
  go_wp2
  rw [← HW.out]
  clear HW
  go_loopw [3, 4] (fun l nv wr => ∃ (k : Nat), nv = .int .i64 (k : Nat) ∧ k ≤ m ∧ wr.ownsRow (w.heap.size + 1) 3 1 l (openU D.f1 D.f2 k).length (kflat (openU D.f1 D.f2 k)) ∧ Below (w.heap.size + 1) W wr) (fun _ nv _ => m - (intOf nv).toNat)
  case atStart => exact ⟨0, rfl, Nat.zero_le _, World.ownsRow_nil _ _ _ _, Below.refl _ _⟩
  case round =>
    obtain ⟨k, rfl, hk, hown, hbel⟩ := hrel
    have HO := hid hown
    have HL := hid hbel
    have hsz := hbel.size
    have HBW := hid (HB.out.trans (hbel.mono (by omega)))
    clear hown hbel
    obtain ⟨q0, q1, q2⟩ := (HP.out.below HL.out (by omega)).three
    by_cases hlt : k < m
    · have hltd : (k : Int) < (m : Int) := by omega
      obtain ⟨b1, hb1⟩ : ∃ b, hasL D.f1 (k : Int) = b := ⟨_, rfl⟩
      obtain ⟨b2, hb2⟩ : ∃ b, D.f2.contains (k : Int) = b := ⟨_, rfl⟩
      have HB1 := hid hb1
      have HB2 := hid hb2
      have HN : Hid (openU D.f1 D.f2 (k + 1) = openU D.f1 D.f2 k ++ (bif b1 || b2 then [] else [(k : Int)])) := by rw [← hb1, ← hb2]; exact rfl
      have hlen := openU_len D.f1 D.f2 k
      obtain ⟨ys, hys⟩ : ∃ ys, openU D.f1 D.f2 k = ys := ⟨_, rfl⟩
      rw [hys] at HN HO hlen
      clear hb1 hb2 hys
      go_wp2_with fail
      refine (shas_any _ D.f1 (k : Int) _ (R1.out.below HBW.out).s).mono ?_
      rintro e w2 ⟨rfl, b5⟩
      rw [HB1.out]
      have HL2 := hid (HL.out.trans (b5.mono (by omega)))
      have HBW2 := hid (HBW.out.trans (b5.mono HBW.out.size))
      have HO2 := hid (owns_stay HO.out fun g e => b5.block g (HO.out.lt g e).2)
      have hs2 := b5.size
      clear b5 q0 q1 q2 HO
      obtain ⟨q0, q1, q2⟩ := (HP.out.below HL2.out (by omega)).three
      cases b1
      rotate_left
      · go_wp2
        go_roundw
        case rel => exact ⟨k + 1, by go_num, by omega, by rw [HN.out]; simpa using HO2.out, HL2.out⟩
        case measure => simp [intOf]; omega
      go_wp2_with fail
      refine (l1Has_eq _ D.f2 (k : Int) b2 HB2.out _ (R2.out.below HBW2.out)).mono ?_
      rintro e w' ⟨rfl, hw⟩; obtain rfl := hw.symm
      clear q0 q1 q2
      cases b2
      rotate_left
      · go_wp2
        go_roundw
        case rel => exact ⟨k + 1, by go_num, by omega, by rw [HN.out]; simpa using HO2.out, HL2.out⟩
        case measure => simp [intOf]; omega
      go_wp2_with (at_builtin; refine wpList_append_reads _ rfl _ _ rfl (w.heap.size + 1) _ _ _ rfl (HO2.out.alloc _) _ [(k : Int)] rfl (kreads_int _ _) (by simp; omega) (by simp; omega) ?_)
      intro v6 w6 hown6 hgr6 _
      have B6 : Hid (Below (w.heap.size + 1) w2 w6) := ((Below.refl _ _).alloc (by omega) _).grown hgr6 (by simp; omega) (fun m hm => (HO2.out.lt m hm).1)
      have O6 : Hid (w6.ownsRow (w.heap.size + 1) 3 1 v6 (openU D.f1 D.f2 (k + 1)).length (kflat (openU D.f1 D.f2 (k + 1)))) := hid (by rw [HN.out]; simpa using hown6)
      have L6 := hid (HL2.out.trans B6.out)
      clear hown6 hgr6 HO2
      go_wp2
      go_roundw
      case rel => exact ⟨k + 1, by go_num, by omega, O6.out, L6.out⟩
      case measure => simp [intOf]; omega
    · obtain rfl : k = m := by omega
      have hlen := openU_len D.f1 D.f2 k
      have HK : Hid (KOwn w.heap.size wr.heap.size wr u3 (openU D.f1 D.f2 (k : Int).toNat)) := by
        rw [Int.toNat_natCast]
        exact (KOwn.of_owns HO.out (by omega)).mono (by omega) (Nat.le_refl _)
      clear HO
      go_wp2
      go_ret
      exact ⟨_, rfl, HK.out, HBW.out⟩
set_option maxRecDepth 100000 in
set_option maxHeartbeats 4000000 in
theorem sopen_any (v : Value) (D : SdD) (w : World) (hr : SdReads w v D) (xs : List Int) (t : Bool) (hx : openL D = xs) (ht : goodSd D = t) :
    Calls Try.prog 34 #[v] w fun e w' => ∃ u0, e = .returned (.tuple #[u0, .bool t]) ∧ KOwnS (Iv w.heap.size w'.heap.size) w' u0 xs ∧ Below w.heap.size w w' := by
  have HR := hid hr
  have HX := hid hx
  have HT := hid ht
  obtain ⟨v1, v2, rfl, _, _⟩ := hr
  obtain ⟨z, hz⟩ : ∃ z, z = D.f0 := ⟨_, rfl⟩
  rw [← hz] at HR ⊢
  obtain ⟨PB, BB, hsB⟩ := box_three (w := w) (.int .i64 z) v1 v2 34
  obtain ⟨q0, q1, q2⟩ := PB.three
  obtain ⟨W, hW⟩ : ∃ W, W = w.alloc (.cells #[.int .i64 z, v1, v2] 34) := ⟨_, rfl⟩
  rw [← hW] at PB BB hsB
  have HP := hid PB
  have HB := hid BB
  have HW := hid hW
  clear hx ht hz PB BB hW
  go_enter Try.func34, Try.ntmps34
  go_wp2_with fail
  rw [← HW.out]
  clear q0 q1 q2 HW
  refine (sgoodSd_eq _ D t HT.out _ (HR.out.below HB.out)).mono ?_
  rintro e w1 ⟨rfl, b1⟩
  replace HB := hid (HB.out.trans (b1.mono HB.out.size))
  replace HP := hid (HP.out.below b1 HP.out.lt)
  have hs1 := b1.size
  clear b1
  obtain ⟨q0, q1, q2⟩ := HP.out.three
  cases t
  · have HV : Hid (xs = []) := by show _ = _; rw [← HX.out]; unfold openL; rw [HT.out]; rfl
    go_wp2
    go_ret2
    exact ⟨_, rfl, by rw [HV.out]; exact (kown_nil _ _ _ _ _).inS, HB.out⟩
  · have HV : Hid (xs = openU D.f1 D.f2 D.f0.toNat) := by show _ = _; rw [← HX.out]; unfold openL; rw [HT.out]; rfl
    have hz60 : 0 ≤ D.f0 ∧ D.f0 ≤ 60 := by have h := HT.out; unfold goodSd at h; rw [Bool.and_eq_true, decide_eq_true_eq] at h; exact h.1
    go_wp2_with fail
    refine (sopen_good _ D _ (HR.out.below HB.out) hz60).mono ?_
    rintro e w2 ⟨u0, rfl, o2, b2⟩
    have HO : Hid (KOwnS (Iv w.heap.size w2.heap.size) w2 u0 xs) := by rw [HV.out]; exact (o2.mono (by omega) (Nat.le_refl _)).inS
    replace HB := hid (HB.out.trans (b2.mono HB.out.size))
    clear q0 q1 q2 o2 b2
    go_wp2
    go_ret2
    exact ⟨_, rfl, HO.out, HB.out⟩
end Go.Proofs.Ythmkeinhjlmgmah
