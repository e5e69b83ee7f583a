/-
  A row of numbers in blocks of a set. Plain facts on the memory.
  Senders that hear of letters one by one, in a box: plain facts on the memory.
  spec.l11Open, spec.OpenIn: letters neither heard of nor lost, in memory of their own. Nothing old is written.
-/
import Derived.Test.YtnkpboobfkjibadQForm
import Derived.Test.YtnkpboobfkjibadLostMath
import Derived.Test.YtnkpboobfkjibadSdBox
import Derived.Test.YtnkpboobfkjibadKSpanConv
import Derived.Test.YtnkpboobfkjibadSHas1
import Derived.Test.YtnkpboobfkjibadKOne
namespace Go.Proofs.Ytnkpboobfkjibad
open Go.RowKit

def KOwnS (S : Nat → Prop) (w : World) (v : Value) (xs : List KEl) : Prop := ∃ l e, KOwn l e w v xs ∧ ∀ g, l ≤ g → g < e → S g
theorem KOwnS.reads {S : Nat → Prop} {w : World} {v : Value} {xs : List KEl} (h : KOwnS S w v xs) : KReads w v xs := by
  obtain ⟨l, e, h, _⟩ := h
  exact h.reads
theorem KOwnS.below {S : Nat → Prop} {w w' : World} {v : Value} {xs : List KEl} (h : KOwnS S w v xs) (hb : Below w.heap.size w w') : KOwnS S w' v xs := by
  obtain ⟨l, e, h, hs⟩ := h
  exact ⟨l, e, h.below hb, hs⟩
theorem KOwnS.onlyS {S S' : Nat → Prop} {w w' : World} {v : Value} {xs : List KEl} (h : KOwnS S w v xs) (ho : OnlyS S' w w') (hd : ∀ g, S g → S' g → False) : KOwnS S w' v xs := by
  obtain ⟨l, e, h, hs⟩ := h
  exact ⟨l, e, h.at fun g g1 g2 g3 => ho g g3 (hd g (hs g g1 g2)), hs⟩
theorem KOwn.inS {lo hi : Nat} {w : World} {v : Value} {xs : List KEl} (h : KOwn lo hi w v xs) : KOwnS (Iv lo hi) w v xs := ⟨lo, hi, h, fun _ h1 h2 => ⟨h1, h2⟩⟩
theorem KOwnS.on {l e : Nat} {S : Nat → Prop} {w w' : World} (hS : ∀ g, l ≤ g → g < e → S g) (on : Only l e w w') : OnlyS S w w' := fun j _ hj => on.2 j (by
  by_cases h1 : j < l
  · exact .inl h1
  · by_cases h2 : e ≤ j
    · exact .inr h2
    · exact absurd (hS j (by omega) (by omega)) hj)
/-- Behind the numbering of a row in blocks of S, all from lo on: nothing ahead of lo is touched. -/
theorem KOwnS.frame {l e lo : Nat} {S : Nat → Prop} {w w' : World} {v : Value} {xs : List KEl} (_h : KOwn l e w v xs) (hS : ∀ g, l ≤ g → g < e → S g) (hlo : ∀ g, S g → lo ≤ g) (_hw : lo ≤ w.heap.size) (b : Below l w w') (on : Only l e w w') : Below lo w w' :=
  ⟨b.os, b.tape, b.output, b.size, fun k hk => on.2 k (by
    by_cases h1 : k < l
    · exact .inl h1
    · by_cases h2 : e ≤ k
      · exact .inr h2
      · have := hlo k (hS k (by omega) (by omega))
        omega)⟩
end Go.Proofs.Ytnkpboobfkjibad
namespace Go.Proofs.Ytnkpboobfkjibad
open Go.RowKit

theorem spreads_one (w : World) (x y : Int) (T : TypeId) : SpReads (w.alloc (.cells #[.int .i64 x, .int .i64 y] T)) (.slice (some ⟨w.heap.size, 0, none⟩) 1 1) [(x, y)] := by
  refine ⟨_, 1, rfl, by simp, .inr ⟨w.heap.size, 0, rfl, fun i hi => ?_⟩⟩
  obtain rfl : i = 0 := by simpa using hi
  exact ⟨by simp, by simp⟩
theorem kown_any {lo hi lo' hi' : Nat} {w w' : World} {v : Value} (h : KOwn lo hi w v []) : KOwn lo' hi' w' v [] := by
  rcases h.2 with ⟨a, c, rfl, _⟩ | ⟨g, c, rfl, _⟩
  · exact kown_nil _ _ _ _ _
  · exact kown_nil _ _ _ _ _
theorem spown_any {lo hi lo' hi' : Nat} {w w' : World} {v : Value} (h : SpOwn lo hi w v []) : SpOwn lo' hi' w' v [] := by
  rcases h.2 with ⟨a, c, rfl, _⟩ | ⟨g, c, rfl, _⟩
  · exact spown_nil _ _ _ _ _
  · exact spown_nil _ _ _ _ _
theorem sdNew_bare {S : Nat → Prop} {w w' : World} {v : Value} {n : Int} (lo : Nat) (h : SdOwn S w v ⟨n, [], []⟩) : SdNew lo w' v ⟨n, [], []⟩ := by
  obtain ⟨v1, v2, c1, c2, rfl, _, h1, h2⟩ := h
  exact ⟨v1, v2, (lo, lo), (lo, lo), rfl, spown_any h1, kown_any h2, Nat.le_refl _, Nat.le_refl _⟩
theorem kown_of_S {S : Nat → Prop} {w : World} {v : Value} {xs : List Int} (h : KOwnS S w v xs) {lo hi : Nat} (hs : ∀ g, S g → lo ≤ g ∧ g < hi) : KOwn lo hi w v xs := by
  obtain ⟨l, r, h, hS⟩ := h
  rcases h.2 with h' | ⟨g, cap, e, hg, hr⟩
  · exact ⟨h.1, .inl h'⟩
  · have := hs g (hS g hg.1 hg.2.1)
    exact ⟨h.1, .inr ⟨g, cap, e, ⟨this.1, this.2, hg.2.2⟩, hr⟩⟩
/-- What has come so far, and what comes next. -/
theorem play_next {m : Nat} {xs : List Int} {k : Nat} (hm : m ≤ 60) (ho : oruB xs (m : Int) = true) (hk : k < xs.length) (hb : playB ⟨(m : Int), [], []⟩ (xs.take k) = true) :
    (0 ≤ xs.getD k 0 ∧ xs.getD k 0 ≤ (m : Int) - 1) ∧ goodSd (playSd ⟨(m : Int), [], []⟩ (xs.take k)) = true ∧ (playSd ⟨(m : Int), [], []⟩ (xs.take k)).f0 = (m : Int) ∧
    playB ⟨(m : Int), [], []⟩ (xs.take (k + 1)) = hearB (playSd ⟨(m : Int), [], []⟩ (xs.take k)) (oneL (xs.getD k 0)) ∧
    hearB (playSd ⟨(m : Int), [], []⟩ (xs.take k)) (oneL (xs.getD k 0)) = decide ((joinL (playSd ⟨(m : Int), [], []⟩ (xs.take k)).f1 (oneL (xs.getD k 0))).length ≤ 20) ∧
    playSd ⟨(m : Int), [], []⟩ (xs.take (k + 1)) = hearSd (playSd ⟨(m : Int), [], []⟩ (xs.take k)) (oneL (xs.getD k 0)) ∧
    playE ⟨(m : Int), [], []⟩ (xs.take (k + 1)) = playE ⟨(m : Int), [], []⟩ (xs.take k) ++ hearLa (playSd ⟨(m : Int), [], []⟩ (xs.take k)) (oneL (xs.getD k 0)) := by
  have hx : 0 ≤ xs.getD k 0 ∧ xs.getD k 0 ≤ (m : Int) - 1 := by
    have := ((oruB_iff xs (m : Int)).1 ho).2 _ (List.getElem_mem hk)
    simpa [List.getD_eq_getElem?_getD, hk] using this
  have hg0 : goodSd ⟨(m : Int), [], []⟩ = true := by
    unfold goodSd
    rw [decide_eq_true (show 0 ≤ (⟨(m : Int), [], []⟩ : SdD).f0 ∧ (⟨(m : Int), [], []⟩ : SdD).f0 ≤ 60 from ⟨by show 0 ≤ (m : Int); omega, by show (m : Int) ≤ 60; omega⟩)]
    rfl
  obtain ⟨hg, hf⟩ := play_good (xs.take k) _ hg0 hb
  have hf' : (playSd ⟨(m : Int), [], []⟩ (xs.take k)).f0 = (m : Int) := hf
  have et : xs.take (k + 1) = xs.take k ++ [xs.getD k 0] := take_snocF hk
  refine ⟨hx, hg, hf', ?_, ?_, ?_, ?_⟩
  · rw [et, playB_snoc, hb, Bool.true_and]
  · unfold hearB
    rw [hg, bel_one (by rw [hf']; exact hx) (by rw [hf']; omega)]
    rfl
  · rw [et, playSd_snoc]
  · rw [et, playE_snoc]
/-- One that tells no is told no in the end. -/
theorem play_ill {D : SdD} {xs : List Int} {k : Nat} (h : playB D (xs.take k) = false) : playB D xs = false := by
  have := playB_no (xs.take k) (xs.drop k) D h
  rwa [List.take_append_drop] at this
end Go.Proofs.Ytnkpboobfkjibad
namespace Go.Proofs.Ytnkpboobfkjibad
open Go.RowKit

set_option maxRecDepth 100000 in
set_option maxHeartbeats 8000000 in
theorem sopen_good (v : Value) (D : SdD) (w : World) (hr : SdReads w v D) (hz : 0 ≤ D.f0 ∧ D.f0 ≤ 60) :
    Calls Try.prog 128 #[v] w fun e w' => ∃ u0, e = .returned u0 ∧ KOwn w.heap.size w'.heap.size w' u0 (openU D.f1 D.f2 D.f0.toNat) ∧ Below w.heap.size w w' := by
  obtain ⟨v1, v2, rfl, r1, r2⟩ := hr
  have R1 := hid r1
  have R2 := hid r2
  obtain ⟨m, hm⟩ : ∃ m : Nat, D.f0 = (m : Int) := ⟨D.f0.toNat, by omega⟩
  have hm60 : m ≤ 60 := by omega
  rw [hm]
  obtain ⟨PB, BB, hsB⟩ := box_three (w := w) (.int .i64 (m : Nat)) v1 v2 49
  obtain ⟨W, hW⟩ : ∃ W, W = w.alloc (.cells #[.int .i64 (m : Nat), v1, v2] 49) := ⟨_, rfl⟩
  rw [← hW] at PB BB hsB
  have HP := hid PB
  have HB := hid BB
  have HW := hid hW
  clear hm hz r1 r2 PB BB hW
  go_enter Try.func128, Try.ntmps128
  go_wp2
  rw [← HW.out]
  clear HW
  go_loopw [3, 4] (fun l nv wr => ∃ (k : Nat), nv = .int .i64 (k : Nat) ∧ k ≤ m ∧ wr.ownsRow (w.heap.size + 1) 3 1 l (openU D.f1 D.f2 k).length (kflat (openU D.f1 D.f2 k)) ∧ Below (w.heap.size + 1) W wr) (fun _ nv _ => m - (intOf nv).toNat)
  case atStart => exact ⟨0, rfl, Nat.zero_le _, World.ownsRow_nil _ _ _ _, Below.refl _ _⟩
  case round =>
    obtain ⟨k, rfl, hk, hown, hbel⟩ := hrel
    have HO := hid hown
    have HL := hid hbel
    have hsz := hbel.size
    have HBW := hid (HB.out.trans (hbel.mono (by omega)))
    clear hown hbel
    obtain ⟨q0, q1, q2⟩ := (HP.out.below HL.out (by omega)).three
    by_cases hlt : k < m
    · have hltd : (k : Int) < (m : Int) := by omega
      obtain ⟨b1, hb1⟩ : ∃ b, hasL D.f1 (k : Int) = b := ⟨_, rfl⟩
      obtain ⟨b2, hb2⟩ : ∃ b, D.f2.contains (k : Int) = b := ⟨_, rfl⟩
      have HB1 := hid hb1
      have HB2 := hid hb2
      have HN : Hid (openU D.f1 D.f2 (k + 1) = openU D.f1 D.f2 k ++ (bif b1 || b2 then [] else [(k : Int)])) := by rw [← hb1, ← hb2]; exact rfl
      have hlen := openU_len D.f1 D.f2 k
      obtain ⟨ys, hys⟩ : ∃ ys, openU D.f1 D.f2 k = ys := ⟨_, rfl⟩
      rw [hys] at HN HO hlen
      clear hb1 hb2 hys
      go_wp2_with fail
      refine (shas_any _ D.f1 (k : Int) _ (R1.out.below HBW.out).s).mono ?_
      rintro e w2 ⟨rfl, b5⟩
      rw [HB1.out]
      have HL2 := hid (HL.out.trans (b5.mono (by omega)))
      have HBW2 := hid (HBW.out.trans (b5.mono HBW.out.size))
      have HO2 := hid (owns_stay HO.out fun g e => b5.block g (HO.out.lt g e).2)
      have hs2 := b5.size
      clear b5 q0 q1 q2 HO
      obtain ⟨q0, q1, q2⟩ := (HP.out.below HL2.out (by omega)).three
      cases b1
      rotate_left
      · go_wp2
        go_roundw
        case rel => exact ⟨k + 1, by go_num, by omega, by rw [HN.out]; simpa using HO2.out, HL2.out⟩
        case measure => simp [intOf]; omega
      go_wp2_with fail
      refine (l1Has_eq _ D.f2 (k : Int) b2 HB2.out _ (R2.out.below HBW2.out)).mono ?_
      rintro e w' ⟨rfl, hw⟩; obtain rfl := hw.symm
      clear q0 q1 q2
      cases b2
      rotate_left
      · go_wp2
        go_roundw
        case rel => exact ⟨k + 1, by go_num, by omega, by rw [HN.out]; simpa using HO2.out, HL2.out⟩
        case measure => simp [intOf]; omega
      go_wp2_with (at_builtin; refine wpList_append_reads _ rfl _ _ rfl (w.heap.size + 1) _ _ _ rfl (HO2.out.alloc _) _ [(k : Int)] rfl (kreads_int _ _) (by simp; omega) (by simp; omega) ?_)
      intro v6 w6 hown6 hgr6 _
      have B6 : Hid (Below (w.heap.size + 1) w2 w6) := ((Below.refl _ _).alloc (by omega) _).grown hgr6 (by simp; omega) (fun m hm => (HO2.out.lt m hm).1)
      have O6 : Hid (w6.ownsRow (w.heap.size + 1) 3 1 v6 (openU D.f1 D.f2 (k + 1)).length (kflat (openU D.f1 D.f2 (k + 1)))) := hid (by rw [HN.out]; simpa using hown6)
      have L6 := hid (HL2.out.trans B6.out)
      clear hown6 hgr6 HO2
      go_wp2
      go_roundw
      case rel => exact ⟨k + 1, by go_num, by omega, O6.out, L6.out⟩
      case measure => simp [intOf]; omega
    · obtain rfl : k = m := by omega
      have hlen := openU_len D.f1 D.f2 k
      have HK : Hid (KOwn w.heap.size wr.heap.size wr u3 (openU D.f1 D.f2 (k : Int).toNat)) := by
        rw [Int.toNat_natCast]
        exact (KOwn.of_owns HO.out (by omega)).mono (by omega) (Nat.le_refl _)
      clear HO
      go_wp2
      go_ret
      exact ⟨_, rfl, HK.out, HBW.out⟩
set_option maxRecDepth 100000 in
set_option maxHeartbeats 4000000 in
theorem sopen_any (v : Value) (D : SdD) (w : World) (hr : SdReads w v D) (xs : List Int) (t : Bool) (hx : openL D = xs) (ht : goodSd D = t) :
    Calls Try.prog 34 #[v] w fun e w' => ∃ u0, e = .returned (.tuple #[u0, .bool t]) ∧ KOwnS (Iv w.heap.size w'.heap.size) w' u0 xs ∧ Below w.heap.size w w' := by
  have HR := hid hr
  have HX := hid hx
  have HT := hid ht
  obtain ⟨v1, v2, rfl, _, _⟩ := hr
  obtain ⟨z, hz⟩ : ∃ z, z = D.f0 := ⟨_, rfl⟩
  rw [← hz] at HR ⊢
  obtain ⟨PB, BB, hsB⟩ := box_three (w := w) (.int .i64 z) v1 v2 49
  obtain ⟨q0, q1, q2⟩ := PB.three
  obtain ⟨W, hW⟩ : ∃ W, W = w.alloc (.cells #[.int .i64 z, v1, v2] 49) := ⟨_, rfl⟩
  rw [← hW] at PB BB hsB
  have HP := hid PB
  have HB := hid BB
  have HW := hid hW
  clear hx ht hz PB BB hW
  go_enter Try.func34, Try.ntmps34
  go_wp2_with fail
  rw [← HW.out]
  clear q0 q1 q2 HW
  refine (sgoodSd_eq _ D t HT.out _ (HR.out.below HB.out)).mono ?_
  rintro e w1 ⟨rfl, b1⟩
  replace HB := hid (HB.out.trans (b1.mono HB.out.size))
  replace HP := hid (HP.out.below b1 HP.out.lt)
  have hs1 := b1.size
  clear b1
  obtain ⟨q0, q1, q2⟩ := HP.out.three
  cases t
  · have HV : Hid (xs = []) := by show _ = _; rw [← HX.out]; unfold openL; rw [HT.out]; rfl
    go_wp2
    go_ret2
    exact ⟨_, rfl, by rw [HV.out]; exact (kown_nil _ _ _ _ _).inS, HB.out⟩
  · have HV : Hid (xs = openU D.f1 D.f2 D.f0.toNat) := by show _ = _; rw [← HX.out]; unfold openL; rw [HT.out]; rfl
    have hz60 : 0 ≤ D.f0 ∧ D.f0 ≤ 60 := by have h := HT.out; unfold goodSd at h; rw [Bool.and_eq_true, decide_eq_true_eq] at h; exact h.1
    go_wp2_with fail
    refine (sopen_good _ D _ (HR.out.below HB.out) hz60).mono ?_
    rintro e w2 ⟨u0, rfl, o2, b2⟩
    have HO : Hid (KOwnS (Iv w.heap.size w2.heap.size) w2 u0 xs) := by rw [HV.out]; exact (o2.mono (by omega) (Nat.le_refl _)).inS
    replace HB := hid (HB.out.trans (b2.mono HB.out.size))
    clear q0 q1 q2 o2 b2
    go_wp2
    go_ret2
    exact ⟨_, rfl, HO.out, HB.out⟩
end Go.Proofs.Ytnkpboobfkjibad
