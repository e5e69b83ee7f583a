/-
  impl's firstOpen, IsSettled, AgreesIn. Nothing old is written.
-/
import Derived.Test.YtdlkilacnnjglaaIGoodCo
namespace Go.Proofs.Ytdlkilacnnjglaa
open Go.RowKit

set_option maxRecDepth 100000 in
theorem iisOpen_eq (x : CaEl) (t : Bool) (h : openB x = t) (w : World) :
    Calls Try.prog 85 #[.agg #[.int .i64 x.1, .bool x.2.1, .int .i64 x.2.2.1, .int .i64 x.2.2.2]] w fun e w' => e = .returned (.bool t) ∧ Below w.heap.size w w' := by
  obtain ⟨en, ask, fi, sa⟩ := x
  simp only
  have d : (fi == 0) = t := by rw [← h]; rfl
  have BW : Hid (Below w.heap.size w (w.alloc (.cells #[.int .i64 en, .bool ask, .int .i64 fi, .int .i64 sa] 70))) := (Below.refl _ _).alloc (Nat.le_refl _) _
  clear h
  go_enter Try.func85, Try.ntmps85
  go_wp2
  go_ret
  exact ⟨rfl, BW.out⟩
set_option maxRecDepth 100000 in
set_option maxHeartbeats 4000000 in
theorem iidxP_any (v : Value) (xs : List CaEl) (t : Int) (h : openC xs = t) (w : World) (hr : CaReads w v xs) :
    Calls Try.prog 81 #[v, .func (.func 85) #[] #[]] w fun e w' => e = .returned (.int .i64 t) ∧ Below w.heap.size w w' := by
  have HR := hid hr
  have HT := hid h
  clear h
  obtain ⟨a, cap, rfl, hl, _⟩ := hr
  go_enter Try.func81, Try.ntmps81
  go_wp2
  go_loopw [8] (fun i wr => ∃ k : Nat, k ≤ xs.length ∧ i = .int .i64 k ∧ (xs.take k).any openB = false ∧ Below w.heap.size w wr) (fun i _ => xs.length - (intOf i).toNat)
  case atStart => exact ⟨0, Nat.zero_le _, rfl, rfl, Below.refl _ _⟩
  case round =>
    obtain ⟨k, hk, rfl, hall, hb⟩ := hrel
    have HL := hid hall
    have HB := hid hb
    clear hall hb
    by_cases hlt : k < xs.length
    · obtain ⟨g, o, cap', e, hc⟩ := (HR.out.below HB.out).cells k hlt
      cases e
      obtain ⟨x, hx0⟩ : ∃ x, x = xs.getD k (0, false, 0, 0) := ⟨_, rfl⟩
      have hck := hc k hlt
      rw [← hx0] at hck
      obtain ⟨c0, c1, c2, c3⟩ := hck
      obtain ⟨b, hb1⟩ : ∃ b, openB x = b := ⟨_, rfl⟩
      have HB1 := hid hb1
      have HK : Hid (openB (xs.getD k (0, false, 0, 0)) = b) := by show _ = _; rw [← hx0]; exact hb1
      have HS : Hid ((xs.take (k + 1)).any openB = b) := by show _ = _; rw [ca_anyT openB xs k hlt, HL.out, HK.out, Bool.false_or]
      clear hc hb1 hx0
      go_wp2_with fail
      refine (iisOpen_eq x b HB1.out _).mono ?_
      rintro e w2 ⟨rfl, b2⟩
      have HB2 := hid (HB.out.trans (b2.mono HB.out.size))
      clear b2
      cases b
      · go_wp2
        go_roundw
        case rel => exact ⟨k + 1, by omega, by go_num, HS.out, HB2.out⟩
        case measure => simp [intOf]; omega
      · have hv : Hid (t = (k : Int)) := by show _ = _; rw [← HT.out]; exact openC_at xs k hlt HL.out HK.out
        go_wp2
        go_ret
        exact ⟨by (rw [hv.out]) <;> rfl, HB2.out⟩
    · have hv : Hid (t = -1) := by show _ = _; rw [← HT.out]; have := HL.out; rw [List.take_of_length_le (by omega)] at this; exact openC_none xs this
      go_wp2
      go_ret
      exact ⟨by (rw [hv.out]) <;> rfl, HB.out⟩
set_option maxRecDepth 100000 in
theorem ifirstOpen_eq (now : Int) (v1 v2 : Value) (cs : List CaEl) (t : Int) (h : openC cs = t) (w : World) (hr : CaReads w v1 cs) :
    Calls Try.prog 59 #[.agg #[.int .i64 now, v1, v2]] w fun e w' => e = .returned (.int .i64 t) ∧ Below w.heap.size w w' := by
  have HT := hid h
  have HR := hid hr
  have BW : Hid (Below w.heap.size w (w.alloc (.cells #[.int .i64 now, v1, v2] 26))) := (Below.refl _ _).alloc (Nat.le_refl _) _
  clear h hr
  go_enter Try.func59, Try.ntmps59
  go_wp2_with fail
  refine (iidxP_any v1 cs t HT.out _ (HR.out.below BW.out)).mono ?_
  rintro e w2 ⟨rfl, bb⟩
  replace BW := hid (BW.out.trans (bb.mono BW.out.size))
  clear bb
  go_wp2
  go_ret
  exact ⟨rfl, BW.out⟩
set_option maxRecDepth 100000 in
set_option maxHeartbeats 8000000 in
theorem iisSettled_eq (v : Value) (D : CoD) (w : World) (hr : CoReads w v D) :
    Calls Try.prog 22 #[v] w fun e w' => e = .returned (.tuple #[.bool (goodC D && decide (openC D.f1 < 0)), .bool (goodC D)]) ∧ Below w.heap.size w w' := by
  obtain ⟨G, hG⟩ : ∃ G, goodC D = G := ⟨_, rfl⟩
  obtain ⟨o, ho⟩ : ∃ o, openC D.f1 = o := ⟨_, rfl⟩
  obtain ⟨r, hr0⟩ : ∃ r, decide (o < 0) = r := ⟨_, rfl⟩
  rw [hG, ho, hr0]
  have HG := hid hG
  have HO := hid ho
  have HR := hid hr
  obtain ⟨v1, v2, rfl, r1, r2⟩ := hr
  obtain ⟨now, cs, ls⟩ := D
  simp only at r1 r2 ⊢
  have R1 := hid r1
  have PB := hid (boxL_new w [.int .i64 now, v1, v2] 26)
  have BW : Hid (Below w.heap.size w (w.alloc (.cells #[.int .i64 now, v1, v2] 26))) := (Below.refl _ _).alloc (Nat.le_refl _) _
  clear hG ho r1 r2
  go_enter Try.func22, Try.ntmps22
  go_wp2_with fail
  refine (igoodCo_eq _ ⟨now, cs, ls⟩ G HG.out _ (HR.out.below BW.out)).mono ?_
  rintro e w1 ⟨rfl, bb⟩
  replace BW := hid (BW.out.trans (bb.mono BW.out.size))
  replace PB := hid (PB.out.below bb PB.out.lt)
  clear bb
  obtain ⟨q0, q1, q2⟩ := PB.out.three
  cases G
  · go_wp2
    go_ret2
    exact ⟨rfl, BW.out⟩
  go_wp2_with fail
  refine (ifirstOpen_eq now v1 v2 cs o HO.out _ (R1.out.below BW.out)).mono ?_
  rintro e w2 ⟨rfl, bb⟩
  replace BW := hid (BW.out.trans (bb.mono BW.out.size))
  clear bb q0 q1 q2
  go_wp2
  go_ret2
  exact ⟨by simp, BW.out⟩
set_option maxRecDepth 100000 in
set_option maxHeartbeats 8000000 in
theorem iagreesIn_eq (v : Value) (D : CoD) (w : World) (hr : CoReads w v D) :
    Calls Try.prog 24 #[v] w fun e w' => e = .returned (.tuple #[.bool (goodC D), .bool (goodC D)]) ∧ Below w.heap.size w w' := by
  obtain ⟨G, hG⟩ : ∃ G, goodC D = G := ⟨_, rfl⟩
  rw [hG]
  have HG := hid hG
  have HR := hid hr
  obtain ⟨v1, v2, rfl, r1, r2⟩ := hr
  obtain ⟨now, cs, ls⟩ := D
  simp only at r1 r2 ⊢
  have R1 := hid r1
  have PB := hid (boxL_new w [.int .i64 now, v1, v2] 26)
  have BW : Hid (Below w.heap.size w (w.alloc (.cells #[.int .i64 now, v1, v2] 26))) := (Below.refl _ _).alloc (Nat.le_refl _) _
  clear hG r1 r2
  go_enter Try.func24, Try.ntmps24
  go_wp2_with fail
  refine (igoodCo_eq _ ⟨now, cs, ls⟩ G HG.out _ (HR.out.below BW.out)).mono ?_
  rintro e w1 ⟨rfl, bb⟩
  replace BW := hid (BW.out.trans (bb.mono BW.out.size))
  replace PB := hid (PB.out.below bb PB.out.lt)
  clear bb
  obtain ⟨q0, q1, q2⟩ := PB.out.three
  cases G
  · go_wp2
    go_ret2
    exact ⟨rfl, BW.out⟩
  have HA : Hid (cs.all noOdd = true) := agree_of_good HG.out
  go_wp2_with fail
  refine (icontO_any v1 cs true HA.out _ (R1.out.below BW.out)).mono ?_
  rintro e w2 ⟨rfl, bb⟩
  replace BW := hid (BW.out.trans (bb.mono BW.out.size))
  clear bb q0 q1 q2
  go_wp2
  go_ret2
  exact ⟨by simp, BW.out⟩
end Go.Proofs.Ytdlkilacnnjglaa
