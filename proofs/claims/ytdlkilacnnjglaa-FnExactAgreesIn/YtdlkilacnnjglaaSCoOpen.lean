/-
  spec.l16Open, IsSettled, AgreesIn. Nothing old is written.
-/
import Derived.Test.YtdlkilacnnjglaaSGoodCo
import Derived.Test.YtdlkilacnnjglaaCoOpen
namespace Go.Proofs.Ytdlkilacnnjglaa
open Go.RowKit

set_option maxRecDepth 100000 in
set_option maxHeartbeats 8000000 in
theorem sl16Open_eq (now : Int) (v1 v2 : Value) (cs : List CaEl) (t : Int) (h : openC cs = t) (w : World) (hr : CaReads w v1 cs) :
    Calls Try.prog 58 #[.agg #[.int .i64 now, v1, v2]] w fun e w' => e = .returned (.int .i64 t) ∧ Below w.heap.size w w' := by
  have R1 := hid hr
  obtain ⟨a1, p1, rfl, l1, _⟩ := hr
  have HT := hid h
  clear h
  have PB := hid (boxL_new w [.int .i64 now, .slice a1 cs.length p1, v2] 26)
  have BW : Hid (Below w.heap.size w (w.alloc (.cells #[.int .i64 now, .slice a1 cs.length p1, v2] 26))) := (Below.refl _ _).alloc (Nat.le_refl _) _
  obtain ⟨W0, hW0⟩ : ∃ W, W = w.alloc (.cells #[.int .i64 now, .slice a1 cs.length p1, v2] 26) := ⟨_, rfl⟩
  rw [← hW0] at PB BW
  have HW0 := hid hW0
  clear hW0
  go_enter Try.func58, Try.ntmps58
  go_upto_region 1 with fail
  rw [← HW0.out]
  clear HW0
  obtain ⟨q0, q1, q2⟩ := PB.out.three
  go_wp2
  go_loopw [8] (fun i wr => ∃ k : Nat, k ≤ cs.length ∧ i = .int .i64 k ∧ (cs.take k).any openB = false ∧ Below W0.heap.size W0 wr) (fun i _ => cs.length - (intOf i).toNat)
  case atStart => exact ⟨0, Nat.zero_le _, rfl, rfl, Below.refl _ _⟩
  case round =>
    obtain ⟨k, hk, rfl, hall, hbel⟩ := hrel
    have HA := hid hall
    have HB := hid hbel
    have BL : Hid (Below w.heap.size w wr) := BW.out.trans (hbel.mono BW.out.size)
    have HC := hid ((R1.out.below BW.out).below hbel)
    clear hall hbel q0 q1 q2
    by_cases hlt : k < cs.length
    · obtain ⟨g, o, cap', e, hc⟩ := HC.out.cells k hlt
      cases e
      obtain ⟨x, hx0⟩ : ∃ x, x = cs.getD k (0, false, 0, 0) := ⟨_, rfl⟩
      have hck := hc k hlt
      rw [← hx0] at hck
      obtain ⟨b, hb⟩ : ∃ b, openB (cs.getD k (0, false, 0, 0)) = b := ⟨_, rfl⟩
      have HK := hid hb
      have HSN : Hid ((cs.take (k + 1)).any openB = b) := by show _ = _; rw [ca_anyT _ cs k hlt, HA.out, hb, Bool.false_or]
      have hbx : openB x = b := by rw [hx0]; exact hb
      obtain ⟨en, ask, fi, sa⟩ := x
      have d4 : (fi == 0) = b := by rw [← hbx]; rfl
      obtain ⟨c0, c1, c2, c3⟩ := hck
      simp only at c0 c1 c2 c3
      clear hc hb hx0 hbx
      have BA : Hid (Below W0.heap.size W0 (wr.alloc (.cells #[.int .i64 en, .bool ask, .int .i64 fi, .int .i64 sa] 70))) := HB.out.alloc HB.out.size _
      have BV : Hid (Below w.heap.size w (wr.alloc (.cells #[.int .i64 en, .bool ask, .int .i64 fi, .int .i64 sa] 70))) := BL.out.alloc BL.out.size _
      cases b
      · go_wp2
        go_roundw
        case rel => exact ⟨k + 1, by omega, by go_num, HSN.out, BA.out⟩
        case measure => simp [intOf]; omega
      · have HV : Hid (t = (k : Int)) := by show _ = _; rw [← HT.out]; exact openC_at cs k hlt HA.out HK.out
        go_wp2
        go_ret
        exact ⟨by (rw [HV.out]) <;> rfl, BV.out⟩
    · have HV : Hid (t = -1) := by show _ = _; rw [← HT.out]; have := HA.out; rw [List.take_of_length_le (by omega)] at this; exact openC_none cs this
      go_wp2
      go_ret
      exact ⟨by (rw [HV.out]) <;> rfl, BL.out⟩
set_option maxRecDepth 100000 in
set_option maxHeartbeats 8000000 in
theorem sisSettled_eq (v : Value) (D : CoD) (w : World) (hr : CoReads w v D) :
    Calls Try.prog 21 #[v] w fun e w' => e = .returned (.tuple #[.bool (goodC D && decide (openC D.f1 < 0)), .bool (goodC D)]) ∧ Below w.heap.size w w' := by
  obtain ⟨G, hG⟩ : ∃ G, goodC D = G := ⟨_, rfl⟩
  obtain ⟨o, ho⟩ : ∃ o, openC D.f1 = o := ⟨_, rfl⟩
  obtain ⟨r, hr0⟩ : ∃ r, decide (o < 0) = r := ⟨_, rfl⟩
  rw [hG, ho, hr0]
  have HG := hid hG
  have HO := hid ho
  have HR := hid hr
  have HR0 := hid hr0
  obtain ⟨v1, v2, rfl, r1, r2⟩ := hr
  obtain ⟨now, cs, ls⟩ := D
  simp only at r1 r2 ⊢
  have R1 := hid r1
  have PB := hid (boxL_new w [.int .i64 now, v1, v2] 26)
  have BW : Hid (Below w.heap.size w (w.alloc (.cells #[.int .i64 now, v1, v2] 26))) := (Below.refl _ _).alloc (Nat.le_refl _) _
  clear hG ho r1 r2
  go_enter Try.func21, Try.ntmps21
  go_wp2_with fail
  refine (sgoodCo_eq _ ⟨now, cs, ls⟩ G HG.out _ (HR.out.below BW.out)).mono ?_
  rintro e w1 ⟨rfl, bb⟩
  replace BW := hid (BW.out.trans (bb.mono BW.out.size))
  replace PB := hid (PB.out.below bb PB.out.lt)
  clear bb
  obtain ⟨q0, q1, q2⟩ := PB.out.three
  cases G
  · go_wp2
    go_ret2
    exact ⟨rfl, BW.out⟩
  go_wp2_with fail
  refine (sl16Open_eq now v1 v2 cs o HO.out _ (R1.out.below BW.out)).mono ?_
  rintro e w2 ⟨rfl, bb⟩
  replace BW := hid (BW.out.trans (bb.mono BW.out.size))
  clear bb q0 q1 q2
  go_wp2
  go_ret2
  exact ⟨by simp, BW.out⟩
set_option maxRecDepth 100000 in
set_option maxHeartbeats 8000000 in
theorem sagreesIn_eq (v : Value) (D : CoD) (w : World) (hr : CoReads w v D) :
    Calls Try.prog 23 #[v] w fun e w' => e = .returned (.tuple #[.bool (goodC D), .bool (goodC D)]) ∧ Below w.heap.size w w' := by
  obtain ⟨G, hG⟩ : ∃ G, goodC D = G := ⟨_, rfl⟩
  rw [hG]
  have HG := hid hG
  have HR := hid hr
  obtain ⟨v1, v2, rfl, r1, r2⟩ := hr
  obtain ⟨now, cs, ls⟩ := D
  simp only at r1 r2 ⊢
  have R1 := hid r1
  obtain ⟨a1, p1, rfl, l1, _⟩ := r1
  have PB := hid (boxL_new w [.int .i64 now, .slice a1 cs.length p1, v2] 26)
  have BW : Hid (Below w.heap.size w (w.alloc (.cells #[.int .i64 now, .slice a1 cs.length p1, v2] 26))) := (Below.refl _ _).alloc (Nat.le_refl _) _
  clear hG r2
  go_enter Try.func23, Try.ntmps23
  go_wp2_with fail
  refine (sgoodCo_eq _ ⟨now, cs, ls⟩ G HG.out _ (HR.out.below BW.out)).mono ?_
  rintro e w1 ⟨rfl, bb⟩
  replace BW := hid (BW.out.trans (bb.mono BW.out.size))
  replace PB := hid (PB.out.below bb PB.out.lt)
  clear bb
  obtain ⟨q0, q1, q2⟩ := PB.out.three
  cases G
  · go_wp2
    go_ret2
    exact ⟨rfl, BW.out⟩
  have HAG : Hid (∀ k, k < cs.length → oddB (cs.getD k (0, false, 0, 0)) = false) := fun k hk => by
    have h := agree_of_good HG.out
    rw [List.all_eq_true] at h
    have h1 := h (cs.getD k (0, false, 0, 0)) (by simp [List.getD_eq_getElem?_getD, hk])
    simpa using h1
  go_wp2
  go_loopw [12] (fun i wr => ∃ k : Nat, k ≤ cs.length ∧ i = .int .i64 k ∧ Below w1.heap.size w1 wr) (fun i _ => cs.length - (intOf i).toNat)
  case atStart => exact ⟨0, Nat.zero_le _, rfl, Below.refl _ _⟩
  case round =>
    obtain ⟨k, hk, rfl, hbel⟩ := hrel
    have HB := hid hbel
    have BL : Hid (Below w.heap.size w wr) := BW.out.trans (hbel.mono BW.out.size)
    have HC := hid ((R1.out.below BW.out).below hbel)
    clear hbel q0 q1 q2
    by_cases hlt : k < cs.length
    · obtain ⟨g, o, cap', e, hc⟩ := HC.out.cells k hlt
      cases e
      obtain ⟨x, hx0⟩ : ∃ x, x = cs.getD k (0, false, 0, 0) := ⟨_, rfl⟩
      have hck := hc k hlt
      rw [← hx0] at hck
      have hod : oddB x = false := by rw [hx0]; exact HAG.out k hlt
      obtain ⟨en, ask, fi, sa⟩ := x
      have HOD : Hid ((!decide (fi = 0) && !decide (fi = sa)) = false) := hod
      obtain ⟨b4, e4⟩ : ∃ b, decide (fi = 0) = b := ⟨_, rfl⟩
      obtain ⟨b5, e5⟩ : ∃ b, decide (fi = sa) = b := ⟨_, rfl⟩
      rw [e4, e5] at HOD
      have d4 : (fi != 0) = !b4 := by rw [← e4]; rfl
      have d5 : (fi != sa) = !b5 := by rw [← e5]; rfl
      obtain ⟨c0, c1, c2, c3⟩ := hck
      simp only at c0 c1 c2 c3
      clear hc hx0 hod e4 e5
      have BA : Hid (Below w1.heap.size w1 (wr.alloc (.cells #[.int .i64 en, .bool ask, .int .i64 fi, .int .i64 sa] 70))) := HB.out.alloc HB.out.size _
      cases b4 <;> cases b5
      all_goals first
        | (exact absurd HOD.out (by decide))
        | (go_wp2
           go_roundw
           case rel => exact ⟨k + 1, by omega, by go_num, BA.out⟩
           case measure => simp [intOf]; omega)
    · go_wp2
      go_ret2
      exact ⟨rfl, BL.out⟩
end Go.Proofs.Ytdlkilacnnjglaa
