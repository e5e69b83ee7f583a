/-
  The law FnExactSeeGuess answers true at every argument, where both sides tell alike.
-/
import Derived.Test.YteeaebelknpdjbbKGuessTo
import Derived.Test.YteeaebelknpdjbbKGuessToEq
import Derived.Test.YteeaebelknpdjbbKSeen1To
import Derived.Test.YteeaebelknpdjbbSeeReg
import Derived.OwnWalk
namespace Go.Proofs.Yteeaebelknpdjbb
open Go.RowKit

theorem seeLaw_boxG (w : World) (x : GuEl) : GuCells (w.alloc (.cells #[.int .i64 x.1, .int .i64 x.2.1, .int .i64 x.2.2.1, .int .i64 x.2.2.2] 28)) w.heap.size x := by
  refine ⟨?_, ?_, ?_, ?_⟩ <;> simp
theorem seeLaw_boxX (w : World) (x : SnEl) : SnBox (w.alloc (.cells #[.int .i64 x.1, .bool x.2.1, .bool x.2.2] 33)) w.heap.size x := by
  refine ⟨?_, ?_, ?_⟩ <;> simp
set_option maxRecDepth 100000 in
set_option maxHeartbeats 16000000 in
theorem FnExactSeeGuess_law (x0 : GuEl) (x1 : SnEl) (w : World) (r0 : GuEl) (r1 : Bool)
    (HS : ∀ (w : World), Calls Try.prog 15 #[(.agg #[.int .i64 x0.1, .int .i64 x0.2.1, .int .i64 x0.2.2.1, .int .i64 x0.2.2.2]), (.agg #[.int .i64 x1.1, .bool x1.2.1, .bool x1.2.2])] w fun e w' => e = .returned (.tuple #[(.agg #[.int .i64 r0.1, .int .i64 r0.2.1, .int .i64 r0.2.2.1, .int .i64 r0.2.2.2]), .bool r1]) ∧ Below w.heap.size w w')
    (HI : ∀ (w : World), Calls Try.prog 17 #[(.agg #[.int .i64 x0.1, .int .i64 x0.2.1, .int .i64 x0.2.2.1, .int .i64 x0.2.2.2]), (.agg #[.int .i64 x1.1, .bool x1.2.1, .bool x1.2.2])] w fun e w' => e = .returned (.tuple #[(.agg #[.int .i64 r0.1, .int .i64 r0.2.1, .int .i64 r0.2.2.1, .int .i64 r0.2.2.2]), .bool r1]) ∧ Below w.heap.size w w') :
    Calls Try.prog 5 #[(.agg #[.int .i64 x0.1, .int .i64 x0.2.1, .int .i64 x0.2.2.1, .int .i64 x0.2.2.2]), (.agg #[.int .i64 x1.1, .bool x1.2.1, .bool x1.2.2])] w fun e w' => e = .returned (.bool true) ∧ Below w.heap.size w w' := by
  have HS' := hid HS
  have HI' := hid HI
  clear HS HI
  have hs1 : (w.alloc (.cells #[.int .i64 x0.1, .int .i64 x0.2.1, .int .i64 x0.2.2.1, .int .i64 x0.2.2.2] 28)).heap.size = w.heap.size + 1 := World.size_alloc ..
  have b1 : Below w.heap.size w (w.alloc (.cells #[.int .i64 x0.1, .int .i64 x0.2.1, .int .i64 x0.2.2.1, .int .i64 x0.2.2.2] 28)) := (Below.refl _ _).alloc (Nat.le_refl _) _
  have b2 : Below (w.heap.size + 1) (w.alloc (.cells #[.int .i64 x0.1, .int .i64 x0.2.1, .int .i64 x0.2.2.1, .int .i64 x0.2.2.2] 28)) ((w.alloc (.cells #[.int .i64 x0.1, .int .i64 x0.2.1, .int .i64 x0.2.2.1, .int .i64 x0.2.2.2] 28)).alloc (.cells #[.int .i64 x1.1, .bool x1.2.1, .bool x1.2.2] 33)) := (Below.refl _ _).alloc (by omega) _
  have KA := hid ((seeLaw_boxG w x0).below b2 (by omega))
  have KX : Hid (SnBox ((w.alloc (.cells #[.int .i64 x0.1, .int .i64 x0.2.1, .int .i64 x0.2.2.1, .int .i64 x0.2.2.2] 28)).alloc (.cells #[.int .i64 x1.1, .bool x1.2.1, .bool x1.2.2] 33)) (w.heap.size + 1) x1) := by have := seeLaw_boxX (w.alloc (.cells #[.int .i64 x0.1, .int .i64 x0.2.1, .int .i64 x0.2.2.1, .int .i64 x0.2.2.2] 28)) x1; rw [hs1] at this; exact this
  have B := hid (b1.trans (b2.mono (by omega)))
  clear b1 b2 hs1
  go_enter Try.func5, Try.ntmps5
  go_wp2_with fail
  obtain ⟨W1, hW⟩ : ∃ W, W = World.drew ((w.alloc (.cells #[.int .i64 x0.1, .int .i64 x0.2.1, .int .i64 x0.2.2.1, .int .i64 x0.2.2.2] 28)).alloc (.cells #[.int .i64 x1.1, .bool x1.2.1, .bool x1.2.2] 33)) := ⟨_, rfl⟩
  replace KA : Hid (GuCells W1 w.heap.size x0) := by rw [hW]; exact KA.out.drew
  replace KX : Hid (SnBox W1 (w.heap.size + 1) x1) := by rw [hW]; exact KX.out.drew
  replace B : Hid (Below w.heap.size w W1) := by rw [hW]; exact B.out.drew
  refine wp_region_inv (fun l a wr => ∃ (s0 s1 s2 s3 s4 s5 s6 s7 s8 s10 : Value), a = { tmps := #[(.agg #[.int .i64 x0.1, .int .i64 x0.2.1, .int .i64 x0.2.2.1, .int .i64 x0.2.2.2]), (.agg #[.int .i64 x1.1, .bool x1.2.1, .bool x1.2.2]), .pointer (some ⟨w.heap.size, 0, none⟩), .pointer (some ⟨w.heap.size + 1, 0, none⟩), .bool false, s8, s10, undef, undef, s5, s0, s1, s2, s3, s4, s6, s7, undef, undef, undef, undef, undef, undef, undef, undef, undef, undef, undef, undef, undef, undef, undef, undef, undef], defers := [] } ∧ SI W1 (.agg #[.int .i64 x0.1, .int .i64 x0.2.1, .int .i64 x0.2.2.1, .int .i64 x0.2.2.2]) (.agg #[.int .i64 x0.1, .int .i64 x0.2.1, .int .i64 x0.2.2.1, .int .i64 x0.2.2.2]) (.agg #[.int .i64 x1.1, .bool x1.2.1, .bool x1.2.2]) (.agg #[.int .i64 x1.1, .bool x1.2.1, .bool x1.2.2]) (.tuple #[(.agg #[.int .i64 r0.1, .int .i64 r0.2.1, .int .i64 r0.2.2.1, .int .i64 r0.2.2.2]), .bool r1]) (.tuple #[(.agg #[.int .i64 r0.1, .int .i64 r0.2.1, .int .i64 r0.2.2.1, .int .i64 r0.2.2.2]), .bool r1]) (.agg #[.int .i64 r0.1, .int .i64 r0.2.1, .int .i64 r0.2.2.1, .int .i64 r0.2.2.2]) (.bool r1) r0 l wr s0 s1 s2 s3 s4 s5 s6 s7 s8 s10) (by kernel_rfl) ?_ ?_ ?_
  · rw [← hW]
    exact ⟨_, _, _, _, _, _, _, _, _, _, rfl, SI.start⟩
  rotate_left
  · clear hW
    rintro l a wr i ⟨s0, s1, s2, s3, s4, s5, s6, s7, s8, s10, rfl, H⟩ hi
    obtain ⟨hun, o, ho, hall⟩ := mem_ready.1 hi
    have hlt : i < 11 := (Array.getElem?_eq_some_iff.1 ho).1
    have hno : ¬ up l i := up_not hun
    clear hi hun
    have hi : i = 0 ∨ i = 1 ∨ i = 2 ∨ i = 3 ∨ i = 4 ∨ i = 5 ∨ i = 6 ∨ i = 7 ∨ i = 8 ∨ i = 9 ∨ i = 10 := by omega
    rcases hi with rfl | rfl | rfl | rfl | rfl | rfl | rfl | rfl | rfl | rfl | rfl
    · have ho' : some _ = some o := ho
      injection ho' with ho'
      subst ho'
      clear hall ho hlt
      obtain ⟨q0, q1, q2, q3⟩ := (KA.out.below H.bel KA.out.lt)
      have HH := hid H
      clear H
      refine wpOp_step rfl (fun K hK => ?_)
      go_simp
      exact hK _ _ ⟨_, _, _, _, _, _, _, _, _, _, rfl, HH.out.set0 (Below.refl _ _)⟩
    · have ho' : some _ = some o := ho
      injection ho' with ho'
      subst ho'
      have u0 : up l 0 := hall ⟨0, .data⟩ (by simp) rfl
      clear hall ho hlt
      obtain rfl := H.f0 u0
      have HH := hid H
      clear H
      refine wpOp_step rfl (fun K hK => ?_)
      go_simp
      refine (toGuess_any x0.1 x0.2.1 x0.2.2.1 x0.2.2.2 _).mono ?_
      rintro e w2 ⟨rfl, b⟩
      exact hK _ _ ⟨_, _, _, _, _, _, _, _, _, _, rfl, HH.out.set1 b⟩
    · have ho' : some _ = some o := ho
      injection ho' with ho'
      subst ho'
      clear hall ho hlt
      obtain ⟨q0, q1, q2⟩ := (KX.out.below H.bel KX.out.lt)
      have HH := hid H
      clear H
      refine wpOp_step rfl (fun K hK => ?_)
      go_simp
      exact hK _ _ ⟨_, _, _, _, _, _, _, _, _, _, rfl, HH.out.set2 (Below.refl _ _)⟩
    · have ho' : some _ = some o := ho
      injection ho' with ho'
      subst ho'
      have u2 : up l 2 := hall ⟨2, .data⟩ (by simp) rfl
      clear hall ho hlt
      obtain rfl := H.f2 u2
      have HH := hid H
      clear H
      refine wpOp_step rfl (fun K hK => ?_)
      go_simp
      refine (toSeen_any x1.1 x1.2.1 x1.2.2 _).mono ?_
      rintro e w2 ⟨rfl, b⟩
      exact hK _ _ ⟨_, _, _, _, _, _, _, _, _, _, rfl, HH.out.set3 b⟩
    · have ho' : some _ = some o := ho
      injection ho' with ho'
      subst ho'
      have u1 : up l 1 := hall ⟨1, .data⟩ (by simp) rfl
      have u3 : up l 3 := hall ⟨3, .data⟩ (by simp) rfl
      clear hall ho hlt
      obtain rfl := H.f1 u1
      obtain rfl := H.f3 u3
      have HH := hid H
      clear H
      refine wpOp_step rfl (fun K hK => ?_)
      go_simp
      refine (HS'.out _).mono ?_
      rintro e w2 ⟨rfl, b⟩
      exact hK _ _ ⟨_, _, _, _, _, _, _, _, _, _, rfl, HH.out.set4 b⟩
    · have ho' : some _ = some o := ho
      injection ho' with ho'
      subst ho'
      have u4 : up l 4 := hall ⟨4, .data⟩ (by simp) rfl
      clear hall ho hlt
      obtain rfl := H.f4 u4
      have HH := hid H
      clear H
      refine wpOp_step rfl (fun K hK => ?_)
      go_simp
      exact hK _ _ ⟨_, _, _, _, _, _, _, _, _, _, rfl, HH.out.set5 (Below.refl _ _)⟩
    · have ho' : some _ = some o := ho
      injection ho' with ho'
      subst ho'
      have u5 : up l 5 := hall ⟨5, .data⟩ (by simp) rfl
      clear hall ho hlt
      obtain rfl := H.f5 u5
      have HH := hid H
      clear H
      refine wpOp_step rfl (fun K hK => ?_)
      go_simp
      exact hK _ _ ⟨_, _, _, _, _, _, _, _, _, _, rfl, HH.out.set6 (Below.refl _ _)⟩
    · have ho' : some _ = some o := ho
      injection ho' with ho'
      subst ho'
      have u5 : up l 5 := hall ⟨5, .data⟩ (by simp) rfl
      clear hall ho hlt
      obtain rfl := H.f5 u5
      have HH := hid H
      clear H
      refine wpOp_step rfl (fun K hK => ?_)
      go_simp
      exact hK _ _ ⟨_, _, _, _, _, _, _, _, _, _, rfl, HH.out.set7 (Below.refl _ _)⟩
    · have ho' : some _ = some o := ho
      injection ho' with ho'
      subst ho'
      clear hall ho hlt
      have HH := hid H
      clear H
      refine wpOp_step rfl (fun K hK => ?_)
      go_simp
      have kq := galloc4 wr (0, 0, 0, 0)
      exact hK _ _ ⟨_, _, _, _, _, _, _, _, _, _, rfl, HH.out.set8 hno ((Below.refl _ _).alloc (Nat.le_refl _) _) kq.1 kq.2⟩
    · have ho' : some _ = some o := ho
      injection ho' with ho'
      subst ho'
      have u8 : up l 8 := hall ⟨8, .data⟩ (by simp) rfl
      have u6 : up l 6 := hall ⟨6, .data⟩ (by simp) rfl
      have u0 : up l 0 := hall ⟨0, .phase⟩ (by simp) rfl
      have u1 : up l 1 := hall ⟨1, .phase⟩ (by simp) rfl
      have u2 : up l 2 := hall ⟨2, .phase⟩ (by simp) rfl
      have u3 : up l 3 := hall ⟨3, .phase⟩ (by simp) rfl
      have u4 : up l 4 := hall ⟨4, .phase⟩ (by simp) rfl
      have u5 : up l 5 := hall ⟨5, .phase⟩ (by simp) rfl
      clear hall ho hlt
      obtain rfl := H.f6 u6
      obtain ⟨bs1, rfl, hbs, hc, _⟩ := H.f8 u8
      obtain ⟨⟨y0, y1, y2, y3⟩, f0, f1, f2, f3⟩ := hc hno
      clear hc hbs
      have HH := hid H
      clear H
      refine wpOp_step rfl (fun K hK => ?_)
      go_simp
      exact hK _ _ ⟨_, _, _, _, _, _, _, _, _, _, rfl, HH.out.set9 u0 u1 u2 u3 u4 u5 u6 u8 hno⟩
    · have ho' : some _ = some o := ho
      injection ho' with ho'
      subst ho'
      have u7 : up l 7 := hall ⟨7, .data⟩ (by simp) rfl
      have u9 : up l 9 := hall ⟨9, .chain⟩ (by simp) rfl
      clear hall ho hlt
      obtain rfl := H.f7 u7
      have HH := hid H
      clear H
      refine wpOp_step rfl (fun K hK => ?_)
      go_simp
      exact hK _ _ ⟨_, _, _, _, _, _, _, _, _, _, rfl, HH.out.set10 (Below.refl _ _)⟩
  clear hW
  rintro l a wr ⟨s0, s1, s2, s3, s4, s5, s6, s7, s8, s10, rfl, H⟩ hrd
  have hall := up_allA hrd (H.sz.trans rfl) (by kernel_rfl)
  obtain rfl := H.f0 (hall 0 (by decide))
  obtain rfl := H.f1 (hall 1 (by decide))
  obtain rfl := H.f2 (hall 2 (by decide))
  obtain rfl := H.f3 (hall 3 (by decide))
  obtain rfl := H.f4 (hall 4 (by decide))
  obtain rfl := H.f5 (hall 5 (by decide))
  obtain rfl := H.f6 (hall 6 (by decide))
  obtain rfl := H.f7 (hall 7 (by decide))
  obtain rfl := H.f10 (hall 10 (by decide))
  obtain ⟨bs, rfl, hbs, _, hc⟩ := H.f8 (hall 8 (by decide))
  have KN := hid (hc (hall 9 (by decide)))
  replace KA := hid (KA.out.below H.bel KA.out.lt)
  replace KX := hid (KX.out.below H.bel KX.out.lt)
  replace B := hid (B.out.trans (H.bel.mono B.out.size))
  clear H hrd hall hc hbs
  have KS := KN
  clear KN
  go_wp2_with fail
  obtain ⟨W2, hW⟩ : ∃ W, W = World.drew (wr) := ⟨_, rfl⟩
  replace KA : Hid (GuCells W2 w.heap.size x0) := by rw [hW]; exact KA.out.drew
  replace KX : Hid (SnBox W2 (w.heap.size + 1) x1) := by rw [hW]; exact KX.out.drew
  replace B : Hid (Below w.heap.size w W2) := by rw [hW]; exact B.out.drew
  replace KS : Hid (GuCells W2 bs r0) := by rw [hW]; exact KS.out.drew
  refine wp_region_inv (fun l a wr => ∃ (s0 s1 s2 s3 s4 s5 s6 s7 s8 s10 : Value), a = { tmps := #[(.agg #[.int .i64 x0.1, .int .i64 x0.2.1, .int .i64 x0.2.2.1, .int .i64 x0.2.2.2]), (.agg #[.int .i64 x1.1, .bool x1.2.1, .bool x1.2.2]), .pointer (some ⟨w.heap.size, 0, none⟩), .pointer (some ⟨w.heap.size + 1, 0, none⟩), .bool false, .pointer (some ⟨bs, 0, none⟩), .bool r1, s8, s10, (.tuple #[(.agg #[.int .i64 r0.1, .int .i64 r0.2.1, .int .i64 r0.2.2.1, .int .i64 r0.2.2.2]), .bool r1]), (.agg #[.int .i64 x0.1, .int .i64 x0.2.1, .int .i64 x0.2.2.1, .int .i64 x0.2.2.2]), (.agg #[.int .i64 x0.1, .int .i64 x0.2.1, .int .i64 x0.2.2.1, .int .i64 x0.2.2.2]), (.agg #[.int .i64 x1.1, .bool x1.2.1, .bool x1.2.2]), (.agg #[.int .i64 x1.1, .bool x1.2.1, .bool x1.2.2]), (.tuple #[(.agg #[.int .i64 r0.1, .int .i64 r0.2.1, .int .i64 r0.2.2.1, .int .i64 r0.2.2.2]), .bool r1]), (.agg #[.int .i64 r0.1, .int .i64 r0.2.1, .int .i64 r0.2.2.1, .int .i64 r0.2.2.2]), .bool r1, s5, s0, s1, s2, s3, s4, s6, s7, undef, undef, undef, undef, undef, undef, undef, undef, undef], defers := [] } ∧ SI W2 (.agg #[.int .i64 x0.1, .int .i64 x0.2.1, .int .i64 x0.2.2.1, .int .i64 x0.2.2.2]) (.agg #[.int .i64 x0.1, .int .i64 x0.2.1, .int .i64 x0.2.2.1, .int .i64 x0.2.2.2]) (.agg #[.int .i64 x1.1, .bool x1.2.1, .bool x1.2.2]) (.agg #[.int .i64 x1.1, .bool x1.2.1, .bool x1.2.2]) (.tuple #[(.agg #[.int .i64 r0.1, .int .i64 r0.2.1, .int .i64 r0.2.2.1, .int .i64 r0.2.2.2]), .bool r1]) (.tuple #[(.agg #[.int .i64 r0.1, .int .i64 r0.2.1, .int .i64 r0.2.2.1, .int .i64 r0.2.2.2]), .bool r1]) (.agg #[.int .i64 r0.1, .int .i64 r0.2.1, .int .i64 r0.2.2.1, .int .i64 r0.2.2.2]) (.bool r1) r0 l wr s0 s1 s2 s3 s4 s5 s6 s7 s8 s10) (by kernel_rfl) ?_ ?_ ?_
  · rw [← hW]
    exact ⟨_, _, _, _, _, _, _, _, _, _, rfl, SI.start⟩
  rotate_left
  · clear hW
    rintro l a wr i ⟨s0, s1, s2, s3, s4, s5, s6, s7, s8, s10, rfl, H⟩ hi
    obtain ⟨hun, o, ho, hall⟩ := mem_ready.1 hi
    have hlt : i < 11 := (Array.getElem?_eq_some_iff.1 ho).1
    have hno : ¬ up l i := up_not hun
    clear hi hun
    have hi : i = 0 ∨ i = 1 ∨ i = 2 ∨ i = 3 ∨ i = 4 ∨ i = 5 ∨ i = 6 ∨ i = 7 ∨ i = 8 ∨ i = 9 ∨ i = 10 := by omega
    rcases hi with rfl | rfl | rfl | rfl | rfl | rfl | rfl | rfl | rfl | rfl | rfl
    · have ho' : some _ = some o := ho
      injection ho' with ho'
      subst ho'
      clear hall ho hlt
      obtain ⟨q0, q1, q2, q3⟩ := (KA.out.below H.bel KA.out.lt)
      have HH := hid H
      clear H
      refine wpOp_step rfl (fun K hK => ?_)
      go_simp
      exact hK _ _ ⟨_, _, _, _, _, _, _, _, _, _, rfl, HH.out.set0 (Below.refl _ _)⟩
    · have ho' : some _ = some o := ho
      injection ho' with ho'
      subst ho'
      have u0 : up l 0 := hall ⟨0, .data⟩ (by simp) rfl
      clear hall ho hlt
      obtain rfl := H.f0 u0
      have HH := hid H
      clear H
      refine wpOp_step rfl (fun K hK => ?_)
      go_simp
      refine (toGuess_any x0.1 x0.2.1 x0.2.2.1 x0.2.2.2 _).mono ?_
      rintro e w2 ⟨rfl, b⟩
      exact hK _ _ ⟨_, _, _, _, _, _, _, _, _, _, rfl, HH.out.set1 b⟩
    · have ho' : some _ = some o := ho
      injection ho' with ho'
      subst ho'
      clear hall ho hlt
      obtain ⟨q0, q1, q2⟩ := (KX.out.below H.bel KX.out.lt)
      have HH := hid H
      clear H
      refine wpOp_step rfl (fun K hK => ?_)
      go_simp
      exact hK _ _ ⟨_, _, _, _, _, _, _, _, _, _, rfl, HH.out.set2 (Below.refl _ _)⟩
    · have ho' : some _ = some o := ho
      injection ho' with ho'
      subst ho'
      have u2 : up l 2 := hall ⟨2, .data⟩ (by simp) rfl
      clear hall ho hlt
      obtain rfl := H.f2 u2
      have HH := hid H
      clear H
      refine wpOp_step rfl (fun K hK => ?_)
      go_simp
      refine (toSeen_any x1.1 x1.2.1 x1.2.2 _).mono ?_
      rintro e w2 ⟨rfl, b⟩
      exact hK _ _ ⟨_, _, _, _, _, _, _, _, _, _, rfl, HH.out.set3 b⟩
    · have ho' : some _ = some o := ho
      injection ho' with ho'
      subst ho'
      have u1 : up l 1 := hall ⟨1, .data⟩ (by simp) rfl
      have u3 : up l 3 := hall ⟨3, .data⟩ (by simp) rfl
      clear hall ho hlt
      obtain rfl := H.f1 u1
      obtain rfl := H.f3 u3
      have HH := hid H
      clear H
      refine wpOp_step rfl (fun K hK => ?_)
      go_simp
      refine (HI'.out _).mono ?_
      rintro e w2 ⟨rfl, b⟩
      exact hK _ _ ⟨_, _, _, _, _, _, _, _, _, _, rfl, HH.out.set4 b⟩
    · have ho' : some _ = some o := ho
      injection ho' with ho'
      subst ho'
      have u4 : up l 4 := hall ⟨4, .data⟩ (by simp) rfl
      clear hall ho hlt
      obtain rfl := H.f4 u4
      have HH := hid H
      clear H
      refine wpOp_step rfl (fun K hK => ?_)
      go_simp
      exact hK _ _ ⟨_, _, _, _, _, _, _, _, _, _, rfl, HH.out.set5 (Below.refl _ _)⟩
    · have ho' : some _ = some o := ho
      injection ho' with ho'
      subst ho'
      have u5 : up l 5 := hall ⟨5, .data⟩ (by simp) rfl
      clear hall ho hlt
      obtain rfl := H.f5 u5
      have HH := hid H
      clear H
      refine wpOp_step rfl (fun K hK => ?_)
      go_simp
      exact hK _ _ ⟨_, _, _, _, _, _, _, _, _, _, rfl, HH.out.set6 (Below.refl _ _)⟩
    · have ho' : some _ = some o := ho
      injection ho' with ho'
      subst ho'
      have u5 : up l 5 := hall ⟨5, .data⟩ (by simp) rfl
      clear hall ho hlt
      obtain rfl := H.f5 u5
      have HH := hid H
      clear H
      refine wpOp_step rfl (fun K hK => ?_)
      go_simp
      exact hK _ _ ⟨_, _, _, _, _, _, _, _, _, _, rfl, HH.out.set7 (Below.refl _ _)⟩
    · have ho' : some _ = some o := ho
      injection ho' with ho'
      subst ho'
      clear hall ho hlt
      have HH := hid H
      clear H
      refine wpOp_step rfl (fun K hK => ?_)
      go_simp
      have kq := galloc4 wr (0, 0, 0, 0)
      exact hK _ _ ⟨_, _, _, _, _, _, _, _, _, _, rfl, HH.out.set8 hno ((Below.refl _ _).alloc (Nat.le_refl _) _) kq.1 kq.2⟩
    · have ho' : some _ = some o := ho
      injection ho' with ho'
      subst ho'
      have u8 : up l 8 := hall ⟨8, .data⟩ (by simp) rfl
      have u6 : up l 6 := hall ⟨6, .data⟩ (by simp) rfl
      have u0 : up l 0 := hall ⟨0, .phase⟩ (by simp) rfl
      have u1 : up l 1 := hall ⟨1, .phase⟩ (by simp) rfl
      have u2 : up l 2 := hall ⟨2, .phase⟩ (by simp) rfl
      have u3 : up l 3 := hall ⟨3, .phase⟩ (by simp) rfl
      have u4 : up l 4 := hall ⟨4, .phase⟩ (by simp) rfl
      have u5 : up l 5 := hall ⟨5, .phase⟩ (by simp) rfl
      clear hall ho hlt
      obtain rfl := H.f6 u6
      obtain ⟨bs2, rfl, hbs, hc, _⟩ := H.f8 u8
      obtain ⟨⟨y0, y1, y2, y3⟩, f0, f1, f2, f3⟩ := hc hno
      clear hc hbs
      have HH := hid H
      clear H
      refine wpOp_step rfl (fun K hK => ?_)
      go_simp
      exact hK _ _ ⟨_, _, _, _, _, _, _, _, _, _, rfl, HH.out.set9 u0 u1 u2 u3 u4 u5 u6 u8 hno⟩
    · have ho' : some _ = some o := ho
      injection ho' with ho'
      subst ho'
      have u7 : up l 7 := hall ⟨7, .data⟩ (by simp) rfl
      have u9 : up l 9 := hall ⟨9, .chain⟩ (by simp) rfl
      clear hall ho hlt
      obtain rfl := H.f7 u7
      have HH := hid H
      clear H
      refine wpOp_step rfl (fun K hK => ?_)
      go_simp
      exact hK _ _ ⟨_, _, _, _, _, _, _, _, _, _, rfl, HH.out.set10 (Below.refl _ _)⟩
  clear hW
  rintro l a wr ⟨s0, s1, s2, s3, s4, s5, s6, s7, s8, s10, rfl, H⟩ hrd
  have hall := up_allA hrd (H.sz.trans rfl) (by kernel_rfl)
  obtain rfl := H.f0 (hall 0 (by decide))
  obtain rfl := H.f1 (hall 1 (by decide))
  obtain rfl := H.f2 (hall 2 (by decide))
  obtain rfl := H.f3 (hall 3 (by decide))
  obtain rfl := H.f4 (hall 4 (by decide))
  obtain rfl := H.f5 (hall 5 (by decide))
  obtain rfl := H.f6 (hall 6 (by decide))
  obtain rfl := H.f7 (hall 7 (by decide))
  obtain rfl := H.f10 (hall 10 (by decide))
  obtain ⟨bi, rfl, hbs, _, hc⟩ := H.f8 (hall 8 (by decide))
  have KN := hid (hc (hall 9 (by decide)))
  replace KA := hid (KA.out.below H.bel KA.out.lt)
  replace KX := hid (KX.out.below H.bel KX.out.lt)
  replace KS := hid (KS.out.below H.bel KS.out.lt)
  replace B := hid (B.out.trans (H.bel.mono B.out.size))
  clear H hrd hall hc hbs
  obtain ⟨p0, p1, p2, p3⟩ := KN.out
  obtain ⟨k0, k1, k2, k3⟩ := KS.out
  go_wp2_with fail
  refine (eqGuess_same r0.1 r0.2.1 r0.2.2.1 r0.2.2.2 _).mono ?_
  rintro e w5 ⟨rfl, b⟩
  replace B := hid (B.out.trans (b.mono B.out.size))
  clear b p0 p1 p2 p3 k0 k1 k2 k3
  go_wp2
  go_ret
  exact ⟨rfl, B.out⟩
end Go.Proofs.Yteeaebelknpdjbb
