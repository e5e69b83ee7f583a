/-
  spec.PlayGreet: the steps one behind the other. Nothing old is written.
-/
import Derived.Test.YtdlkilacnnjglaaIPlayG
import Derived.Test.YtdlkilacnnjglaaSSt1
import Derived.Test.YtdlkilacnnjglaaSOwn15
import Derived.Test.YtdlkilacnnjglaaRegInv
import Derived.Deep.MidRow
namespace Go.Proofs.Ytdlkilacnnjglaa
open Go.RowKit Go.Sort

set_option maxRecDepth 100000 in
theorem snewGr_lit (w : World) : Calls Try.prog 61 #[] w fun e w' => e = .returned (.agg #[.int .i64 0, .int .i64 0, .int .i64 0, .int .i64 0, .int .i64 0, .int .i64 0, .int .i64 100, .int .i64 0, .slice none 0 0, .slice none 0 0, .slice none 0 0]) ∧ Below w.heap.size w w' := by
  go_enter Try.func61, Try.ntmps61
  go_wp2
  exact bodyPost_ret (v := .agg #[.int .i64 0, .int .i64 0, .int .i64 0, .int .i64 0, .int .i64 0, .int .i64 0, .int .i64 100, .int .i64 0, .slice none 0 0, .slice none 0 0, .slice none 0 0]) (by simp [results, Try.results61, go_sem]) rfl ⟨rfl, (Below.refl _ _).alloc (Nat.le_refl _) _⟩
set_option maxRecDepth 100000 in
set_option maxHeartbeats 16000000 in
theorem splayGr_any (v : Value) (xs : List (Int × Int)) (w : World) (hr : GsReads w v xs) (hn : xs.length ≤ 120) :
    Calls Try.prog 26 #[v] w fun e w' => ∃ u s, e = .returned (.tuple #[u, s, .bool true]) ∧ PlTells w w' u s (playG xs xs.length).1 (playG xs xs.length).2 := by
  have HR := hid hr
  obtain ⟨va, vc, rfl, _, _⟩ := hr
  have bA : Below w.heap.size w (w.alloc (.cells zeroC.toArray 49)) := (Below.refl _ _).alloc (Nat.le_refl _) _
  have rA := boxL_new w zeroC 49
  have sA : (w.alloc (.cells zeroC.toArray 49)).heap.size = w.heap.size + 1 := by simp
  go_enter Try.func26, Try.ntmps26
  go_wp2_with fail
  refine (snewGr_lit _).mono ?_
  rintro e w1 ⟨rfl, b⟩
  change Below (w.alloc (.cells zeroC.toArray 49)).heap.size (w.alloc (.cells zeroC.toArray 49)) w1 at b
  have hs1 := b.size
  have P0 : Hid (PlG w1.heap.size w (w1.alloc (.cells #[.int .i64 0, .int .i64 0, .int .i64 0, .int .i64 0, .int .i64 0, .int .i64 0, .int .i64 100, .int .i64 0, .slice none 0 0, .slice none 0 0, .slice none 0 0] 49)) newG (.slice none 0 0) (.slice none 0 0) (.slice none 0 0) (.slice none 0 0) 0 []) := by
    have bB : Below w1.heap.size w1 (w1.alloc (.cells #[.int .i64 0, .int .i64 0, .int .i64 0, .int .i64 0, .int .i64 0, .int .i64 0, .int .i64 100, .int .i64 0, .slice none 0 0, .slice none 0 0, .slice none 0 0] 49)) := (Below.refl _ _).alloc (Nat.le_refl _) _
    have b1 : Below w.heap.size w w1 := bA.trans (b.mono (by omega))
    have r1 : BoxL w1 w.heap.size zeroC := rA.below b (by omega)
    exact PlG.start (boxL_new w1 _ 49) rfl rfl rfl (r1.below bB r1.lt) (b1.trans (bB.mono b1.size)) (by omega)
  clear bA rA sA b hs1
  go_wp2
  go_loopw [6, 18] (fun s i wr => ∃ (k : Nat) (v8 v9 v10 : Value), k ≤ xs.length ∧ i = .int .i64 (k : Nat) ∧ PlG w1.heap.size w wr (playG xs k).1 v8 v9 v10 s k (playG xs k).2) (fun _ i _ => xs.length - (intOf i).toNat)
  case atStart => exact ⟨0, _, _, _, Nat.zero_le _, rfl, P0.out⟩
  case round =>
    obtain ⟨k, v8, v9, v10, hk, rfl, hP⟩ := hrel
    have hpg := playG_good xs k (by omega)
    have HP := hid hP
    have hbel := hP.bel.size
    have hlo := hP.lo
    obtain ⟨a8, c8, a9, c9, a10, c10, rfl, rfl, rfl⟩ := hP.rows.form
    have HBX0 := hid hP.box.lt
    have HDL : Hid (∀ g, u6.ownBlock = some g → g < wr.heap.size) := fun g hg => (heowns_lt hP.did g hg).2
    clear hP P0
    by_cases hlt : k < xs.length
    · obtain ⟨g, o, cap', e, hc⟩ := HR.out.cells k hlt
      cases e
      obtain ⟨x, hx⟩ : ∃ x, xs.getD k (0, 0) = x := ⟨_, rfl⟩
      have cx := (hc k hlt).below HP.out.bel (hc k hlt).lt
      have hps := playG_succ xs k
      rw [hx] at cx hps
      have HPS := hid hps
      obtain ⟨x1, x2⟩ := x
      obtain ⟨cx1, cx2⟩ := cx
      replace cx1 : wr.cell? ⟨g, o + k * 2, none⟩ = some (.int .i64 x1) := cx1
      replace cx2 : wr.cell? ⟨g, o + k * 2 + 1, none⟩ = some (.int .i64 x2) := cx2
      obtain ⟨D, hD⟩ : ∃ D, (playG xs k).1 = D := ⟨_, rfl⟩
      obtain ⟨bs, hbs⟩ : ∃ bs, (playG xs k).2 = bs := ⟨_, rfl⟩
      obtain ⟨D1, hD1⟩ : ∃ D1, (stepG D x1 x2).1 = D1 := ⟨_, rfl⟩
      obtain ⟨t, ht⟩ : ∃ t, (stepG D x1 x2).2 = t := ⟨_, rfl⟩
      have hno : t = false → D1 = D := fun h => by rw [← hD1]; exact stepG_no (by rw [ht]; exact h)
      have HNO := hid hno
      rw [hD] at hpg
      simp only [hD, hbs] at HP
      have hps' : playG xs (k + 1) = (D1, bs ++ [t]) := by rw [HPS.out, hD, hbs, hD1, ht]
      replace HPS := hid hps'
      have HD1 := hid hD1
      have HT := hid ht
      have HG := hid hpg.1
      have H9 : Hid (D.f9.length < 300) := by have := hpg.2.1; show _ < _; omega
      have H10 : Hid (D.f10.length < 300) := by have := hpg.2.2; show _ < _; omega
      have HW1 : Hid (w.heap.size ≤ wr.heap.size) := hbel
      clear hc hx hps hps' hD hbs hD1 ht hno hpg
      have n0 : (0 : Int) ≤ (k : Int) := by omega
      have m1 : (k : Int) < (xs.length : Int) := by omega
      have HX : Hid (D.f8.length ≤ 300) := by have := HG.out.n8; show _ ≤ _; omega
      have HST : Hid (StepTells 62 D x1 x2) := sstep_tells D x1 x2 HG.out.x HG.out.y H9.out H10.out
      obtain ⟨W, hW⟩ : ∃ W, W = wr.alloc (.cells #[.int .i64 x1, .int .i64 x2] 91) := ⟨_, rfl⟩
      have AB : Hid (Below wr.heap.size wr W) := by show Below _ _ _; rw [hW]; exact (Below.refl _ _).alloc (Nat.le_refl _) _
      have SB : Hid (BoxL W wr.heap.size [.int .i64 x1, .int .i64 x2]) := by show BoxL _ _ _; rw [hW]; exact boxL_new wr _ 91
      have HRD : Hid (GrReads W (.agg #[.int .i64 D.f0, .int .i64 D.f1, .int .i64 D.f2, .int .i64 D.f3, .int .i64 D.f4, .int .i64 D.f5, .int .i64 D.f6, .int .i64 D.f7, .slice a8 D.f8.length c8, .slice a9 D.f9.length c9, .slice a10 D.f10.length c10]) D) := GrReads.below ⟨_, _, _, rfl, HP.out.rows.rows.1, HP.out.rows.rows.2.1, HP.out.rows.rows.2.2⟩ AB.out
      replace HP := hid (HP.out.below AB.out)
      have HWS0 : Hid (wr.heap.size ≤ W.heap.size) := by show _ ≤ _; rw [hW, World.size_alloc]; omega
      have HWW := hid hW
      clear hW AB
      go_upto_region 8 with fail
      rw [← HWW.out]
      clear HWW cx1 cx2
      obtain ⟨y0, y1⟩ := SB.out.two
      obtain ⟨q0, q1, q2, q3, q4, q5, q6, q7, q8, q9, q10⟩ := BoxL.eleven (a0 := .int .i64 D.f0) (a1 := .int .i64 D.f1) (a2 := .int .i64 D.f2) (a3 := .int .i64 D.f3) (a4 := .int .i64 D.f4) (a5 := .int .i64 D.f5) (a6 := .int .i64 D.f6) (a7 := .int .i64 D.f7) (HP.out.box)
      go_wp2_with fail
      obtain ⟨X, hX⟩ : ∃ X, X = W.drew := ⟨_, rfl⟩
      have HWS : Hid (wr.heap.size ≤ W.heap.size) := HWS0.out
      have bX : Below W.heap.size W X := by rw [hX]; exact (Below.refl _ _).drew
      have hsX : X.heap.size = W.heap.size := by rw [hX]; rfl
      replace HP := hid (HP.out.below bX)
      replace SB := hid (SB.out.below bX SB.out.lt)
      replace HRD := hid (HRD.out.below bX)
      have PBX : Hid (BoxL X w1.heap.size [.int .i64 D.f0, .int .i64 D.f1, .int .i64 D.f2, .int .i64 D.f3, .int .i64 D.f4, .int .i64 D.f5, .int .i64 D.f6, .int .i64 D.f7, .slice a8 D.f8.length c8, .slice a9 D.f9.length c9, .slice a10 D.f10.length c10]) := HP.out.box
      have HSX := hid hsX
      have HXX := hid hX
      clear hX bX hsX y0 y1 q0 q1 q2 q3 q4 q5 q6 q7 q8 q9 q10
      obtain ⟨d0, d1, d2, d3, d4, d5, d6, d7, M8, M9, M10⟩ := D1
      refine wp_region_inv (fun l a wq => ∃ (s23 s24 s25 s26 s22 s27 s28 s9 s10 y8 y9 y10 z8 z9 z10 : Value) (bx : Nat), a = { tmps := #[Value.slice (some { block := g, off := o }) xs.length vc, undef, Value.pointer (some { block := w.heap.size, off := 0 }), Value.slice none 0 0, Value.bool false, Value.pointer (some { block := w1.heap.size, off := 0 }), u6, undef, Value.pointer (some { block := wr.heap.size, off := 0 }), s9, s10, Value.slice (some { block := g, off := o }) xs.length vc, Value.int IntKind.i64 ↑xs.length, Value.bool (decide ((120 : Int) < (xs.length : Int))), undef, Value.agg #[Value.int IntKind.i64 0, Value.int IntKind.i64 0, Value.int IntKind.i64 0, Value.int IntKind.i64 0, Value.int IntKind.i64 0, Value.int IntKind.i64 0, Value.int IntKind.i64 100, Value.int IntKind.i64 0, Value.slice none 0 0, Value.slice none 0 0, Value.slice none 0 0], Value.slice (some { block := g, off := o }) xs.length vc, Value.int IntKind.i64 ↑xs.length, Value.int IntKind.i64 ↑k, Value.bool true, Value.pointer (some { block := g, off := o + k * 2 }), Value.agg #[Value.int IntKind.i64 x1, Value.int IntKind.i64 x2], s22, s23, s24, s25, s26, s27, s28, u29, u30, u31, u32, u33, u34, u35, undef, undef, undef], defers := [] } ∧ OsG X D ⟨d0, d1, d2, d3, d4, d5, d6, d7, M8, M9, M10⟩ t (.agg #[.int .i64 D.f0, .int .i64 D.f1, .int .i64 D.f2, .int .i64 D.f3, .int .i64 D.f4, .int .i64 D.f5, .int .i64 D.f6, .int .i64 D.f7, .slice a8 D.f8.length c8, .slice a9 D.f9.length c9, .slice a10 D.f10.length c10]) (.agg #[.int .i64 x1, .int .i64 x2]) l wq s23 s24 s25 s26 s22 s27 s28 s9 s10 y8 y9 y10 z8 z9 z10 bx) (by kernel_rfl) ?_ ?_ ?_
      · rw [← HXX.out]
        exact ⟨u23, u24, u25, u26, u22, u27, u28, u9, u10, undef, undef, undef, undef, undef, undef, 0, rfl, by simp, Below.refl _ _, fun h => (up_none h).elim, fun h => (up_none h).elim, fun h => (up_none h).elim, fun h => (up_none h).elim, fun h => (up_none h).elim, fun h => (up_none h).elim, fun h => (up_none h).elim, fun h => (up_none h).elim, fun h => (up_none h).elim, fun h => (up_none h).elim, fun h => (up_none h).elim, fun h => (up_none h).elim, fun h => (up_none h).elim, fun h => (up_none h).elim⟩
      · rintro l a wr2 ⟨s23, s24, s25, s26, s22, s27, s28, s9, s10, y8, y9, y10, z8, z9, z10, bx, rfl, H⟩ hrd
        have hall := up_all2 hrd (H.ls.trans rfl) (by kernel_rfl)
        obtain ⟨e9, hbx⟩ := H.b1 (hall 7 (by decide))
        obtain rfl := H.f9 (hall 9 (by decide))
        subst e9
        obtain ⟨_, hR⟩ := H.r2 (hall 3 (by decide))
        have NB := hid (H.b3 (hall 8 (by decide))).1
        have hbel2 := H.bel
        clear H hall hrd
        have HU0 := hid hR
        have HBEL2 := hid hbel2
        obtain ⟨b8, m8, b9, m9, b10, m10, rfl, rfl, rfl⟩ := hR.form
        replace HP := hid (HP.out.below hbel2)
        have HBX2 := hid hbx
        clear hR hbx hbel2 PBX HRD SB HST
        obtain ⟨as', cs', rfl, _⟩ := heowns_form HP.out.did
        have hkk : k + 1 ≤ 1000000 := by omega
        have HKK := hid hkk
        have HU := hid HU0.out
        clear HU0
        have HLO := hid (show w1.heap.size + 1 ≤ wr2.heap.size by have := HP.out.box.lt; omega)
        have HBX : Hid (w1.heap.size < wr.heap.size) := HBX0.out
        have HFU : Hid (∀ g, (Value.slice as' k cs').ownBlock = some g → ¬ Bk (.slice b8 M8.length m8) (.slice b9 M9.length m9) (.slice b10 M10.length m10) g) := fun g hg hk => by
          have h1 := (HU.out.blk hk).1
          have h2 := HDL.out g hg
          have h3 := HSX.out
          have h4 := HWS.out
          omega
        clear hkk
        cases t
        · rw [HNO.out rfl] at HPS
          have bY : Below wr2.heap.size wr2 (wr2.alloc (.cells #[.bool false] 4)) := (Below.refl _ _).alloc (Nat.le_refl _) _
          have HPY := hid (HP.out.below bY)
          clear bY
          go_wp2_with (at_builtin; refine wpList_append_bo _ rfl _ _ rfl (w1.heap.size + 1) _ k bs rfl HPY.out.did _ [false] rfl (boreads_one _ false _) HKK.out (by rw [World.size_alloc]; have := HLO.out; omega) ?_)
          intro v' w' h1 h2 h3
          have PF := hid (HPY.out.app h1 h2 h3 (Nat.le_of_eq (World.size_alloc _ _)))
          obtain ⟨a', c', rfl, _⟩ := heowns_form h1
          clear h1 h2 h3
          go_wp2
          go_roundw
          case rel =>
            first
              | exact ⟨_, _, _, _, _, _, _, _, _, _, _, _, _, _, _, _, _, _, _, _, _, _, ⟨k + 1, _, _, _, by omega, by go_num, by rw [HPS.out]; exact PF.out⟩, rfl⟩
              | exact ⟨k + 1, _, _, _, by omega, by go_num, by rw [HPS.out]; exact PF.out⟩
          case measure => simp [intOf]; omega
        · obtain ⟨p0, p1, p2, p3, p4, p5, p6, p7, p8, p9, p10⟩ := NB.out.eleven
          obtain ⟨q0, q1, q2, q3, q4, q5, q6, q7, q8, q9, q10⟩ := BoxL.eleven (a0 := .int .i64 D.f0) (a1 := .int .i64 D.f1) (a2 := .int .i64 D.f2) (a3 := .int .i64 D.f3) (a4 := .int .i64 D.f4) (a5 := .int .i64 D.f5) (a6 := .int .i64 D.f6) (a7 := .int .i64 D.f7) (HP.out.box)
          obtain ⟨f0, f1, f2, f3, f4, f5, f6, f7, f8, f9, f10⟩ := BoxL.frozen11 (a0 := .int .i64 D.f0) (a1 := .int .i64 D.f1) (a2 := .int .i64 D.f2) (a3 := .int .i64 D.f3) (a4 := .int .i64 D.f4) (a5 := .int .i64 D.f5) (a6 := .int .i64 D.f6) (a7 := .int .i64 D.f7) (HP.out.box)
          have hput := HP.out.put (D' := ⟨d0, d1, d2, d3, d4, d5, d6, d7, M8, M9, M10⟩) (u8 := .slice b8 M8.length m8) (u9 := .slice b9 M9.length m9) (u10 := .slice b10 M10.length m10) (HU.out.mono (by have h1 := HBX.out; have h2 := HSX.out; have h3 := HWS.out; omega)) HFU.out
          try dsimp only at hput
          obtain ⟨Z, hZ⟩ : ∃ Z, Z = put11 wr2 w1.heap.size (.int .i64 d0) (.int .i64 d1) (.int .i64 d2) (.int .i64 d3) (.int .i64 d4) (.int .i64 d5) (.int .i64 d6) (.int .i64 d7) (.slice b8 M8.length m8) (.slice b9 M9.length m9) (.slice b10 M10.length m10) := ⟨_, rfl⟩
          rw [← hZ] at hput
          unfold put11 at hZ
          have hLZ : w1.heap.size + 1 ≤ Z.heap.size := by have := hput.box.lt; omega
          have bY : Below Z.heap.size Z (Z.alloc (.cells #[.bool true] 4)) := (Below.refl _ _).alloc (Nat.le_refl _) _
          have HPY := hid (hput.below bY)
          have HLZ := hid hLZ
          have HZ := hid hZ
          clear bY hput hLZ hZ
          go_upto_region 11 with fail
          rw [← HZ.out]
          clear HZ
          go_wp2_with (at_builtin; refine wpList_append_bo _ rfl _ _ rfl (w1.heap.size + 1) _ k bs rfl HPY.out.did _ [true] rfl (boreads_one _ true _) HKK.out (by rw [World.size_alloc]; have := HLZ.out; omega) ?_)
          intro v' w' h1 h2 h3
          have PF := hid (HPY.out.app h1 h2 h3 (Nat.le_of_eq (World.size_alloc _ _)))
          obtain ⟨a', c', rfl, _⟩ := heowns_form h1
          clear h1 h2 h3
          go_wp2
          go_roundw
          case rel =>
            first
              | exact ⟨_, _, _, _, _, _, _, _, _, _, _, _, _, _, _, _, _, _, _, _, _, _, ⟨k + 1, _, _, _, by omega, by go_num, by rw [HPS.out]; exact PF.out⟩, rfl⟩
              | exact ⟨k + 1, _, _, _, by omega, by go_num, by rw [HPS.out]; exact PF.out⟩
          case measure => simp [intOf]; omega
      · rintro l a wr2 i ⟨s23, s24, s25, s26, s22, s27, s28, s9, s10, y8, y9, y10, z8, z9, z10, bx, rfl, H⟩ hi
        obtain ⟨hun, o', ho, hall⟩ := mem_ready.1 hi
        have hlt2 : i < 10 := (Array.getElem?_eq_some_iff.1 ho).1
        have hno : ¬ up l i := up_not hun
        clear hi hun
        have hi : i = 0 ∨ i = 1 ∨ i = 2 ∨ i = 3 ∨ i = 4 ∨ i = 5 ∨ i = 6 ∨ i = 7 ∨ i = 8 ∨ i = 9 := by omega
        rcases hi with rfl | rfl | rfl | rfl | rfl | rfl | rfl | rfl | rfl | rfl
        · have ho' : some _ = some o' := ho
          injection ho' with ho'
          subst ho'
          clear hall ho hlt2
          obtain ⟨q0, q1, q2, q3, q4, q5, q6, q7, q8, q9, q10⟩ := (PBX.out.below H.bel PBX.out.lt).eleven
          refine wpOp_step rfl (fun K hK => ?_)
          go_simp
          refine hK _ _ ⟨_, _, _, _, _, _, _, _, _, y8, y9, y10, z8, z9, z10, bx, rfl, ⟨?_, ?_, ?_, ?_, ?_, ?_, ?_, ?_, ?_, ?_, ?_, ?_, ?_, ?_, ?_, ?_⟩⟩
          · exact by rw [Array.size_setIfInBounds]; exact H.ls
          · exact H.bel
          · exact fun _ => rfl
          · exact fun h => H.f2 (up_old h (by decide))
          · exact fun h h3 => H.r1 (up_old h (by decide)) fun h' => h3 (rcKeep h')
          · exact fun h => H.r2 (up_old h (by decide))
          · exact fun h => rcKeep (H.d3 (up_old h (by decide)))
          · exact fun h => have g := H.f4 (up_old h (by decide)); ⟨g.1, rcKeep g.2⟩
          · exact fun h => have g := H.f5 (up_old h (by decide)); ⟨g.1, rcKeep g.2⟩
          · exact fun h => have g := H.f6 (up_old h (by decide)); ⟨g.1, rcKeep g.2⟩
          · exact fun h => H.b1 (up_old h (by decide))
          · exact fun h h8 => H.b2 (up_old h (by decide)) fun h' => h8 (rcKeep h')
          · exact fun h => have g := H.b3 (up_old h (by decide)); ⟨g.1, rcKeep g.2.1, rcKeep g.2.2⟩
          · exact fun h h1 h3 => H.g1 (up_old h (by decide)) (up_old h1 (by decide)) fun h' => h3 (rcKeep h')
          · exact fun h h3 => H.g2 (up_old h (by decide)) (up_old h3 (by decide))
          · exact fun h => H.f9 (up_old h (by decide))
        · have ho' : some _ = some o' := ho
          injection ho' with ho'
          subst ho'
          have u0 : up l 0 := hall ⟨0, .data⟩ (by simp) rfl
          clear hall ho hlt2
          obtain rfl := H.f0 u0
          refine wpOp_step rfl (fun K hK => ?_)
          go_simp
          refine (l15Own_any D _ _ (HRD.out.below H.bel) HX.out (Nat.le_of_lt H9.out) (Nat.le_of_lt H10.out)).mono ?_
          rintro e w2 ⟨u, rfl, ⟨v8, v9, v10, rfl, hU⟩, b2⟩
          refine hK _ _ ⟨_, _, _, _, _, _, _, _, _, v8, v9, v10, z8, z9, z10, bx, rfl, ⟨?_, ?_, ?_, ?_, ?_, ?_, ?_, ?_, ?_, ?_, ?_, ?_, ?_, ?_, ?_, ?_⟩⟩
          · exact by rw [Array.size_setIfInBounds]; exact H.ls
          · exact H.bel.trans (b2.mono H.bel.size)
          · exact fun h => H.f0 (up_old h (by decide))
          · exact fun h => H.f2 (up_old h (by decide))
          · exact fun _ _ => ⟨rfl, hU.mono H.bel.size⟩
          · exact fun h => absurd (H.d3 (up_old h (by decide))) hno
          · exact fun _ => (up_set (by rw [H.ls]; decide))
          · exact fun h => absurd (H.d3 (H.f4 (up_old h (by decide))).2) hno
          · exact fun h => absurd (H.d3 (H.f4 (H.f5 (up_old h (by decide))).2).2) hno
          · exact fun h => absurd (H.d3 (H.f4 (H.f6 (up_old h (by decide))).2).2) hno
          · exact fun h => H.b1 (up_old h (by decide))
          · exact fun h h8 => (H.b2 (up_old h (by decide)) fun h' => h8 (rcKeep h')).below b2 (H.b2 (up_old h (by decide)) fun h' => h8 (rcKeep h')).lt
          · exact fun h => absurd (H.d3 (H.f4 (H.f5 (H.b3 (up_old h (by decide))).2.2).2).2) hno
          · exact fun h _ _ hk => by
              have h1 := (hU.blk hk).1
              have h2 := (H.b2 (up_old h (by decide)) fun h' => hno (H.d3 (H.f4 (H.f5 (H.b3 h').2.2).2).2)).lt
              omega
          · exact fun _ h => absurd (H.d3 (up_old h (by decide))) hno
          · exact fun h => H.f9 (up_old h (by decide))
        · have ho' : some _ = some o' := ho
          injection ho' with ho'
          subst ho'
          clear hall ho hlt2
          obtain ⟨g0, g1⟩ := (SB.out.below H.bel SB.out.lt).two
          refine wpOp_step rfl (fun K hK => ?_)
          go_simp
          refine hK _ _ ⟨_, _, _, _, _, _, _, _, _, y8, y9, y10, z8, z9, z10, bx, rfl, ⟨?_, ?_, ?_, ?_, ?_, ?_, ?_, ?_, ?_, ?_, ?_, ?_, ?_, ?_, ?_, ?_⟩⟩
          · exact by rw [Array.size_setIfInBounds]; exact H.ls
          · exact H.bel
          · exact fun h => H.f0 (up_old h (by decide))
          · exact fun _ => rfl
          · exact fun h h3 => H.r1 (up_old h (by decide)) fun h' => h3 (rcKeep h')
          · exact fun h => H.r2 (up_old h (by decide))
          · exact fun h => rcKeep (H.d3 (up_old h (by decide)))
          · exact fun h => have g := H.f4 (up_old h (by decide)); ⟨g.1, rcKeep g.2⟩
          · exact fun h => have g := H.f5 (up_old h (by decide)); ⟨g.1, rcKeep g.2⟩
          · exact fun h => have g := H.f6 (up_old h (by decide)); ⟨g.1, rcKeep g.2⟩
          · exact fun h => H.b1 (up_old h (by decide))
          · exact fun h h8 => H.b2 (up_old h (by decide)) fun h' => h8 (rcKeep h')
          · exact fun h => have g := H.b3 (up_old h (by decide)); ⟨g.1, rcKeep g.2.1, rcKeep g.2.2⟩
          · exact fun h h1 h3 => H.g1 (up_old h (by decide)) (up_old h1 (by decide)) fun h' => h3 (rcKeep h')
          · exact fun h h3 => H.g2 (up_old h (by decide)) (up_old h3 (by decide))
          · exact fun h => H.f9 (up_old h (by decide))
        · have ho' : some _ = some o' := ho
          injection ho' with ho'
          subst ho'
          have u1 : up l 1 := hall ⟨1, .data⟩ (by simp) rfl
          have u2 : up l 2 := hall ⟨2, .data⟩ (by simp) rfl
          clear hall ho hlt2
          have hA := H.r1 u1 hno
          obtain rfl := hA.1
          obtain rfl := H.f2 u2
          refine wpOp_step rfl (fun K hK => ?_)
          go_simp
          refine (HST.out X.heap.size y8 y9 y10 _ H.bel.size hA.2).mono ?_
          rintro e w3 ⟨u, rfl, v8, v9, v10, rfl, hR, hM⟩
          rw [HD1.out] at hR
          rw [HT.out, HD1.out]
          refine hK _ _ ⟨_, _, _, _, _, _, _, _, _, y8, y9, y10, v8, v9, v10, bx, rfl, ⟨?_, ?_, ?_, ?_, ?_, ?_, ?_, ?_, ?_, ?_, ?_, ?_, ?_, ?_, ?_, ?_⟩⟩
          · exact by rw [Array.size_setIfInBounds]; exact H.ls
          · exact H.bel.trans (hM.below hA.2 H.bel.size)
          · exact fun h => H.f0 (up_old h (by decide))
          · exact fun h => H.f2 (up_old h (by decide))
          · exact fun _ h => absurd (up_set (by rw [H.ls]; decide)) h
          · exact fun _ => ⟨rfl, hR⟩
          · exact fun _ => rcKeep u1
          · exact fun h => absurd (H.f4 (up_old h (by decide))).2 hno
          · exact fun h => absurd (H.f4 (H.f5 (up_old h (by decide))).2).2 hno
          · exact fun h => absurd (H.f4 (H.f6 (up_old h (by decide))).2).2 hno
          · exact fun h => H.b1 (up_old h (by decide))
          · exact fun h h8 => (H.b2 (up_old h (by decide)) fun h' => h8 (rcKeep h')).mv hM (H.g1 (up_old h (by decide)) u1 hno)
          · exact fun h => absurd (H.f4 (H.f5 (H.b3 (up_old h (by decide))).2.2).2).2 hno
          · exact fun _ _ h => absurd (up_set (by rw [H.ls]; decide)) h
          · exact fun h _ => hM.notBk (H.g1 (up_old h (by decide)) u1 hno) (H.b2 (up_old h (by decide)) fun h' => hno (H.f4 (H.f5 (H.b3 h').2.2).2).2).lt
          · exact fun h => H.f9 (up_old h (by decide))
        · have ho' : some _ = some o' := ho
          injection ho' with ho'
          subst ho'
          have u3 : up l 3 := hall ⟨3, .data⟩ (by simp) rfl
          clear hall ho hlt2
          have e3 := (H.r2 u3).1
          subst e3
          refine wpOp_step rfl (fun K hK => ?_)
          go_simp
          refine hK _ _ ⟨_, _, _, _, _, _, _, _, _, y8, y9, y10, z8, z9, z10, bx, rfl, ⟨?_, ?_, ?_, ?_, ?_, ?_, ?_, ?_, ?_, ?_, ?_, ?_, ?_, ?_, ?_, ?_⟩⟩
          · exact by rw [Array.size_setIfInBounds]; exact H.ls
          · exact H.bel
          · exact fun h => H.f0 (up_old h (by decide))
          · exact fun h => H.f2 (up_old h (by decide))
          · exact fun _ h3 => absurd (rcKeep u3) h3
          · exact fun h => H.r2 (up_old h (by decide))
          · exact fun h => rcKeep (H.d3 (up_old h (by decide)))
          · exact fun _ => ⟨rfl, rcKeep u3⟩
          · exact fun h => absurd (H.f5 (up_old h (by decide))).2 hno
          · exact fun h => absurd (H.f6 (up_old h (by decide))).2 hno
          · exact fun h => H.b1 (up_old h (by decide))
          · exact fun h h8 => H.b2 (up_old h (by decide)) fun h' => h8 (rcKeep h')
          · exact fun h => absurd (H.f5 (H.b3 (up_old h (by decide))).2.2).2 hno
          · exact fun _ _ h3 => absurd (rcKeep u3) h3
          · exact fun h h3 => H.g2 (up_old h (by decide)) (up_old h3 (by decide))
          · exact fun h => H.f9 (up_old h (by decide))
        · have ho' : some _ = some o' := ho
          injection ho' with ho'
          subst ho'
          have u4 : up l 4 := hall ⟨4, .data⟩ (by simp) rfl
          clear hall ho hlt2
          have u3 := (H.f4 u4).2
          have e4 := (H.f4 u4).1
          subst e4
          refine wpOp_step rfl (fun K hK => ?_)
          go_simp
          refine hK _ _ ⟨_, _, _, _, _, _, _, _, _, y8, y9, y10, z8, z9, z10, bx, rfl, ⟨?_, ?_, ?_, ?_, ?_, ?_, ?_, ?_, ?_, ?_, ?_, ?_, ?_, ?_, ?_, ?_⟩⟩
          · exact by rw [Array.size_setIfInBounds]; exact H.ls
          · exact H.bel
          · exact fun h => H.f0 (up_old h (by decide))
          · exact fun h => H.f2 (up_old h (by decide))
          · exact fun _ h3 => absurd (rcKeep u3) h3
          · exact fun h => H.r2 (up_old h (by decide))
          · exact fun h => rcKeep (H.d3 (up_old h (by decide)))
          · exact fun h => have g := H.f4 (up_old h (by decide)); ⟨g.1, rcKeep g.2⟩
          · exact fun _ => ⟨rfl, rcKeep u4⟩
          · exact fun h => have g := H.f6 (up_old h (by decide)); ⟨g.1, rcKeep g.2⟩
          · exact fun h => H.b1 (up_old h (by decide))
          · exact fun h h8 => H.b2 (up_old h (by decide)) fun h' => h8 (rcKeep h')
          · exact fun h => absurd (H.b3 (up_old h (by decide))).2.2 hno
          · exact fun _ _ h3 => absurd (rcKeep u3) h3
          · exact fun h h3 => H.g2 (up_old h (by decide)) (up_old h3 (by decide))
          · exact fun h => H.f9 (up_old h (by decide))
        · have ho' : some _ = some o' := ho
          injection ho' with ho'
          subst ho'
          have u4 : up l 4 := hall ⟨4, .data⟩ (by simp) rfl
          clear hall ho hlt2
          have u3 := (H.f4 u4).2
          have e4 := (H.f4 u4).1
          subst e4
          refine wpOp_step rfl (fun K hK => ?_)
          go_simp
          refine hK _ _ ⟨_, _, _, _, _, _, _, _, _, y8, y9, y10, z8, z9, z10, bx, rfl, ⟨?_, ?_, ?_, ?_, ?_, ?_, ?_, ?_, ?_, ?_, ?_, ?_, ?_, ?_, ?_, ?_⟩⟩
          · exact by rw [Array.size_setIfInBounds]; exact H.ls
          · exact H.bel
          · exact fun h => H.f0 (up_old h (by decide))
          · exact fun h => H.f2 (up_old h (by decide))
          · exact fun _ h3 => absurd (rcKeep u3) h3
          · exact fun h => H.r2 (up_old h (by decide))
          · exact fun h => rcKeep (H.d3 (up_old h (by decide)))
          · exact fun h => have g := H.f4 (up_old h (by decide)); ⟨g.1, rcKeep g.2⟩
          · exact fun h => have g := H.f5 (up_old h (by decide)); ⟨g.1, rcKeep g.2⟩
          · exact fun _ => ⟨rfl, rcKeep u4⟩
          · exact fun h => H.b1 (up_old h (by decide))
          · exact fun h h8 => H.b2 (up_old h (by decide)) fun h' => h8 (rcKeep h')
          · exact fun h => have g := H.b3 (up_old h (by decide)); ⟨g.1, rcKeep g.2.1, rcKeep g.2.2⟩
          · exact fun _ _ h3 => absurd (rcKeep u3) h3
          · exact fun h h3 => H.g2 (up_old h (by decide)) (up_old h3 (by decide))
          · exact fun h => H.f9 (up_old h (by decide))
        · have ho' : some _ = some o' := ho
          injection ho' with ho'
          subst ho'
          clear hall ho hlt2
          refine wpOp_step rfl (fun K hK => ?_)
          go_simp
          refine hK _ _ ⟨_, _, _, _, _, _, _, _, _, y8, y9, y10, z8, z9, z10, wr2.heap.size, rfl, ⟨?_, ?_, ?_, ?_, ?_, ?_, ?_, ?_, ?_, ?_, ?_, ?_, ?_, ?_, ?_, ?_⟩⟩
          · exact by rw [Array.size_setIfInBounds]; exact H.ls
          · exact H.bel.alloc H.bel.size _
          · exact fun h => H.f0 (up_old h (by decide))
          · exact fun h => H.f2 (up_old h (by decide))
          · exact fun h h3 => have g := H.r1 (up_old h (by decide)) fun h' => h3 (rcKeep h'); ⟨g.1, g.2.below ((Below.refl wr2.heap.size wr2).alloc (Nat.le_refl _) _) rfl⟩
          · exact fun h => have g := H.r2 (up_old h (by decide)); ⟨g.1, g.2.below ((Below.refl wr2.heap.size wr2).alloc (Nat.le_refl _) _) rfl⟩
          · exact fun h => rcKeep (H.d3 (up_old h (by decide)))
          · exact fun h => have g := H.f4 (up_old h (by decide)); ⟨g.1, rcKeep g.2⟩
          · exact fun h => have g := H.f5 (up_old h (by decide)); ⟨g.1, rcKeep g.2⟩
          · exact fun h => have g := H.f6 (up_old h (by decide)); ⟨g.1, rcKeep g.2⟩
          · exact fun _ => ⟨rfl, H.bel.size⟩
          · exact fun _ _ => boxL_new wr2 zeroC 49
          · exact fun h => absurd (H.b3 (up_old h (by decide))).2.1 hno
          · exact fun _ h1 h3 hk => by
              have h2 := ((H.r1 (up_old h1 (by decide)) fun h' => h3 (rcKeep h')).2.blk hk).2
              omega
          · exact fun _ h3 hk => by
              have h2 := ((H.r2 (up_old h3 (by decide))).2.blk hk).2
              omega
          · exact fun h => H.f9 (up_old h (by decide))
        · have ho' : some _ = some o' := ho
          injection ho' with ho'
          subst ho'
          have u5 : up l 5 := hall ⟨5, .data⟩ (by simp) rfl
          have u7 : up l 7 := hall ⟨7, .data⟩ (by simp) rfl
          clear hall ho hlt2
          have u4 := (H.f5 u5).2
          have u3 := (H.f4 u4).2
          have e5 := (H.f5 u5).1
          have e7 := (H.b1 u7).1
          have hbx := (H.b1 u7).2
          have hn2 := H.g2 u7 u3
          obtain ⟨b8, m8, b9, m9, b10, m10, rfl, rfl, rfl⟩ := (H.r2 u3).2.form
          subst e5
          subst e7
          have hi49 : (Try.prog.info? 49).map (·.size) = some 11 := by kernel_rfl
          have HB := H.b2 u7 hno
          refine wpOp_step rfl (fun K hK => ?_)
          rw [if_pos (by rfl)]
          refine wp_store_mid 49 (.tmp 9) (.tmp 27) rfl bx 0 #[.int .i64 d0, .int .i64 d1, .int .i64 d2, .int .i64 d3, .int .i64 d4, .int .i64 d5, .int .i64 d6, .int .i64 d7, .slice b8 M8.length m8, .slice b9 M9.length m9, .slice b10 M10.length m10] rfl rfl (fun j hj => ?_) hi49 (by simp [Value.oneCell']) ?_
          · rw [Nat.zero_add]
            exact ⟨by rw [(HB.2 j hj).1]; rfl, (HB.2 j hj).2⟩
          refine hK _ _ ⟨_, _, _, _, _, _, _, _, _, y8, y9, y10, .slice b8 M8.length m8, .slice b9 M9.length m9, .slice b10 M10.length m10, bx, rfl, ⟨?_, ?_, ?_, ?_, ?_, ?_, ?_, ?_, ?_, ?_, ?_, ?_, ?_, ?_, ?_, ?_⟩⟩
          · exact by rw [Array.size_setIfInBounds]; exact H.ls
          · exact (((((((((((H.bel).setCell hbx _).setCell hbx _).setCell hbx _).setCell hbx _).setCell hbx _).setCell hbx _).setCell hbx _).setCell hbx _).setCell hbx _).setCell hbx _).setCell hbx _
          · exact fun h => H.f0 (up_old h (by decide))
          · exact fun h => H.f2 (up_old h (by decide))
          · exact fun _ h3 => absurd (rcKeep u3) h3
          · exact fun h => have g := H.r2 (up_old h (by decide)); ⟨g.1, g.2.but (put11_but _ _ _ _ _ _ _ _ _ _ _ _ _) fun k hk e => hn2 (e ▸ hk)⟩
          · exact fun h => rcKeep (H.d3 (up_old h (by decide)))
          · exact fun h => have g := H.f4 (up_old h (by decide)); ⟨g.1, rcKeep g.2⟩
          · exact fun h => have g := H.f5 (up_old h (by decide)); ⟨g.1, rcKeep g.2⟩
          · exact fun h => have g := H.f6 (up_old h (by decide)); ⟨g.1, rcKeep g.2⟩
          · exact fun h => H.b1 (up_old h (by decide))
          · exact fun _ h => absurd (up_set (by rw [H.ls]; decide)) h
          · exact fun _ => ⟨put11_box (H.b2 u7 hno) _ _ _ _ _ _ _ _ _ _ _, rcKeep u7, rcKeep u5⟩
          · exact fun _ _ h3 => absurd (rcKeep u3) h3
          · exact fun h h3 => H.g2 (up_old h (by decide)) (up_old h3 (by decide))
          · exact fun h => H.f9 (up_old h (by decide))
        · have ho' : some _ = some o' := ho
          injection ho' with ho'
          subst ho'
          have u6 : up l 6 := hall ⟨6, .data⟩ (by simp) rfl
          clear hall ho hlt2
          have u4 := (H.f6 u6).2
          have u3 := (H.f4 u4).2
          have e6 := (H.f6 u6).1
          subst e6
          refine wpOp_step rfl (fun K hK => ?_)
          go_simp
          refine hK _ _ ⟨_, _, _, _, _, _, _, _, _, y8, y9, y10, z8, z9, z10, bx, rfl, ⟨?_, ?_, ?_, ?_, ?_, ?_, ?_, ?_, ?_, ?_, ?_, ?_, ?_, ?_, ?_, ?_⟩⟩
          · exact by rw [Array.size_setIfInBounds]; exact H.ls
          · exact H.bel
          · exact fun h => H.f0 (up_old h (by decide))
          · exact fun h => H.f2 (up_old h (by decide))
          · exact fun _ h3 => absurd (rcKeep u3) h3
          · exact fun h => H.r2 (up_old h (by decide))
          · exact fun h => rcKeep (H.d3 (up_old h (by decide)))
          · exact fun h => have g := H.f4 (up_old h (by decide)); ⟨g.1, rcKeep g.2⟩
          · exact fun h => have g := H.f5 (up_old h (by decide)); ⟨g.1, rcKeep g.2⟩
          · exact fun h => have g := H.f6 (up_old h (by decide)); ⟨g.1, rcKeep g.2⟩
          · exact fun h => H.b1 (up_old h (by decide))
          · exact fun h h8 => H.b2 (up_old h (by decide)) fun h' => h8 (rcKeep h')
          · exact fun h => have g := H.b3 (up_old h (by decide)); ⟨g.1, rcKeep g.2.1, rcKeep g.2.2⟩
          · exact fun _ _ h3 => absurd (rcKeep u3) h3
          · exact fun h h3 => H.g2 (up_old h (by decide)) (up_old h3 (by decide))
          · exact fun _ => rfl
    · obtain rfl : k = xs.length := by omega
      have hpl := playG_len xs xs.length
      have HPL := hid hpl
      clear hpl
      obtain ⟨Y, hY⟩ : ∃ Y, playG xs xs.length = Y := ⟨_, rfl⟩
      rw [hY] at HP HPL hpg
      have HY := hid hY
      clear hY
      obtain ⟨⟨d0, d1, d2, d3, d4, d5, d6, d7, M8, M9, M10⟩, bs⟩ := Y
      have h8 : M8.length ≤ 300 := by have := hpg.1.n8; simp only at this; omega
      have h9 : M9.length ≤ 300 := hpg.1.n9
      have h10 : M10.length ≤ 300 := hpg.1.n10
      have H8 := hid h8
      have H9 := hid h9
      have H10 := hid h10
      clear hpg h8 h9 h10
      simp only at HP HPL
      have HRD : Hid (GrReads wr (grV ⟨d0, d1, d2, d3, d4, d5, d6, d7, M8, M9, M10⟩ (.slice a8 M8.length c8) (.slice a9 M9.length c9) (.slice a10 M10.length c10)) ⟨d0, d1, d2, d3, d4, d5, d6, d7, M8, M9, M10⟩) := ⟨_, _, _, rfl, HP.out.rows.rows.1, HP.out.rows.rows.2.1, HP.out.rows.rows.2.2⟩
      obtain ⟨q0, q1, q2, q3, q4, q5, q6, q7, q8, q9, q10⟩ := BoxL.eleven (HP.out.box)
      have HWZ : Hid (w.heap.size ≤ wr.heap.size) := hbel
      go_wp2_with fail
      refine (l15Own_any ⟨d0, d1, d2, d3, d4, d5, d6, d7, M8, M9, M10⟩ _ _ HRD.out H8.out H9.out H10.out).mono ?_
      rintro e w2 ⟨u, rfl, ⟨x8, x9, x10, rfl, hU⟩, b2⟩
      replace HP := hid (HP.out.below b2)
      clear q0 q1 q2 q3 q4 q5 q6 q7 q8 q9 q10
      obtain ⟨b8, m8, b9, m9, b10, m10, rfl, rfl, rfl⟩ := hU.form
      dsimp only at hU
      obtain ⟨r0, r1, r2, r3, r4, r5, r6, r7, r8, r9, r10⟩ := HP.out.res.eleven
      obtain ⟨f0, f1, f2, f3, f4, f5, f6, f7, f8, f9, f10⟩ := HP.out.res.frozen11
      have hwz := HWZ.out
      have hresl : w.heap.size < wr.heap.size := by have := HBX0.out; omega
      have hnr : ¬ Bk (.slice b8 M8.length m8) (.slice b9 M9.length m9) (.slice b10 M10.length m10) w.heap.size := fun hk => by have := (hU.blk hk).1; omega
      have UX := hU.mono (show w.heap.size ≤ wr.heap.size by omega)
      have LF := gr_leaf (w := w) (v8 := .slice none 0 0) (v9 := .slice none 0 0) (v10 := .slice none 0 0) (D := ⟨d0, d1, d2, d3, d4, d5, d6, d7, M8, M9, M10⟩) HP.out.res UX ⟨But.of HP.out.bel, fun k hk => .inr (UX.blk hk).1⟩ (b := w.heap.size) (Nat.le_refl _) hnr
      have DD := heowns_at HP.out.did fun g hg hlt => (put11_but w2 w.heap.size (.int .i64 d0) (.int .i64 d1) (.int .i64 d2) (.int .i64 d3) (.int .i64 d4) (.int .i64 d5) (.int .i64 d6) (.int .i64 d7) (.slice b8 M8.length m8) (.slice b9 M9.length m9) (.slice b10 M10.length m10)).2 g hlt fun e => by have := (heowns_lt HP.out.did g hg).1; omega
      have DD' := heowns_mono DD (show w.heap.size ≤ w1.heap.size + 1 by omega)
      rw [← HPL.out] at DD'
      have HDD := hid DD'
      obtain ⟨as', cs', rfl, _⟩ := heowns_form HP.out.did
      have HFAR : Hid (∀ g, (Value.slice as' xs.length cs').ownBlock = some g → ¬ Bk (.slice b8 M8.length m8) (.slice b9 M9.length m9) (.slice b10 M10.length m10) g) := fun g hg hk => by
        have h1 := (hU.blk hk).1
        have h2 := HDL.out g hg
        omega
      try dsimp only at LF
      have HL := hid LF.1.1
      have HBL := hid ((LF.1.2.but.to (Nat.le_refl _) fun k hk hb => by rcases hb with hb | hb | hb <;> cases hb))
      obtain ⟨t0, t1, t2, t3, t4, t5, t6, t7, t8, t9, t10⟩ := LF.2.eleven
      clear LF DD DD' UX hnr hU b2 hwz hresl
      go_wp2
      exact bodyPost_ret (v := .tuple #[grV ⟨d0, d1, d2, d3, d4, d5, d6, d7, M8, M9, M10⟩ (.slice b8 M8.length m8) (.slice b9 M9.length m9) (.slice b10 M10.length m10), .slice as' xs.length cs', .bool true]) (by simp [results, Try.results26, go_sem, t0, t1, t2, t3, t4, t5, t6, t7, t8, t9, t10]) rfl ⟨_, _, rfl, by rw [HY.out]; exact ⟨_, _, _, rfl, HL.out, HDD.out, HFAR.out, HBL.out⟩⟩
end Go.Proofs.Ytdlkilacnnjglaa
