/-
  impl.PlayGreet: the steps one behind the other. Nothing old is written.
-/
import Derived.Test.YtdlkilacnnjglaaIStepG
import Derived.Test.YtdlkilacnnjglaaKBoolApp
import Derived.Test.YtdlkilacnnjglaaKGreetStepRows
namespace Go.Proofs.Ytdlkilacnnjglaa
open Go.RowKit Go.Sort

theorem playG_len (l : List (Int × Int)) : ∀ i, (playG l i).2.length = i
  | 0 => rfl
  | i + 1 => by
    show ((playG l i).2 ++ [_]).length = i + 1
    rw [List.length_append, playG_len l i]
    rfl
theorem playG_zero (l : List (Int × Int)) : playG l 0 = (newG, []) := rfl
theorem playG_succ (l : List (Int × Int)) (i : Nat) : playG l (i + 1) = ((stepG (playG l i).1 (l.getD i (0, 0)).1 (l.getD i (0, 0)).2).1, (playG l i).2 ++ [(stepG (playG l i).1 (l.getD i (0, 0)).1 (l.getD i (0, 0)).2).2]) := rfl
/-- What a play tells: a greeting and what was done, each in memory of its own. -/
def PlTells (w w' : World) (u s : Value) (D : GrD) (bs : List Bool) : Prop := ∃ v8 v9 v10, u = grV D v8 v9 v10 ∧ RowsU w.heap.size w' v8 v9 v10 D.f8 D.f9 D.f10 ∧ w'.ownsRow w.heap.size 4 1 s bs.length (boflat bs) ∧ (∀ g, s.ownBlock = some g → ¬ Bk v8 v9 v10 g) ∧ Below w.heap.size w w'
set_option maxRecDepth 100000 in
theorem inewGr_lit (w : World) : Calls Try.prog 65 #[] w fun e w' => e = .returned (.agg #[.int .i64 0, .int .i64 0, .int .i64 0, .int .i64 0, .int .i64 0, .int .i64 0, .int .i64 100, .int .i64 0, .slice none 0 0, .slice none 0 0, .slice none 0 0]) ∧ Below w.heap.size w w' := by
  go_enter Try.func65, Try.ntmps65
  go_wp2
  exact bodyPost_ret (v := .agg #[.int .i64 0, .int .i64 0, .int .i64 0, .int .i64 0, .int .i64 0, .int .i64 0, .int .i64 100, .int .i64 0, .slice none 0 0, .slice none 0 0, .slice none 0 0]) (by simp [results, Try.results65, go_sem]) rfl ⟨rfl, (Below.refl _ _).alloc (Nat.le_refl _) _⟩
set_option maxRecDepth 100000 in
set_option maxHeartbeats 16000000 in
theorem iplayGr_any (v : Value) (xs : List (Int × Int)) (w : World) (hr : GsReads w v xs) (hn : xs.length ≤ 120) :
    Calls Try.prog 28 #[v] w fun e w' => ∃ u s, e = .returned (.tuple #[u, s, .bool true]) ∧ PlTells w w' u s (playG xs xs.length).1 (playG xs xs.length).2 := by
  have HR := hid hr
  obtain ⟨va, vc, rfl, _, _⟩ := hr
  have bA : Below w.heap.size w (w.alloc (.cells zeroC.toArray 49)) := (Below.refl _ _).alloc (Nat.le_refl _) _
  have rA := boxL_new w zeroC 49
  have sA : (w.alloc (.cells zeroC.toArray 49)).heap.size = w.heap.size + 1 := by simp
  go_enter Try.func28, Try.ntmps28
  go_wp2_with fail
  refine (inewGr_lit _).mono ?_
  rintro e w1 ⟨rfl, b⟩
  change Below (w.alloc (.cells zeroC.toArray 49)).heap.size (w.alloc (.cells zeroC.toArray 49)) w1 at b
  have hs1 := b.size
  have P0 : Hid (PlG w1.heap.size w (w1.alloc (.cells #[.int .i64 0, .int .i64 0, .int .i64 0, .int .i64 0, .int .i64 0, .int .i64 0, .int .i64 100, .int .i64 0, .slice none 0 0, .slice none 0 0, .slice none 0 0] 49)) newG (.slice none 0 0) (.slice none 0 0) (.slice none 0 0) (.slice none 0 0) 0 []) := by
    have bB : Below w1.heap.size w1 (w1.alloc (.cells #[.int .i64 0, .int .i64 0, .int .i64 0, .int .i64 0, .int .i64 0, .int .i64 0, .int .i64 100, .int .i64 0, .slice none 0 0, .slice none 0 0, .slice none 0 0] 49)) := (Below.refl _ _).alloc (Nat.le_refl _) _
    have b1 : Below w.heap.size w w1 := bA.trans (b.mono (by omega))
    have r1 : BoxL w1 w.heap.size zeroC := rA.below b (by omega)
    exact PlG.start (boxL_new w1 _ 49) rfl rfl rfl (r1.below bB r1.lt) (b1.trans (bB.mono b1.size)) (by omega)
  clear bA rA sA b hs1
  go_wp2
  go_loopw [6, 18] (fun s i wr => ∃ (k : Nat) (v8 v9 v10 : Value), k ≤ xs.length ∧ i = .int .i64 (k : Nat) ∧ PlG w1.heap.size w wr (playG xs k).1 v8 v9 v10 s k (playG xs k).2) (fun _ i _ => xs.length - (intOf i).toNat)
  case atStart => exact ⟨0, _, _, _, Nat.zero_le _, rfl, P0.out⟩
  case round =>
    obtain ⟨k, v8, v9, v10, hk, rfl, hP⟩ := hrel
    have hpg := playG_good xs k (by omega)
    have HP := hid hP
    have hbel := hP.bel.size
    have hlo := hP.lo
    obtain ⟨a8, c8, a9, c9, a10, c10, rfl, rfl, rfl⟩ := hP.rows.form
    have HBX0 := hid hP.box.lt
    have HDL : Hid (∀ g, u6.ownBlock = some g → g < wr.heap.size) := fun g hg => (heowns_lt hP.did g hg).2
    clear hP P0
    by_cases hlt : k < xs.length
    · obtain ⟨g, o, cap', e, hc⟩ := HR.out.cells k hlt
      cases e
      obtain ⟨x, hx⟩ : ∃ x, xs.getD k (0, 0) = x := ⟨_, rfl⟩
      have cx := (hc k hlt).below HP.out.bel (hc k hlt).lt
      have hps := playG_succ xs k
      rw [hx] at cx hps
      have HPS := hid hps
      obtain ⟨x1, x2⟩ := x
      obtain ⟨cx1, cx2⟩ := cx
      replace cx1 : wr.cell? ⟨g, o + k * 2, none⟩ = some (.int .i64 x1) := cx1
      replace cx2 : wr.cell? ⟨g, o + k * 2 + 1, none⟩ = some (.int .i64 x2) := cx2
      obtain ⟨D, hD⟩ : ∃ D, (playG xs k).1 = D := ⟨_, rfl⟩
      obtain ⟨bs, hbs⟩ : ∃ bs, (playG xs k).2 = bs := ⟨_, rfl⟩
      obtain ⟨D1, hD1⟩ : ∃ D1, (stepG D x1 x2).1 = D1 := ⟨_, rfl⟩
      obtain ⟨t, ht⟩ : ∃ t, (stepG D x1 x2).2 = t := ⟨_, rfl⟩
      have hno : t = false → D1 = D := fun h => by rw [← hD1]; exact stepG_no (by rw [ht]; exact h)
      have HNO := hid hno
      rw [hD] at hpg
      simp only [hD, hbs] at HP
      have hps' : playG xs (k + 1) = (D1, bs ++ [t]) := by rw [HPS.out, hD, hbs, hD1, ht]
      replace HPS := hid hps'
      have HD1 := hid hD1
      have HT := hid ht
      have HG := hid hpg.1
      have H9 : Hid (D.f9.length < 300) := by have := hpg.2.1; show _ < _; omega
      have H10 : Hid (D.f10.length < 300) := by have := hpg.2.2; show _ < _; omega
      have HW1 : Hid (w.heap.size ≤ wr.heap.size) := hbel
      clear hc hx hps hps' hD hbs hD1 ht hno hpg
      have n0 : (0 : Int) ≤ (k : Int) := by omega
      have m1 : (k : Int) < (xs.length : Int) := by omega
      have AB : Hid (Below wr.heap.size wr (wr.alloc (.cells #[.int .i64 x1, .int .i64 x2] 91))) := (Below.refl _ _).alloc (Nat.le_refl _) _
      have HRD : Hid (GrReads (wr.alloc (.cells #[.int .i64 x1, .int .i64 x2] 91)) (.agg #[.int .i64 D.f0, .int .i64 D.f1, .int .i64 D.f2, .int .i64 D.f3, .int .i64 D.f4, .int .i64 D.f5, .int .i64 D.f6, .int .i64 D.f7, .slice a8 D.f8.length c8, .slice a9 D.f9.length c9, .slice a10 D.f10.length c10]) D) := GrReads.below ⟨_, _, _, rfl, HP.out.rows.rows.1, HP.out.rows.rows.2.1, HP.out.rows.rows.2.2⟩ AB.out
      replace HP := hid (HP.out.below AB.out)
      obtain ⟨q0, q1, q2, q3, q4, q5, q6, q7, q8, q9, q10⟩ := BoxL.eleven (a0 := .int .i64 D.f0) (a1 := .int .i64 D.f1) (a2 := .int .i64 D.f2) (a3 := .int .i64 D.f3) (a4 := .int .i64 D.f4) (a5 := .int .i64 D.f5) (a6 := .int .i64 D.f6) (a7 := .int .i64 D.f7) (HP.out.box)
      go_wp2_with fail
      refine (istepGr_any D x1 x2 HG.out H9.out H10.out _ _ HRD.out).mono ?_
      rintro e w2 ⟨u, rfl, hU, b2⟩
      rw [HT.out, HD1.out] at hU
      rw [HT.out]
      have hs2 := b2.size
      have hsA : (wr.alloc (.cells #[.int .i64 x1, .int .i64 x2] 91)).heap.size = wr.heap.size + 1 := by simp
      replace HP := hid (HP.out.below b2)
      obtain ⟨u8, u9, u10, rfl, hU⟩ := hU
      obtain ⟨b8, m8, b9, m9, b10, m10, rfl, rfl, rfl⟩ := hU.form
      obtain ⟨D2, hD2⟩ : ∃ D2, (if t = true then D1 else zeroG) = D2 := ⟨_, rfl⟩
      rw [hD2] at hU
      simp only [hD2]
      have HU := hid hU
      have HD2 := hid hD2
      have HS2 : Hid (wr.heap.size + 1 ≤ w2.heap.size) := by show _ ≤ _; omega
      clear hU hD2 b2 hs2 hsA q0 q1 q2 q3 q4 q5 q6 q7 q8 q9 q10 cx1 cx2 AB HRD
      obtain ⟨as', cs', rfl, _⟩ := heowns_form HP.out.did
      have hkk : k + 1 ≤ 1000000 := by omega
      have HKK := hid hkk
      obtain ⟨X, hX⟩ : ∃ X, X = w2.alloc (.cells #[.int .i64 D2.f0, .int .i64 D2.f1, .int .i64 D2.f2, .int .i64 D2.f3, .int .i64 D2.f4, .int .i64 D2.f5, .int .i64 D2.f6, .int .i64 D2.f7, .slice b8 D2.f8.length m8, .slice b9 D2.f9.length m9, .slice b10 D2.f10.length m10] 49) := ⟨_, rfl⟩
      have bX : Below w2.heap.size w2 X := by rw [hX]; exact (Below.refl _ _).alloc (Nat.le_refl _) _
      have hsX : X.heap.size = w2.heap.size + 1 := by rw [hX]; simp
      have NB : Hid (BoxL X w2.heap.size [.int .i64 D2.f0, .int .i64 D2.f1, .int .i64 D2.f2, .int .i64 D2.f3, .int .i64 D2.f4, .int .i64 D2.f5, .int .i64 D2.f6, .int .i64 D2.f7, .slice b8 D2.f8.length m8, .slice b9 D2.f9.length m9, .slice b10 D2.f10.length m10]) := by show BoxL _ _ _; rw [hX]; exact boxL_new w2 _ 49
      replace HU := hid (HU.out.below bX rfl)
      replace HP := hid (HP.out.below bX)
      have HLO := hid (show w1.heap.size + 1 ≤ X.heap.size by have := HP.out.box.lt; omega)
      have HX := hid hX
      have HBX : Hid (w1.heap.size < wr.heap.size) := HBX0.out
      have HFU : Hid (∀ g, (Value.slice as' k cs').ownBlock = some g → ¬ Bk (.slice b8 D2.f8.length m8) (.slice b9 D2.f9.length m9) (.slice b10 D2.f10.length m10) g) := fun g hg hk => by
        have h1 := (HU.out.blk hk).1
        have h2 := HDL.out g hg
        rw [World.size_alloc] at h1
        omega
      clear bX hX hkk hsX
      cases t
      · rw [HNO.out rfl] at HPS
        have bY : Below X.heap.size X (X.alloc (.cells #[.bool false] 4)) := (Below.refl _ _).alloc (Nat.le_refl _) _
        have HPY := hid (HP.out.below bY)
        clear bY
        go_upto_region 9 with fail
        rw [← HX.out]
        clear HX
        go_wp2_with (at_builtin; refine wpList_append_bo _ rfl _ _ rfl (w1.heap.size + 1) _ k bs rfl HPY.out.did _ [false] rfl (boreads_one _ false _) HKK.out (by rw [World.size_alloc]; have := HLO.out; omega) ?_)
        intro v' w' h1 h2 h3
        have PF := hid (HPY.out.app h1 h2 h3 (Nat.le_of_eq (World.size_alloc _ _)))
        obtain ⟨a', c', rfl, _⟩ := heowns_form h1
        clear h1 h2 h3
        go_wp2
        go_roundw
        case rel => exact ⟨k + 1, _, _, _, by omega, by go_num, by rw [HPS.out]; exact PF.out⟩
        case measure => simp [intOf]; omega
      · obtain rfl : D1 = D2 := HD2.out
        obtain ⟨d0, d1, d2, d3, d4, d5, d6, d7, M8, M9, M10⟩ := D1
        simp only at NB HU HPS
        obtain ⟨p0, p1, p2, p3, p4, p5, p6, p7, p8, p9, p10⟩ := NB.out.eleven
        obtain ⟨q0, q1, q2, q3, q4, q5, q6, q7, q8, q9, q10⟩ := BoxL.eleven (a0 := .int .i64 D.f0) (a1 := .int .i64 D.f1) (a2 := .int .i64 D.f2) (a3 := .int .i64 D.f3) (a4 := .int .i64 D.f4) (a5 := .int .i64 D.f5) (a6 := .int .i64 D.f6) (a7 := .int .i64 D.f7) (HP.out.box)
        obtain ⟨f0, f1, f2, f3, f4, f5, f6, f7, f8, f9, f10⟩ := BoxL.frozen11 (a0 := .int .i64 D.f0) (a1 := .int .i64 D.f1) (a2 := .int .i64 D.f2) (a3 := .int .i64 D.f3) (a4 := .int .i64 D.f4) (a5 := .int .i64 D.f5) (a6 := .int .i64 D.f6) (a7 := .int .i64 D.f7) (HP.out.box)
        have hput := HP.out.put (D' := ⟨d0, d1, d2, d3, d4, d5, d6, d7, M8, M9, M10⟩) (u8 := .slice b8 M8.length m8) (u9 := .slice b9 M9.length m9) (u10 := .slice b10 M10.length m10) (HU.out.mono (by have := HBX.out; rw [World.size_alloc]; omega)) HFU.out
        try dsimp only at hput
        obtain ⟨Z, hZ⟩ : ∃ Z, Z = put11 X w1.heap.size (.int .i64 d0) (.int .i64 d1) (.int .i64 d2) (.int .i64 d3) (.int .i64 d4) (.int .i64 d5) (.int .i64 d6) (.int .i64 d7) (.slice b8 M8.length m8) (.slice b9 M9.length m9) (.slice b10 M10.length m10) := ⟨_, rfl⟩
        rw [← hZ] at hput
        unfold put11 at hZ
        have hLZ : w1.heap.size + 1 ≤ Z.heap.size := by have := hput.box.lt; omega
        have bY : Below Z.heap.size Z (Z.alloc (.cells #[.bool true] 4)) := (Below.refl _ _).alloc (Nat.le_refl _) _
        have HPY := hid (hput.below bY)
        have HLZ := hid hLZ
        have HZ := hid hZ
        clear bY hput hLZ hZ
        go_upto_region 9 with fail
        rw [← HX.out]
        clear HX
        go_upto_region 11 with fail
        rw [← HZ.out]
        clear HZ
        go_wp2_with (at_builtin; refine wpList_append_bo _ rfl _ _ rfl (w1.heap.size + 1) _ k bs rfl HPY.out.did _ [true] rfl (boreads_one _ true _) HKK.out (by rw [World.size_alloc]; have := HLZ.out; omega) ?_)
        intro v' w' h1 h2 h3
        have PF := hid (HPY.out.app h1 h2 h3 (Nat.le_of_eq (World.size_alloc _ _)))
        obtain ⟨a', c', rfl, _⟩ := heowns_form h1
        clear h1 h2 h3
        go_wp2
        go_roundw
        case rel => exact ⟨k + 1, _, _, _, by omega, by go_num, by rw [HPS.out]; exact PF.out⟩
        case measure => simp [intOf]; omega
    · obtain rfl : k = xs.length := by omega
      have hpl := playG_len xs xs.length
      have HPL := hid hpl
      clear hpl
      obtain ⟨Y, hY⟩ : ∃ Y, playG xs xs.length = Y := ⟨_, rfl⟩
      rw [hY] at HP HPL
      have HY := hid hY
      clear hY
      obtain ⟨⟨d0, d1, d2, d3, d4, d5, d6, d7, M8, M9, M10⟩, bs⟩ := Y
      simp only at HP HPL
      obtain ⟨q0, q1, q2, q3, q4, q5, q6, q7, q8, q9, q10⟩ := BoxL.eleven (HP.out.box)
      obtain ⟨r0, r1, r2, r3, r4, r5, r6, r7, r8, r9, r10⟩ := HP.out.res.eleven
      obtain ⟨f0, f1, f2, f3, f4, f5, f6, f7, f8, f9, f10⟩ := HP.out.res.frozen11
      have hnr : ¬ Bk (.slice a8 M8.length c8) (.slice a9 M9.length c9) (.slice a10 M10.length c10) w.heap.size := fun hk => by have := (HP.out.rows.blk hk).1; omega
      have UX := HP.out.rows.mono (show w.heap.size ≤ w1.heap.size + 1 by omega)
      have LF := gr_leaf (w := w) (v8 := .slice none 0 0) (v9 := .slice none 0 0) (v10 := .slice none 0 0) (D := ⟨d0, d1, d2, d3, d4, d5, d6, d7, M8, M9, M10⟩) HP.out.res UX ⟨But.of HP.out.bel, fun k hk => .inr (UX.blk hk).1⟩ (b := w.heap.size) (Nat.le_refl _) hnr
      have DD := heowns_at HP.out.did fun g hg hlt => (put11_but wr w.heap.size (.int .i64 d0) (.int .i64 d1) (.int .i64 d2) (.int .i64 d3) (.int .i64 d4) (.int .i64 d5) (.int .i64 d6) (.int .i64 d7) (.slice a8 M8.length c8) (.slice a9 M9.length c9) (.slice a10 M10.length c10)).2 g hlt fun e => by have := (heowns_lt HP.out.did g hg).1; omega
      have DD' := heowns_mono DD (show w.heap.size ≤ w1.heap.size + 1 by omega)
      rw [← HPL.out] at DD'
      have HDD := hid DD'
      have HFAR := hid HP.out.far
      try dsimp only at LF
      have HL := hid LF.1.1
      have HBL := hid ((LF.1.2.but.to (Nat.le_refl _) fun k hk hb => by rcases hb with hb | hb | hb <;> cases hb))
      obtain ⟨t0, t1, t2, t3, t4, t5, t6, t7, t8, t9, t10⟩ := LF.2.eleven
      obtain ⟨as', cs', rfl, _⟩ := heowns_form HP.out.did
      clear LF DD DD' UX hnr
      go_wp2
      exact bodyPost_ret (v := .tuple #[grV ⟨d0, d1, d2, d3, d4, d5, d6, d7, M8, M9, M10⟩ (.slice a8 M8.length c8) (.slice a9 M9.length c9) (.slice a10 M10.length c10), .slice as' xs.length cs', .bool true]) (by simp [results, Try.results28, go_sem, t0, t1, t2, t3, t4, t5, t6, t7, t8, t9, t10]) rfl ⟨_, _, rfl, by rw [HY.out]; exact ⟨_, _, _, rfl, HL.out, HDD.out, HFAR.out, HBL.out⟩⟩
end Go.Proofs.Ytdlkilacnnjglaa
