/-
  spec.l14Best: the least span that can come of what is left, or the least so far, by recursion. Nothing old is written.
-/
import Derived.Test.YtflhlinkolbbiaeMaxTake
import Derived.Test.YtflhlinkolbbiaeSMost9
import Derived.Test.YtflhlinkolbbiaeKAppN
import Derived.Test.YtflhlinkolbbiaeIRows
import Derived.Deep.QuietTactic
import Derived.BigQuiet
namespace Go.Proofs.Ytflhlinkolbbiae
open Go.RowKit

/-- What has to be told of what is left. -/
def SBestTells (H : Nat) (ls : List Nat) : Prop := ∀ (s : List Nat) (b : Nat) (vl v : Value) (w : World), s.length = H → (∀ h, s.getD h 0 + 50 * ls.length ≤ 400) → KReads w vl (ofN ls) → KReads w v (ofN s) →
  Calls Try.prog 82 #[vl, v, .int .i64 (b : Nat)] w fun e w' => e = .returned (.int .i64 (min b (bestB H ls s) : Nat)) ∧ Below w.heap.size w w'
set_option maxRecDepth 100000 in
set_option maxHeartbeats 16000000 in
theorem sbestS_c1 (H p : Nat) (l s : List Nat) (b r n : Nat) (g o : Nat) (a1 : Option Addr) (p1 : Nat) (w : World) (IH : Hid (SBestTells H l)) (HP : Hid (1 ≤ p ∧ p ≤ 50)) (HH : Hid (1 ≤ H ∧ H ≤ 4)) (R2 : Hid (KReads w (.slice a1 H p1) (ofN s)))
    (HBd : Hid (∀ h, s.getD h 0 + 50 * (p :: l).length ≤ 400)) (HSl : Hid (s.length = H)) (hle : n + 1 ≤ 1) (HN : Hid (n = l.length)) (HL : Hid ((ofN s).length = H)) (HF : Hid (r = minTo (fun h => bestB H l (addAt s h p)) b H)) (HPr : Hid (b ≤ maxN s → r = b)) (hgl : Hid (g < w.heap.size ∧ w.cell? ⟨g, o, none⟩ = some (.int .i64 (p : Nat)))) :
    Calls Try.prog 82 #[.slice (some ⟨g, o, none⟩) (n + 1) 1, .slice a1 H p1, .int .i64 (b : Nat)] w fun e w' => e = .returned (.int .i64 (r : Nat)) ∧ Below w.heap.size w w' := by
  have dq : (((n : Int) + 1) == 0) = false := by rw [beq_eq_false_iff_ne]; omega
  go_enter Try.func82, Try.ntmps82
  go_wp2
  go_loopw [7, 14] (fun m i wr => ∃ k : Nat, k ≤ H ∧ i = .int .i64 k ∧ m = .int .i64 (maxN (s.take k) : Nat) ∧ w = wr) (fun _ i _ => H - (intOf i).toNat)
  case atStart => exact ⟨0, Nat.zero_le _, rfl, rfl, rfl⟩
  case round =>
    obtain ⟨k, hk, rfl, rfl, rfl⟩ := hrel
    have h4 := HH.out.2
    by_cases hlt : k < H
    · obtain ⟨g2, o2, c2, e, hc⟩ := R2.out.cells k (by rw [HL.out]; exact hlt)
      rw [HL.out] at e
      cases e
      obtain ⟨x, hx⟩ : ∃ x, x = s.getD k 0 := ⟨_, rfl⟩
      have ck : w.cell? ⟨g2, o2 + k, none⟩ = some (.int .i64 (x : Nat)) := by have := hc k (by rw [HL.out]; exact hlt); rw [ofN_at, ← hx] at this; exact this
      obtain ⟨m1, hm1⟩ : ∃ m1, m1 = maxN (s.take (k + 1)) := ⟨_, rfl⟩
      obtain ⟨m0, hm0⟩ : ∃ m0, m0 = maxN (s.take k) := ⟨_, rfl⟩
      have HMI : Hid (max (m0 : Int) (x : Int) = (m1 : Nat)) := by show _ = _; have := maxN_take s (k := k) (by rw [HSl.out]; exact hlt); rw [← hm1, ← hm0, ← hx] at this; omega
      have HM1 := hid hm1
      rw [← hm0]
      have n0 : (0 : Int) ≤ (k : Int) := by omega
      have n1 : (k : Int) < (H : Int) := by omega
      clear hc hx hm1 hm0
      go_wp2_with fail
      refine (smost_eq m0 x m1 HMI.out _).mono ?_
      rintro e w' ⟨rfl, hw⟩; obtain rfl := hw.symm
      go_wp2
      go_roundw
      case rel => exact ⟨k + 1, by omega, by go_num, by rw [HM1.out], by first | rfl | trivial⟩
      case measure => simp [intOf]; omega
    · obtain rfl : k = H := by omega
      have hmt : maxN (s.take k) = maxN s := by rw [List.take_of_length_le (by rw [HSl.out]; exact Nat.le_refl _)]
      rw [hmt]
      obtain ⟨m, hm⟩ : ∃ m, m = maxN s := ⟨_, rfl⟩
      rw [← hm] at HPr ⊢
      clear hmt hm
      by_cases hbm : b ≤ m
      · have d1 : decide ((b : Int) ≤ (m : Int)) = true := by simpa using hbm
        have HV : Hid (r = b) := HPr.out hbm
        go_wp2
        go_ret
        exact ⟨by rw [HV.out]; rfl, Below.refl _ _⟩
      · have d1 : decide ((b : Int) ≤ (m : Int)) = false := by simpa using hbm
        clear HPr
        go_wp2
        go_loopw [2, 32] (fun bv i wr => ∃ h : Nat, h ≤ k ∧ i = .int .i64 h ∧ bv = .int .i64 (minTo (fun h => bestB k l (addAt s h p)) b h : Nat) ∧ Below w.heap.size w wr) (fun _ i _ => k - (intOf i).toNat)
        case atStart => exact ⟨0, Nat.zero_le _, rfl, rfl, Below.refl _ _⟩
        case round =>
          obtain ⟨qh, hh, rfl, rfl, hbel⟩ := hrel
          have HB := hid hbel
          have hsz := hbel.size
          clear hbel
          have h4 := HH.out.2
          by_cases hlt2 : qh < k
          · obtain ⟨x, hx⟩ : ∃ x, x = s.getD qh 0 := ⟨_, rfl⟩
            have HX := hid hx
            have hb1 := HBd.out qh
            simp only [List.length_cons] at hb1
            rw [← hx] at hb1
            have hp2 := HP.out.2
            obtain ⟨t, ht⟩ : ∃ t, t = x + p := ⟨_, rfl⟩
            have HT := hid ht
            have wr1 : IntKind.i64.wrap ((x : Int) + (p : Int)) = (t : Int) := by rw [IntKind.wrap_i64]; omega
            have HBd2 : Hid (∀ j, (addAt s qh p).getD j 0 + 50 * l.length ≤ 400) := fun j => by
              have := HBd.out j
              simp only [List.length_cons] at this
              rw [addAt_getD _ _ _ (by rw [HSl.out]; exact hlt2)]
              split <;> omega
            obtain ⟨b0, hb0⟩ : ∃ b0, b0 = minTo (fun h => bestB k l (addAt s h p)) b qh := ⟨_, rfl⟩
            rw [← hb0]
            have HM2 : Hid (minTo (fun h => bestB k l (addAt s h p)) b (qh + 1) = min b0 (bestB k l (addAt s qh p))) := by show _ = _; rw [hb0]; rfl
            have HRS : Hid (KReads wr (.slice a1 k p1) (ofN s)) := R2.out.below HB.out
            have hls : (ofN s).length = k := HL.out
            have HY : Hid ((wr.alloc (.cells #[] 3)).ownsRow wr.heap.size 3 1 (.slice (some ⟨wr.heap.size, 0, none⟩) 0 0) 0 (kflat [])) := World.ownsRow_made wr #[] 0 (Nat.le_refl _) (by unfold maxLen; omega) rfl
            have X1 : Hid (Below wr.heap.size wr (wr.alloc (.cells #[] 3))) := (Below.refl wr.heap.size wr).alloc (Nat.le_refl _) _
            obtain ⟨wo, hwo⟩ : ∃ wo, wo = wr := ⟨_, rfl⟩
            subst hwo
            clear hx ht hb0 hb1
            go_wp2_with (at_builtin; refine wpList_append_reads _ rfl _ _ rfl wo.heap.size _ 0 [] rfl HY.out _ (ofN s) rfl (HRS.out.below X1.out) (by rw [hls]; omega) (by simp) ?_)
            intro u w1 hown1 hgr1 _
            have hown2 : w1.ownsRow wo.heap.size 3 1 u k (kflat (ofN s)) := by first | exact hown1 | (rw [hls, Nat.zero_add, List.nil_append] at hown1; exact hown1)
            obtain ⟨gu, cu, rfl, hgu, hrow⟩ := irow_ofB hown2 (by omega)
            have Y1 : Hid (Below wo.heap.size wo w1) := X1.out.grown hgr1 (by simp) (by intro m hm; simp [Value.ownBlock] at hm; omega)
            have B1 : Hid (Below w.heap.size w w1) := HB.out.trans (Y1.out.mono hsz)
            have xp : w1.cell? ⟨g, o, none⟩ = some (.int .i64 (p : Nat)) := (B1.out.cell (p := ⟨g, o, none⟩) hgl.out.1).trans hgl.out.2
            have xk : w1.cell? ⟨gu, qh, none⟩ = some (.int .i64 (x : Nat)) := by have := hrow.cell (i := qh) hlt2; rw [ofN_at, ← HX.out] at this; exact this
            have fk : w1.frozen? ⟨gu, qh, none⟩ = false := hrow.free qh
            have HR3 : Hid (IRow (w1.setCell ⟨gu, qh, none⟩ (.int .i64 (t : Nat))) gu k cu (ofN (addAt s qh p))) := by
              have := hrow.set qh (t : Nat)
              rw [ofN_setI, HT.out, HX.out] at this
              rw [HT.out, HX.out]
              exact this
            have B3 : Hid (Below w.heap.size w (w1.setCell ⟨gu, qh, none⟩ (.int .i64 (t : Nat))).drew) := (B1.out.setCell (by show w.heap.size ≤ gu; omega) _).drew
            have K1 : Hid (KReads (w1.setCell ⟨gu, qh, none⟩ (.int .i64 (t : Nat))).drew (.slice (some ⟨gu, 0, none⟩) k cu) (ofN (addAt s qh p))) := (HR3.out.at (w' := (w1.setCell ⟨gu, qh, none⟩ (.int .i64 (t : Nat))).drew) rfl).reads (by omega)
            have K0 : Hid (KReads (w1.setCell ⟨gu, qh, none⟩ (.int .i64 (t : Nat))).drew (.slice (some ⟨g, o, none⟩) 0 0) (ofN l)) := by
              have : l = [] := List.eq_nil_of_length_eq_zero (by rw [← HN.out]; omega)
              rw [this]
              exact kreads_nil _ _ _
            have KL : Hid ((addAt s qh p).length = k) := by show _ = _; rw [addAt_len]; exact HSl.out
            have n0 : (0 : Int) ≤ (qh : Int) := by omega
            have n1 : (qh : Int) < (k : Int) := by omega
            have n2 : (0 : Int) < ((n : Int) + 1) := by omega
            clear hrow hgr1 hown1 hown2 HY X1
            go_wp2_with fail
            go_big_region
            go_wp2_with fail
            refine (IH.out (addAt s qh p) b0 _ _ _ KL.out HBd2.out K0.out K1.out).mono ?_
            rintro e w2 ⟨rfl, hb2⟩
            have B4 : Hid (Below w.heap.size w w2) := B3.out.trans (hb2.mono B3.out.size)
            clear hb2
            go_wp2
            go_roundw
            case rel => exact ⟨qh + 1, by omega, by go_num, by rw [HM2.out], B4.out⟩
            case measure => simp [intOf]; omega
          · have heq : qh = k := by omega
            have HV : Hid (minTo (fun h => bestB k l (addAt s h p)) b qh = r) := by show _ = _; rw [HF.out, heq]
            rw [HV.out]
            go_wp2
            go_ret
            exact ⟨rfl, HB.out⟩
set_option maxRecDepth 100000 in
set_option maxHeartbeats 16000000 in
theorem sbestS_cN (H p : Nat) (l s : List Nat) (b r n : Nat) (g o cap : Nat) (a1 : Option Addr) (p1 : Nat) (w : World) (hc1 : ¬ cap = 1) (IH : Hid (SBestTells H l)) (HP : Hid (1 ≤ p ∧ p ≤ 50)) (HH : Hid (1 ≤ H ∧ H ≤ 4)) (R1 : Hid (KReads w (.slice (some ⟨g, o, none⟩) (n + 1) cap) (ofN (p :: l)))) (R2 : Hid (KReads w (.slice a1 H p1) (ofN s)))
    (HBd : Hid (∀ h, s.getD h 0 + 50 * (p :: l).length ≤ 400)) (HSl : Hid (s.length = H)) (hle : n + 1 ≤ cap) (HN : Hid (n = l.length)) (HL : Hid ((ofN s).length = H)) (HF : Hid (r = minTo (fun h => bestB H l (addAt s h p)) b H)) (HPr : Hid (b ≤ maxN s → r = b)) (hgl : Hid (g < w.heap.size ∧ w.cell? ⟨g, o, none⟩ = some (.int .i64 (p : Nat)))) :
    Calls Try.prog 82 #[.slice (some ⟨g, o, none⟩) (n + 1) cap, .slice a1 H p1, .int .i64 (b : Nat)] w fun e w' => e = .returned (.int .i64 (r : Nat)) ∧ Below w.heap.size w w' := by
  have dq : (((n : Int) + 1) == 0) = false := by rw [beq_eq_false_iff_ne]; omega
  go_enter Try.func82, Try.ntmps82
  go_wp2
  go_loopw [7, 14] (fun m i wr => ∃ k : Nat, k ≤ H ∧ i = .int .i64 k ∧ m = .int .i64 (maxN (s.take k) : Nat) ∧ w = wr) (fun _ i _ => H - (intOf i).toNat)
  case atStart => exact ⟨0, Nat.zero_le _, rfl, rfl, rfl⟩
  case round =>
    obtain ⟨k, hk, rfl, rfl, rfl⟩ := hrel
    have h4 := HH.out.2
    by_cases hlt : k < H
    · obtain ⟨g2, o2, c2, e, hc⟩ := R2.out.cells k (by rw [HL.out]; exact hlt)
      rw [HL.out] at e
      cases e
      obtain ⟨x, hx⟩ : ∃ x, x = s.getD k 0 := ⟨_, rfl⟩
      have ck : w.cell? ⟨g2, o2 + k, none⟩ = some (.int .i64 (x : Nat)) := by have := hc k (by rw [HL.out]; exact hlt); rw [ofN_at, ← hx] at this; exact this
      obtain ⟨m1, hm1⟩ : ∃ m1, m1 = maxN (s.take (k + 1)) := ⟨_, rfl⟩
      obtain ⟨m0, hm0⟩ : ∃ m0, m0 = maxN (s.take k) := ⟨_, rfl⟩
      have HMI : Hid (max (m0 : Int) (x : Int) = (m1 : Nat)) := by show _ = _; have := maxN_take s (k := k) (by rw [HSl.out]; exact hlt); rw [← hm1, ← hm0, ← hx] at this; omega
      have HM1 := hid hm1
      rw [← hm0]
      have n0 : (0 : Int) ≤ (k : Int) := by omega
      have n1 : (k : Int) < (H : Int) := by omega
      clear hc hx hm1 hm0
      go_wp2_with fail
      refine (smost_eq m0 x m1 HMI.out _).mono ?_
      rintro e w' ⟨rfl, hw⟩; obtain rfl := hw.symm
      go_wp2
      go_roundw
      case rel => exact ⟨k + 1, by omega, by go_num, by rw [HM1.out], by first | rfl | trivial⟩
      case measure => simp [intOf]; omega
    · obtain rfl : k = H := by omega
      have hmt : maxN (s.take k) = maxN s := by rw [List.take_of_length_le (by rw [HSl.out]; exact Nat.le_refl _)]
      rw [hmt]
      obtain ⟨m, hm⟩ : ∃ m, m = maxN s := ⟨_, rfl⟩
      rw [← hm] at HPr ⊢
      clear hmt hm
      by_cases hbm : b ≤ m
      · have d1 : decide ((b : Int) ≤ (m : Int)) = true := by simpa using hbm
        have HV : Hid (r = b) := HPr.out hbm
        go_wp2
        go_ret
        exact ⟨by rw [HV.out]; rfl, Below.refl _ _⟩
      · have d1 : decide ((b : Int) ≤ (m : Int)) = false := by simpa using hbm
        clear HPr
        go_wp2
        go_loopw [2, 32] (fun bv i wr => ∃ h : Nat, h ≤ k ∧ i = .int .i64 h ∧ bv = .int .i64 (minTo (fun h => bestB k l (addAt s h p)) b h : Nat) ∧ Below w.heap.size w wr) (fun _ i _ => k - (intOf i).toNat)
        case atStart => exact ⟨0, Nat.zero_le _, rfl, rfl, Below.refl _ _⟩
        case round =>
          obtain ⟨qh, hh, rfl, rfl, hbel⟩ := hrel
          have HB := hid hbel
          have hsz := hbel.size
          clear hbel
          have h4 := HH.out.2
          by_cases hlt2 : qh < k
          · obtain ⟨x, hx⟩ : ∃ x, x = s.getD qh 0 := ⟨_, rfl⟩
            have HX := hid hx
            have hb1 := HBd.out qh
            simp only [List.length_cons] at hb1
            rw [← hx] at hb1
            have hp2 := HP.out.2
            obtain ⟨t, ht⟩ : ∃ t, t = x + p := ⟨_, rfl⟩
            have HT := hid ht
            have wr1 : IntKind.i64.wrap ((x : Int) + (p : Int)) = (t : Int) := by rw [IntKind.wrap_i64]; omega
            have HBd2 : Hid (∀ j, (addAt s qh p).getD j 0 + 50 * l.length ≤ 400) := fun j => by
              have := HBd.out j
              simp only [List.length_cons] at this
              rw [addAt_getD _ _ _ (by rw [HSl.out]; exact hlt2)]
              split <;> omega
            obtain ⟨b0, hb0⟩ : ∃ b0, b0 = minTo (fun h => bestB k l (addAt s h p)) b qh := ⟨_, rfl⟩
            rw [← hb0]
            have HM2 : Hid (minTo (fun h => bestB k l (addAt s h p)) b (qh + 1) = min b0 (bestB k l (addAt s qh p))) := by show _ = _; rw [hb0]; rfl
            have HRS : Hid (KReads wr (.slice a1 k p1) (ofN s)) := R2.out.below HB.out
            have hls : (ofN s).length = k := HL.out
            have HY : Hid ((wr.alloc (.cells #[] 3)).ownsRow wr.heap.size 3 1 (.slice (some ⟨wr.heap.size, 0, none⟩) 0 0) 0 (kflat [])) := World.ownsRow_made wr #[] 0 (Nat.le_refl _) (by unfold maxLen; omega) rfl
            have X1 : Hid (Below wr.heap.size wr (wr.alloc (.cells #[] 3))) := (Below.refl wr.heap.size wr).alloc (Nat.le_refl _) _
            obtain ⟨wo, hwo⟩ : ∃ wo, wo = wr := ⟨_, rfl⟩
            subst hwo
            clear hx ht hb0 hb1
            go_wp2_with (at_builtin; refine wpList_append_reads _ rfl _ _ rfl wo.heap.size _ 0 [] rfl HY.out _ (ofN s) rfl (HRS.out.below X1.out) (by rw [hls]; omega) (by simp) ?_)
            intro u w1 hown1 hgr1 _
            have hown2 : w1.ownsRow wo.heap.size 3 1 u k (kflat (ofN s)) := by first | exact hown1 | (rw [hls, Nat.zero_add, List.nil_append] at hown1; exact hown1)
            obtain ⟨gu, cu, rfl, hgu, hrow⟩ := irow_ofB hown2 (by omega)
            have Y1 : Hid (Below wo.heap.size wo w1) := X1.out.grown hgr1 (by simp) (by intro m hm; simp [Value.ownBlock] at hm; omega)
            have B1 : Hid (Below w.heap.size w w1) := HB.out.trans (Y1.out.mono hsz)
            have xp : w1.cell? ⟨g, o, none⟩ = some (.int .i64 (p : Nat)) := (B1.out.cell (p := ⟨g, o, none⟩) hgl.out.1).trans hgl.out.2
            have xk : w1.cell? ⟨gu, qh, none⟩ = some (.int .i64 (x : Nat)) := by have := hrow.cell (i := qh) hlt2; rw [ofN_at, ← HX.out] at this; exact this
            have fk : w1.frozen? ⟨gu, qh, none⟩ = false := hrow.free qh
            have HR3 : Hid (IRow (w1.setCell ⟨gu, qh, none⟩ (.int .i64 (t : Nat))) gu k cu (ofN (addAt s qh p))) := by
              have := hrow.set qh (t : Nat)
              rw [ofN_setI, HT.out, HX.out] at this
              rw [HT.out, HX.out]
              exact this
            have B3 : Hid (Below w.heap.size w (w1.setCell ⟨gu, qh, none⟩ (.int .i64 (t : Nat))).drew) := (B1.out.setCell (by show w.heap.size ≤ gu; omega) _).drew
            have K1 : Hid (KReads (w1.setCell ⟨gu, qh, none⟩ (.int .i64 (t : Nat))).drew (.slice (some ⟨gu, 0, none⟩) k cu) (ofN (addAt s qh p))) := (HR3.out.at (w' := (w1.setCell ⟨gu, qh, none⟩ (.int .i64 (t : Nat))).drew) rfl).reads (by omega)
            have K2 : Hid (∀ c', n ≤ c' → KReads (w1.setCell ⟨gu, qh, none⟩ (.int .i64 (t : Nat))).drew (.slice (some ⟨g, o + 1, none⟩) n c') (ofN l)) := fun c' hc' => kreads_tailB (R1.out.below B3.out) HN.out.symm hc'
            have K0 : Hid (n = 0 → KReads (w1.setCell ⟨gu, qh, none⟩ (.int .i64 (t : Nat))).drew (.slice (some ⟨g, o, none⟩) n 0) (ofN l)) := fun h0 => by
              have : l = [] := List.eq_nil_of_length_eq_zero (by rw [← HN.out]; exact h0)
              rw [this, h0]
              exact kreads_nil _ _ _
            have KL : Hid ((addAt s qh p).length = k) := by show _ = _; rw [addAt_len]; exact HSl.out
            have n0 : (0 : Int) ≤ (qh : Int) := by omega
            have n1 : (qh : Int) < (k : Int) := by omega
            have n2 : (0 : Int) < ((n : Int) + 1) := by omega
            clear hrow hgr1 hown1 hown2 HY X1
            go_wp2_with fail
            go_big_region
            go_wp2_with fail
            refine (IH.out (addAt s qh p) b0 _ _ _ KL.out HBd2.out (K2.out _ (by omega)) K1.out).mono ?_
            rintro e w2 ⟨rfl, hb2⟩
            have B4 : Hid (Below w.heap.size w w2) := B3.out.trans (hb2.mono B3.out.size)
            clear hb2
            go_wp2
            go_roundw
            case rel => exact ⟨qh + 1, by omega, by go_num, by rw [HM2.out], B4.out⟩
            case measure => simp [intOf]; omega
          · have heq : qh = k := by omega
            have HV : Hid (minTo (fun h => bestB k l (addAt s h p)) b qh = r) := by show _ = _; rw [HF.out, heq]
            rw [HV.out]
            go_wp2
            go_ret
            exact ⟨rfl, HB.out⟩
set_option maxRecDepth 100000 in
set_option maxHeartbeats 16000000 in
theorem sbestS_any (H : Nat) (hH : 1 ≤ H ∧ H ≤ 4) : ∀ ls : List Nat, (∀ p, p ∈ ls → 1 ≤ p ∧ p ≤ 50) → SBestTells H ls := by
  intro ls
  induction ls with
  | nil =>
    intro _ s b vl v w hs hb r1 r2
    have R1 := hid r1
    have R2 := hid r2
    have HH := hid hH
    obtain ⟨a0, p0, rfl, _, _⟩ := r1
    obtain ⟨a1, p1, rfl, _, _⟩ := r2
    have el : (ofN ([] : List Nat)).length = 0 := rfl
    have e2 : (ofN s).length = H := by rw [List.length_map]; exact hs
    have HL := hid e2
    have HSl : Hid (s.length = H) := hs
    rw [e2] at R2
    rw [el, e2]
    have hsm : Hid (∀ h, s.getD h 0 ≤ 400) := fun h => by have := hb h; omega
    have hmx : Hid (min b (bestB H [] s) = if b ≤ maxN s then b else maxN s) := by
      show _ = _
      show min b (maxN s) = _
      split <;> omega
    clear hs hb el e2 R1
    go_enter Try.func82, Try.ntmps82
    go_wp2
    go_loopw [7, 14] (fun m i wr => ∃ k : Nat, k ≤ H ∧ i = .int .i64 k ∧ m = .int .i64 (maxN (s.take k) : Nat) ∧ w = wr) (fun _ i _ => H - (intOf i).toNat)
    case atStart => exact ⟨0, Nat.zero_le _, rfl, rfl, rfl⟩
    case round =>
      obtain ⟨k, hk, rfl, rfl, rfl⟩ := hrel
      have h4 := HH.out.2
      by_cases hlt : k < H
      · obtain ⟨g, o, c, e, hc⟩ := R2.out.cells k (by rw [HL.out]; exact hlt)
        rw [HL.out] at e
        cases e
        obtain ⟨x, hx⟩ : ∃ x, x = s.getD k 0 := ⟨_, rfl⟩
        have ck : w.cell? ⟨g, o + k, none⟩ = some (.int .i64 (x : Nat)) := by have := hc k (by rw [HL.out]; exact hlt); rw [ofN_at, ← hx] at this; exact this
        obtain ⟨m1, hm1⟩ : ∃ m1, m1 = maxN (s.take (k + 1)) := ⟨_, rfl⟩
        obtain ⟨m0, hm0⟩ : ∃ m0, m0 = maxN (s.take k) := ⟨_, rfl⟩
        have HMI : Hid (max (m0 : Int) (x : Int) = (m1 : Nat)) := by show _ = _; have := maxN_take s (k := k) (by rw [HSl.out]; exact hlt); rw [← hm1, ← hm0, ← hx] at this; omega
        have HM1 := hid hm1
        rw [← hm0]
        have n0 : (0 : Int) ≤ (k : Int) := by omega
        have n1 : (k : Int) < (H : Int) := by omega
        clear hc hx hm1 hm0
        go_wp2_with fail
        refine (smost_eq m0 x m1 HMI.out _).mono ?_
        rintro e w' ⟨rfl, hw⟩; obtain rfl := hw.symm
        go_wp2
        go_roundw
        case rel => exact ⟨k + 1, by omega, by go_num, by rw [HM1.out], by first | rfl | trivial⟩
        case measure => simp [intOf]; omega
      · obtain rfl : k = H := by omega
        have hmt : maxN (s.take k) = maxN s := by rw [List.take_of_length_le (by rw [HSl.out]; exact Nat.le_refl _)]
        rw [hmt]
        obtain ⟨m, hm⟩ : ∃ m, m = maxN s := ⟨_, rfl⟩
        rw [← hm] at hmx ⊢
        clear hmt hm
        by_cases hbm : b ≤ m
        · have d1 : decide ((b : Int) ≤ (m : Int)) = true := by simpa using hbm
          have HV : Hid (min b (bestB k [] s) = b) := by show _ = _; rw [hmx.out, if_pos hbm]
          go_wp2
          go_ret
          exact ⟨by rw [HV.out]; rfl, Below.refl _ _⟩
        · have d1 : decide ((b : Int) ≤ (m : Int)) = false := by simpa using hbm
          have HV : Hid (min b (bestB k [] s) = m) := by show _ = _; rw [hmx.out, if_neg hbm]
          go_wp2
          go_ret
          exact ⟨by rw [HV.out]; rfl, Below.refl _ _⟩
  | cons p l ih =>
    intro hall s b vl v w hs hb r1 r2
    have IH := hid (ih fun q hq => hall q (List.mem_cons_of_mem _ hq))
    have HP := hid (hall p (List.mem_cons_self ..))
    have HH := hid hH
    have R1 := hid r1
    have R2 := hid r2
    have HBd := hid hb
    have HSl : Hid (s.length = H) := hs
    obtain ⟨g, o, cap, e, hcg⟩ := r1.cells 0 (by simp [ofN])
    have e2 : (ofN (p :: l)).length = l.length + 1 := by rw [List.length_map, List.length_cons]
    rw [e2] at e
    subst e
    obtain ⟨_, capx, ex, hlx, _⟩ := r1
    have hle : l.length + 1 ≤ cap := by rw [e2] at hlx ex; cases ex; exact hlx.2
    obtain ⟨n, hn⟩ : ∃ n, n = l.length := ⟨_, rfl⟩
    rw [← hn] at hle R1 ⊢
    have HN := hid hn
    obtain ⟨a1, p1, rfl, _, _⟩ := r2
    have e3 : (ofN s).length = H := by rw [List.length_map]; exact hs
    have HL := hid e3
    rw [e3] at R2 ⊢
    have HF : Hid (min b (bestB H (p :: l) s) = minTo (fun h => bestB H l (addAt s h p)) b H) := bestB_cons H hH.1 p l s b
    have HPr : Hid (b ≤ maxN s → min b (bestB H (p :: l) s) = b) := fun h => by have := bestB_ge H hH.1 (p :: l) s hs; omega
    have hgl : Hid (g < w.heap.size ∧ w.cell? ⟨g, o, none⟩ = some (.int .i64 (p : Nat))) := by
      have := hcg 0 (by rw [e2]; omega)
      rw [ofN_at, Nat.add_zero] at this
      exact ⟨lt_of_cell this, this⟩
    obtain ⟨r, hr⟩ : ∃ r, min b (bestB H (p :: l) s) = r := ⟨_, rfl⟩
    rw [hr] at HF HPr ⊢
    clear hs hb hcg e2 ex hlx hn e3 hH hall ih hr
    by_cases hc1 : cap = 1
    · subst hc1
      exact sbestS_c1 H p l s b r n g o a1 p1 w IH HP HH R2 HBd HSl hle HN HL HF HPr hgl
    · exact sbestS_cN H p l s b r n g o cap a1 p1 w hc1 IH HP HH R1 R2 HBd HSl hle HN HL HF HPr hgl
end Go.Proofs.Ytflhlinkolbbiae
