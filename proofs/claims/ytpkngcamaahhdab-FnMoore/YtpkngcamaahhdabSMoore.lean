/-
  spec.l5Moore: those in time and those that were taken out, in memory of its own. Nothing old is written.
-/
import Derived.Test.YtpkngcamaahhdabSByEnd
namespace Go.Proofs.Ytpkngcamaahhdab
open Go.RowKit

theorem moore_perm' (p e : Nat → Int) (es : List Nat) : ((moore p e es).1 ++ (moore p e es).2).Perm es := by
  have := moore_perm p e es.reverse
  rw [List.reverse_reverse] at this
  exact this.trans (List.reverse_perm es)
/-- Those in time and those that were taken out, of the first k by ends. -/
def moU (xs : List TkEl) (k : Nat) : List Nat × List Nat := moore (needT xs) (endT xs) ((byEndL xs).take k)
theorem moU_succ (xs : List TkEl) {k : Nat} (h : k < (byEndL xs).length) : moU xs (k + 1) = mooreStep (needT xs) (endT xs) (moU xs k) ((byEndL xs).getD k 0) := by
  unfold moU
  rw [take_next h, moore_snoc]
theorem moU_len (xs : List TkEl) {k : Nat} (h : k ≤ (byEndL xs).length) : (moU xs k).1.length + (moU xs k).2.length = k := by
  have := (moore_perm' (needT xs) (endT xs) ((byEndL xs).take k)).length_eq
  rw [List.length_append, List.length_take] at this
  unfold moU
  omega
theorem moU_in (xs : List TkEl) (k : Nat) {x : Nat} (h : x ∈ (moU xs k).1) : x < xs.length := by
  have h1 : x ∈ (moore (needT xs) (endT xs) ((byEndL xs).take k)).1 ++ (moore (needT xs) (endT xs) ((byEndL xs).take k)).2 := List.mem_append_left _ h
  exact byEnd_lt _ _ (List.mem_of_mem_take ((moore_perm' _ _ _).mem_iff.1 h1))
theorem moU_all (xs : List TkEl) : moU xs xs.length = mooreL xs := by
  unfold moU mooreL
  rw [List.take_of_length_le (by rw [byEndL, byEnd_len]; exact Nat.le_refl _)]
theorem worstU_succ (p : Nat → Int) (u : List Nat) (n : Nat) : worstU p u (n + 1) = if p (u.getD (worstU p u n) 0) < p (u.getD n 0) then n else worstU p u n := rfl
theorem ofN_erase (u : List Nat) (i : Nat) : ofN (u.eraseIdx i) = (ofN u).take i ++ (ofN u).drop (i + 1) := by
  rw [List.eraseIdx_eq_take_drop_succ]
  simp [ofN, List.map_take, List.map_drop]
theorem owns_lt {w : World} {base n : Nat} {t : TypeId} {v : Value} {cs : List Value} (h : w.ownsRow base t 1 v n cs) : ∀ g, v.ownBlock = some g → base ≤ g ∧ g < w.heap.size := by
  intro g hg
  rcases h.2 with ⟨rfl, _⟩ | ⟨g', cap, cur, rfl, hgb, hh, _⟩
  · simp [Value.ownBlock] at hg
  · simp [Value.ownBlock] at hg
    subst hg
    refine ⟨hgb, ?_⟩
    rcases Nat.lt_or_ge g' w.heap.size with h | h
    · exact h
    · rw [Array.getElem?_eq_none h] at hh; cases hh
theorem sum_erase (p : Nat → Int) {u : List Nat} {i : Nat} (h : i < u.length) : sumL p (u.eraseIdx i) = sumL p u - p (u.getD i 0) := by
  have h1 : sumL p u = sumL p (u.take i ++ u.getD i 0 :: u.drop (i + 1)) := congrArg (sumL p) (cut_at h)
  rw [sumL_app] at h1
  simp only [sumL] at h1
  rw [List.eraseIdx_eq_take_drop_succ, sumL_app]
  omega
theorem owns_keep {w w' : World} {base n : Nat} {t : TypeId} {v : Value} {cs : List Value} (h : w.ownsRow base t 1 v n cs) (hb : Below w.heap.size w w') : w'.ownsRow base t 1 v n cs := by
  have hl := owns_lt h
  refine ⟨h.1, ?_⟩
  rcases h.2 with h | ⟨g, cap, cur, rfl, hgb, hh, hrest⟩
  · exact .inl h
  · exact .inr ⟨g, cap, cur, rfl, hgb, (hb.block g (hl g rfl).2).trans hh, hrest⟩
/-- Two rows that do not share their cells. -/
def Apart2 (a b : Value) : Prop := ∀ g, a.ownBlock = some g → b.ownBlock = some g → False
theorem owns_other {w w' : World} {base n : Nat} {t : TypeId} {v : Value} {cs : List Value} {row : Option Nat} (h : w.ownsRow base t 1 v n cs) (hg : w.grownBy w' row) (hr : ∀ g, v.ownBlock = some g → row = some g → False) : w'.ownsRow base t 1 v n cs := by
  refine ⟨h.1, ?_⟩
  rcases h.2 with h | ⟨g, cap, cur, rfl, hgb, hh, hrest⟩
  · exact .inl h
  · refine .inr ⟨g, cap, cur, rfl, hgb, ?_, hrest⟩
    have hlt : g < w.heap.size := by
      rcases Nat.lt_or_ge g w.heap.size with h | h
      · exact h
      · rw [Array.getElem?_eq_none h] at hh; cases hh
    rw [hg.block g hlt (fun e => hr g rfl e.symm)]
    exact hh
set_option maxRecDepth 100000 in
set_option maxHeartbeats 8000000 in
theorem smoore_any (v : Value) (xs : List TkEl) (w : World) (hr : TkReads w v xs) (hg : goodT xs = true) :
    Calls Try.prog 55 #[v] w fun e w' => ∃ u0 u1, e = .returned (.tuple #[u0, u1]) ∧ KOwn w.heap.size w'.heap.size w' u0 (ofN (mooreL xs).1) ∧ KOwn w.heap.size w'.heap.size w' u1 (ofN (mooreL xs).2) ∧ Below w.heap.size w w' := by
  have HR := hid hr
  have HG := hid hg
  have hlen := goodT_len hg
  obtain ⟨a, cap, rfl, _, _⟩ := hr
  obtain ⟨i0, hi, hz0, hz1, hz2⟩ := info_parts info_int
  clear hg
  go_enter Try.func55, Try.ntmps55
  go_wp2_with fail
  refine (sbyend_any _ xs _ HR.out HG.out).mono ?_
  rintro e w1 ⟨ue, rfl, hown, hb1⟩
  have HO := hid hown.reads
  have B1 := hid hb1
  have HBL : Hid ((ofN (byEndL xs)).length = xs.length) := by show _ = _; rw [ofN, List.length_map, byEndL, byEnd_len]
  have HBE : Hid ((byEndL xs).length = xs.length) := by show _ = _; rw [byEndL, byEnd_len]
  obtain ⟨a1, cap1, e1, _, _⟩ := hown.reads
  rw [HBL.out] at e1
  subst e1
  have hsw := hb1.size
  clear hown hb1
  go_wp2
  go_loopw [4, 5, 6, 17] (fun ia oa t i wr => ∃ k : Nat, k ≤ xs.length ∧ i = .int .i64 k ∧ t = .int .i64 (sumL (needT xs) (moU xs k).1) ∧ wr.ownsRow w1.heap.size 3 1 ia (moU xs k).1.length (kflat (ofN (moU xs k).1)) ∧ wr.ownsRow w1.heap.size 3 1 oa (moU xs k).2.length (kflat (ofN (moU xs k).2)) ∧ Apart2 ia oa ∧ Below w1.heap.size w1 wr) (fun _ _ _ i _ => xs.length - (intOf i).toNat)
  case atStart => exact ⟨0, Nat.zero_le _, rfl, rfl, World.ownsRow_nil _ _ _ _, World.ownsRow_nil _ _ _ _, fun g h => by simp [Value.ownBlock] at h, by first | exact Below.refl _ _ | simp⟩
  case round =>
    obtain ⟨k, hk, rfl, rfl, hia, hoa, hap, hbel⟩ := hrel
    have HIA := hid hia
    have HOA := hid hoa
    have HAP := hid hap
    have HB := hid hbel
    have hsz := hbel.size
    clear hia hoa hap hbel
    by_cases hlt : k < xs.length
    · obtain ⟨go, oo, capo, e, hco⟩ := (HO.out.below (HB.out.mono (Nat.le_refl _))).cells k (by rw [HBL.out]; exact hlt)
      rw [HBL.out] at e
      cases e
      have hkb : k < (byEndL xs).length := by rw [HBE.out]; exact hlt
      obtain ⟨x, hx⟩ : ∃ x, x = (byEndL xs).getD k 0 := ⟨_, rfl⟩
      have hxl : x < xs.length := by rw [hx]; exact byEnd_lt _ _ (getD_mem hkb)
      have d0 : wr.cell? ⟨go, oo + k, none⟩ = some (.int .i64 (x : Nat)) := by
        have := hco k (by rw [HBL.out]; exact hlt)
        rw [ofN_get hkb, ← hx] at this
        exact this
      obtain ⟨gl, ol, capl, e, hc⟩ := (HR.out.below (B1.out.trans (HB.out.mono hsw))).cells x hxl
      cases e
      have HC : Hid (∀ j, j < xs.length → wr.cell? ⟨gl, ol + j * 2, none⟩ = some (.int .i64 (needT xs j)) ∧ wr.cell? ⟨gl, ol + j * 2 + 1, none⟩ = some (.int .i64 (endT xs j))) := fun j hj => hc j hj
      have hglw : gl < w.heap.size := by
        obtain ⟨_, _, _, e, hcw⟩ := HR.out.cells x hxl
        cases e
        exact (hcw x hxl).lt
      have HS := hid (moU_succ xs hkb)
      rw [← hx] at HS
      have hml := moU_len xs (k := k) (by omega)
      have HIN := hid (fun y (hy : y ∈ (moU xs k).1) => moU_in xs k hy)
      obtain ⟨A, Bo, hAB⟩ : ∃ A B, moU xs k = (A, B) := ⟨_, _, rfl⟩
      rw [hAB] at HS hml HIN HIA HOA ⊢
      simp only at hml HIN HIA HOA ⊢
      have hsA := sumL_in HG.out A HIN.out
      obtain ⟨s, hs⟩ : ∃ s, s = sumL (needT xs) A := ⟨_, rfl⟩
      have HSA := hid hs
      rw [← hs] at hsA ⊢
      have hnx := goodT_at HG.out x hxl
      obtain ⟨p, hp⟩ : ∃ p, p = needT xs x := ⟨_, rfl⟩
      obtain ⟨q, hq⟩ : ∃ q, q = endT xs x := ⟨_, rfl⟩
      have HP := hid hp
      have HQ := hid hq
      rw [← hp, ← hq] at hnx
      have hA10 : A.length ≤ 9 := by omega
      have hsp : 0 ≤ s ∧ s ≤ 180 := by omega
      have hw1 : IntKind.i64.wrap (s + p) = s + p := by rw [IntKind.wrap_i64]; omega
      clear hc hco hx hAB hs hp hq hsA
      go_wp2_with (at_builtin; refine wpList_append_own_at _ rfl _ _ 42 rfl w1.heap.size 3 i0 (.int .i64 0) 1 8 Try.underlying42 hi hz0 hz1 hz2 rfl (by decide) _ _ _ rfl (HIA.out.alloc _) ⟨wr.heap.size, 0, none⟩ 1 1 (kflat [(x : Int)]) rfl rfl (one_at_new rfl) (kflat_one _) (by unfold maxLen; omega) (by omega) (by simp; omega) ?_)
      intro v2 w2 hown2 hgr2 _ hat2
      have O2 : Hid (w2.ownsRow w1.heap.size 3 1 v2 (A.length + 1) (kflat (ofN (A ++ [x])))) := by
        show World.ownsRow _ _ _ _ _ _ _
        rw [ofN, List.map_append, kflat_append]
        exact hown2
      have OO2 : Hid (w2.ownsRow w1.heap.size 3 1 u5 Bo.length (kflat (ofN Bo))) := owns_other (HOA.out.alloc _) hgr2 (fun g h1 h2 => HAP.out g h2 h1)
      have B2 : Hid (Below w1.heap.size w1 w2) := grown_below HB.out hsz hgr2 (owns_base HIA.out) (Nat.le_refl _)
      have hs2 := B2.out.size
      have AP2 : Hid (Apart2 v2 u5) := by
        intro g h1 h2
        have hlt5 := owns_lt HOA.out g h2
        rw [h1] at hat2
        rcases hat2 with h | h
        · exact HAP.out g h.symm h2
        · injection h with h
          first | omega | (rw [World.size_alloc] at h; omega)
      obtain ⟨g, c2, rfl, hc2, hgg⟩ : ∃ g c, v2 = .slice (some ⟨g, 0, none⟩) (A.length + 1) c ∧ A.length + 1 ≤ c ∧ g < w2.heap.size := by
        have hlt2 := owns_lt O2.out
        rcases O2.out.2 with ⟨_, h⟩ | ⟨g, c, _, h, _, _, hc, _⟩
        · omega
        · exact ⟨g, c, h, hc, (hlt2 g (by rw [h]; rfl)).2⟩
      have L2 : Hid (Below w1.heap.size wr w2) := grown_below (Below.refl _ _) hsz hgr2 (owns_base HIA.out) (Nat.le_refl _)
      clear hown2 hgr2 hat2
      have c0 := (L2.out.cell (p := ⟨gl, ol + x * 2, none⟩) (by show gl < w1.heap.size; omega)).trans (HC.out x hxl).1
      have c1 := (L2.out.cell (p := ⟨gl, ol + x * 2 + 1, none⟩) (by show gl < w1.heap.size; omega)).trans (HC.out x hxl).2
      rw [← HP.out] at c0
      rw [← HQ.out] at c1
      have m0 : (0 : Int) ≤ (x : Int) := by omega
      have m1 : (x : Int) < (xs.length : Int) := by omega
      by_cases hle : s + p ≤ q
      · have hdl : decide (s + p ≤ q) = true := by simpa using hle
        have HS' : Hid (moU xs (k + 1) = (A ++ [x], Bo)) := by
          show _ = _
          rw [HS.out]
          unfold mooreStep
          rw [if_pos (by show sumL (needT xs) A + needT xs x ≤ endT xs x; rw [← HSA.out, ← HP.out, ← HQ.out]; exact hle)]
        have HSum : Hid (sumL (needT xs) (A ++ [x]) = s + p) := by show _ = _; rw [sumL_app, ← HSA.out]; simp [sumL, ← HP.out]
        clear HS hle
        go_wp2
        go_roundw
        case rel =>
          refine ⟨k + 1, by omega, by go_num, ?_, ?_, ?_, AP2.out, B2.out⟩
          · rw [HS'.out, HSum.out]
          · rw [HS'.out]
            show World.ownsRow _ _ _ _ _ _ _
            rw [List.length_append]
            exact O2.out
          · rw [HS'.out]
            exact OO2.out
        case measure => simp [intOf]; omega
      · have hdl : decide (s + p ≤ q) = false := by simpa using hle
        obtain ⟨u, hu⟩ : ∃ u, u = A ++ [x] := ⟨_, rfl⟩
        have HU := hid hu
        have HUL : Hid (u.length = A.length + 1) := by show _ = _; rw [hu]; simp
        have HS' : Hid (moU xs (k + 1) = (u.eraseIdx (worst (needT xs) u), Bo ++ [u.getD (worst (needT xs) u) 0])) := by
          show _ = _
          rw [HS.out]
          unfold mooreStep
          rw [if_neg (by show ¬ sumL (needT xs) A + needT xs x ≤ endT xs x; rw [← HSA.out, ← HP.out, ← HQ.out]; exact hle), hu]
        have HSum : Hid (sumL (needT xs) u = s + p) := by show _ = _; rw [hu, sumL_app, ← HSA.out]; simp [sumL, ← HP.out]
        have HUin : Hid (∀ i, i < A.length + 1 → u.getD i 0 < xs.length) := fun i hi => by
          have hm : u.getD i 0 ∈ u := getD_mem (by rw [HUL.out]; exact hi)
          rw [hu] at hm
          rw [hu]
          rcases List.mem_append.1 hm with h | h
          · exact HIN.out _ h
          · rw [List.mem_singleton.1 h]; exact hxl
        have O2' : Hid (w2.ownsRow w1.heap.size 3 1 (.slice (some ⟨g, 0, none⟩) (A.length + 1) c2) (A.length + 1) (kflat (ofN u))) := by rw [hu]; exact O2.out
        have HUc : Hid (∀ i, i < A.length + 1 → w2.cell? ⟨g, i, none⟩ = some (.int .i64 (u.getD i 0 : Nat))) := fun i hi => by
          have h1 := (kcells_of (KOwn.of_owns O2'.out (by rw [ofN, List.length_map, HUL.out]; omega)).reads).2 i (by rw [ofN, List.length_map, HUL.out]; exact hi)
          rw [ofN_get (by rw [HUL.out]; exact hi)] at h1
          exact h1
        have HC2 : Hid (∀ j, j < xs.length → w2.cell? ⟨gl, ol + j * 2, none⟩ = some (.int .i64 (needT xs j))) := fun j hj => (L2.out.cell (p := ⟨gl, ol + j * 2, none⟩) (by show gl < w1.heap.size; omega)).trans (HC.out j hj).1
        have hglw2 : gl < w2.heap.size := by omega
        clear HS hle hu O2 HC
        go_wp2
        go_loopw [9, 41] (fun wv i wz => ∃ c : Nat, c ≤ A.length + 1 ∧ i = .int .i64 c ∧ wv = .int .i64 (worstU (needT xs) u c : Nat) ∧ Below w2.heap.size w2 wz) (fun _ i _ => A.length + 1 - (intOf i).toNat)
        case atStart => exact ⟨0, Nat.zero_le _, rfl, rfl, by first | exact Below.refl _ _ | simp⟩
        case round =>
          obtain ⟨c, hcl, rfl, rfl, hbz⟩ := hrel
          have HZ := hid hbz
          have hszz := hbz.size
          clear hbz
          have hwl := worstU_lt (needT xs) u c
          have HWS := hid (worstU_succ (needT xs) u c)
          by_cases hcn : c < A.length + 1
          · obtain ⟨wi, hwi⟩ : ∃ wi, wi = worstU (needT xs) u c := ⟨_, rfl⟩
            rw [← hwi] at hwl HWS ⊢
            have hwn : wi < A.length + 1 := by omega
            have g1 := (HZ.out.cell (p := ⟨g, c, none⟩) hgg).trans (HUc.out c hcn)
            have g2 := (HZ.out.cell (p := ⟨g, wi, none⟩) hgg).trans (HUc.out wi hwn)
            have hj1 := HUin.out c hcn
            have hj2 := HUin.out wi hwn
            obtain ⟨j1, hj1e⟩ : ∃ j, j = u.getD c 0 := ⟨_, rfl⟩
            obtain ⟨j2, hj2e⟩ : ∃ j, j = u.getD wi 0 := ⟨_, rfl⟩
            rw [← hj1e] at g1 hj1 HWS
            rw [← hj2e] at g2 hj2 HWS
            have l1 := (HZ.out.cell (p := ⟨gl, ol + j1 * 2, none⟩) hglw2).trans (HC2.out j1 hj1)
            have l2 := (HZ.out.cell (p := ⟨gl, ol + j2 * 2, none⟩) hglw2).trans (HC2.out j2 hj2)
            obtain ⟨p1, hp1⟩ : ∃ p, p = needT xs j1 := ⟨_, rfl⟩
            obtain ⟨p2, hp2⟩ : ∃ p, p = needT xs j2 := ⟨_, rfl⟩
            rw [← hp1] at l1 HWS
            rw [← hp2] at l2 HWS
            have a0 : (0 : Int) ≤ (c : Int) := by omega
            have a1 : (c : Int) < ((A.length : Int) + 1) := by omega
            have a2 : (0 : Int) ≤ (wi : Int) := by omega
            have a3 : (wi : Int) < ((A.length : Int) + 1) := by omega
            have a4 : (0 : Int) ≤ (j1 : Int) := by omega
            have a5 : (j1 : Int) < (xs.length : Int) := by omega
            have a6 : (0 : Int) ≤ (j2 : Int) := by omega
            have a7 : (j2 : Int) < (xs.length : Int) := by omega
            clear hwi hj1e hj2e hp1 hp2
            by_cases hgt : p2 < p1
            · have hdg : decide (p1 > p2) = true := by simpa using hgt
              have HW' : Hid (worstU (needT xs) u (c + 1) = c) := by show _ = _; rw [HWS.out, if_pos hgt]
              clear HWS hgt
              go_wp2_with fail
              go_big_region
              go_wp2
              go_roundw
              case rel => exact ⟨c + 1, by omega, by go_num, by rw [HW'.out], by first | exact HZ.out.drew | exact HZ.out⟩
              case measure => simp [intOf]; omega
            · have hdg : decide (p1 > p2) = false := by simpa using hgt
              have HW' : Hid (worstU (needT xs) u (c + 1) = wi) := by show _ = _; rw [HWS.out, if_neg hgt]
              clear HWS hgt
              go_wp2_with fail
              go_big_region
              go_wp2
              go_roundw
              case rel => exact ⟨c + 1, by omega, by go_num, by rw [HW'.out], by first | exact HZ.out.drew | exact HZ.out⟩
              case measure => simp [intOf]; omega
          · obtain rfl : c = A.length + 1 := by omega
            have hwin := worstU_in (needT xs) u (A.length + 1) (by omega)
            have HWW0 : Hid (worst (needT xs) u = worstU (needT xs) u (A.length + 1)) := by show worstU _ _ _ = _; rw [HUL.out]
            obtain ⟨wi, hwi⟩ : ∃ wi, wi = worstU (needT xs) u (A.length + 1) := ⟨_, rfl⟩
            have HWW : Hid (worst (needT xs) u = wi) := HWW0.out.trans hwi.symm
            rw [← hwi] at hwin ⊢
            have hwn : wi < A.length + 1 := hwin
            have HGW : Hid (∀ i, i < A.length + 1 → wr.cell? ⟨g, i, none⟩ = some (.int .i64 (u.getD i 0 : Nat))) := fun i hi => (HZ.out.cell (p := ⟨g, i, none⟩) hgg).trans (HUc.out i hi)
            have g2 := HGW.out wi hwn
            have hjl := HUin.out wi hwn
            obtain ⟨jj, hjj⟩ : ∃ j, j = u.getD wi 0 := ⟨_, rfl⟩
            have HJJ : Hid (u.getD wi 0 = jj) := hjj.symm
            have HSE := hid (sum_erase (needT xs) (u := u) (i := wi) (by rw [HUL.out]; exact hwn))
            rw [← hjj] at g2 hjl HSE
            have l2 := (HZ.out.cell (p := ⟨gl, ol + jj * 2, none⟩) hglw2).trans (HC2.out jj hjl)
            have hnj := goodT_at HG.out jj hjl
            obtain ⟨pj, hpj⟩ : ∃ p, p = needT xs jj := ⟨_, rfl⟩
            rw [← hpj] at l2 hnj HSE
            have HSum' : Hid (sumL (needT xs) (u.eraseIdx wi) = s + p - pj) := by show _ = _; rw [HSE.out, HSum.out]
            have hw2 : IntKind.i64.wrap (s + p - pj) = s + p - pj := by rw [IntKind.wrap_i64]; omega
            have hw3 : IntKind.i64.wrap ((wi : Int) + 1) = ((wi + 1 : Nat) : Int) := by rw [IntKind.wrap_i64]; omega
            have a0 : (0 : Int) ≤ (wi : Int) := by omega
            have a1 : (wi : Int) < ((A.length : Int) + 1) := by omega
            have a2 : (wi : Int) ≤ (c2 : Int) := by omega
            have a4 : (0 : Int) ≤ (jj : Int) := by omega
            have a5 : (jj : Int) < (xs.length : Int) := by omega
            have HY : Hid ((wr.alloc (.cells #[] 3)).ownsRow wr.heap.size 3 1 (.slice (some ⟨wr.heap.size, 0, none⟩) 0 0) 0 []) := World.ownsRow_made wr #[] 0 (Nat.le_refl _) (by unfold maxLen; omega) rfl
            have HN1 : Hid (∀ m v, (kflat ((ofN u).take wi))[m]? = some v → (wr.alloc (.cells #[] 3)).cell? ((⟨g, 0, none⟩ : Addr).add m) = some v) := by
              refine kflat_cells (off := 0) ?_
              intro m hm
              have hmj : m < wi := by rw [List.length_take] at hm; omega
              rw [Nat.zero_add]
              have e1 : ((ofN u).take wi).getD m 0 = (u.getD m 0 : Nat) := by
                rw [← ofN_get (by rw [HUL.out]; omega)]
                simp [List.getD_eq_getElem?_getD, hmj]
              rw [e1]
              show World.cell? _ _ = _
              exact (((Below.refl wr.heap.size wr).alloc (Nat.le_refl _) (.cells #[] 3)).cell (p := ⟨g, m, none⟩) (by show g < wr.heap.size; omega)).trans (HGW.out m (by omega))
            have HL1 : Hid (((ofN u).take wi).length = wi) := by show _ = _; rw [List.length_take, ofN, List.length_map, HUL.out]; omega
            clear hwi hjj hpj HWW0 HSE HWS hwl
            by_cases hce : wi + 1 = c2
            · subst hce
              go_wp2_with (at_builtin; refine wpList_append_own_at _ rfl _ _ 42 rfl wr.heap.size 3 i0 (.int .i64 0) 1 8 Try.underlying42 hi hz0 hz1 hz2 rfl (by decide) _ 0 [] rfl HY.out ⟨g, 0, none⟩ wi (wi + 1) (kflat ((ofN u).take wi)) rfl (by rw [length_kflat, HL1.out, Nat.mul_one]) HN1.out (kflat_one _) (by unfold maxLen; omega) (by omega) (by simp) ?_)
              intro v3 w3 hown3 hgr3 hnil3 hat3
              have O3 : Hid (w3.ownsRow wr.heap.size 3 1 v3 wi (kflat ((ofN u).take wi))) := by
                first | exact hown3 | (have := hown3; rw [Nat.zero_add, List.nil_append] at this; exact this)
              have L3 : Hid (Below wr.heap.size wr w3) := ((Below.refl wr.heap.size wr).alloc (Nat.le_refl _) (.cells #[] 3)).grown hgr3 (by simp) (by intro m hm; simp [Value.ownBlock] at hm; omega)
              have hs3 := L3.out.size
              obtain ⟨b3, c3, rfl, hle3⟩ : ∃ b c, v3 = .slice (some ⟨b, 0, none⟩) wi c ∧ wi ≤ c := by
                rcases O3.out.2 with ⟨h, h'⟩ | ⟨b, c, _, h, _, _, h2, _⟩
                · first | exact (hnil3 h).elim | exact absurd (hnil3.1 h).1 (by simp)
                · exact ⟨b, c, h, h2⟩
              clear hown3 hgr3 hnil3 hat3
              obtain ⟨w4, hw4⟩ : ∃ w4, w4 = w3 := ⟨_, rfl⟩
              have hwz : A.length - wi = 0 := by omega
              have O4 : Hid (w3.ownsRow wr.heap.size 3 1 (.slice (some ⟨b3, 0, none⟩) wi c3) A.length (kflat (ofN (u.eraseIdx wi)))) := by
                show World.ownsRow _ _ _ _ _ _ _
                rw [ofN_erase, List.drop_eq_nil_of_le (by rw [ofN, List.length_map, HUL.out]; omega), List.append_nil]
                have hnn : A.length = wi := by omega
                rw [hnn]
                exact O3.out
              have L4 := L3
              have hs4 := hs3
              subst hw4
              have OO4 : Hid (w4.ownsRow w1.heap.size 3 1 u5 Bo.length (kflat (ofN Bo))) := owns_keep (owns_keep OO2.out HZ.out) L4.out
              have hlo := owns_lt OO2.out
              have hli := owns_lt O4.out
              have HLO := hid hlo
              have HLI := hid hli
              clear hlo hli
              go_wp2_with (at_builtin; first | refine wpList_append_own_at _ rfl _ _ 42 rfl w1.heap.size 3 i0 (.int .i64 0) 1 8 Try.underlying42 hi hz0 hz1 hz2 rfl (by decide) _ _ _ rfl (OO4.out.alloc _) ⟨w4.heap.size, 0, none⟩ 1 1 (kflat [(jj : Int)]) rfl rfl (one_at_new rfl) (kflat_one _) (by unfold maxLen; omega) (by omega) (by simp; omega) ?_ | refine Lib.wpList_append_run_sl _ rfl _ _ 42 rfl _ _ rfl rfl (knothing hi hz1 _ _ _ _ hle3 _ _) ?_)
              intro v5 w5 hown5 hgr5 _ hat5
              have O5 : Hid (w5.ownsRow w1.heap.size 3 1 v5 (Bo.length + 1) (kflat (ofN (Bo ++ [jj])))) := by
                show World.ownsRow _ _ _ _ _ _ _
                rw [ofN, List.map_append, kflat_append]
                exact hown5
              have I5 : Hid (w5.ownsRow w1.heap.size 3 1 (.slice (some ⟨b3, 0, none⟩) wi c3) A.length (kflat (ofN (u.eraseIdx wi)))) := by
                refine owns_mono5 (base := wr.heap.size) (owns_other (O4.out.alloc _) hgr5 ?_) (by omega)
                intro g' h1 h2
                have h3 := HLI.out g' h1
                have h4 := HLO.out g' h2
                omega
              have AP5 : Hid (Apart2 (.slice (some ⟨b3, 0, none⟩) wi c3) v5) := by
                intro g' h1 h2
                have h3 := HLI.out g' h1
                rw [h2] at hat5
                rcases hat5 with h | h
                · have h4 := HLO.out g' h.symm
                  omega
                · injection h with h
                  first | omega | (rw [World.size_alloc] at h; omega)
              have B5 : Hid (Below w1.heap.size w1 w5) := by
                refine B2.out.trans ((HZ.out.mono hs2).trans ?_)
                exact grown_below (L4.out.mono (by omega)) (by omega) hgr5 (owns_base OO4.out) (Nat.le_refl _)
              clear hown5 hgr5 hat5
              go_wp2
              go_roundw
              case rel =>
                refine ⟨k + 1, by omega, by go_num, ?_, ?_, ?_, AP5.out, B5.out⟩
                · rw [HS'.out, HWW.out, HSum'.out]
                · rw [HS'.out, HWW.out]
                  show World.ownsRow _ _ _ _ _ _ _
                  rw [List.length_eraseIdx_of_lt (by rw [HUL.out]; exact hwn), HUL.out, Nat.add_sub_cancel]
                  exact I5.out
                · rw [HS'.out, HWW.out, HJJ.out]
                  show World.ownsRow _ _ _ _ _ _ _
                  rw [List.length_append]
                  exact O5.out
              case measure => simp [intOf]; omega
            · have hcl2 : wi + 1 < c2 := by omega
              have hcl3 : (wi : Int) + 1 < (c2 : Int) := by omega
              go_wp2_with (at_builtin; refine wpList_append_own_at _ rfl _ _ 42 rfl wr.heap.size 3 i0 (.int .i64 0) 1 8 Try.underlying42 hi hz0 hz1 hz2 rfl (by decide) _ 0 [] rfl HY.out ⟨g, 0, none⟩ wi c2 (kflat ((ofN u).take wi)) rfl (by rw [length_kflat, HL1.out, Nat.mul_one]) HN1.out (kflat_one _) (by unfold maxLen; omega) (by omega) (by simp) ?_)
              intro v3 w3 hown3 hgr3 hnil3 hat3
              have O3 : Hid (w3.ownsRow wr.heap.size 3 1 v3 wi (kflat ((ofN u).take wi))) := by
                first | exact hown3 | (have := hown3; rw [Nat.zero_add, List.nil_append] at this; exact this)
              have L3 : Hid (Below wr.heap.size wr w3) := ((Below.refl wr.heap.size wr).alloc (Nat.le_refl _) (.cells #[] 3)).grown hgr3 (by simp) (by intro m hm; simp [Value.ownBlock] at hm; omega)
              have hs3 := L3.out.size
              obtain ⟨b3, c3, rfl, hle3⟩ : ∃ b c, v3 = .slice (some ⟨b, 0, none⟩) wi c ∧ wi ≤ c := by
                rcases O3.out.2 with ⟨h, h'⟩ | ⟨b, c, _, h, _, _, h2, _⟩
                · first | exact (hnil3 h).elim | exact absurd (hnil3.1 h).1 (by simp)
                · exact ⟨b, c, h, h2⟩
              clear hown3 hgr3 hnil3 hat3
              have HN4 : Hid (∀ m v, (kflat ((ofN u).drop (wi + 1)))[m]? = some v → w3.cell? ((⟨g, wi + 1, none⟩ : Addr).add m) = some v) := by
                refine kflat_cells (off := wi + 1) ?_
                intro m hm
                have hmj : wi + 1 + m < A.length + 1 := by rw [List.length_drop, ofN, List.length_map, HUL.out] at hm; omega
                have e1 : ((ofN u).drop (wi + 1)).getD m 0 = (u.getD (wi + 1 + m) 0 : Nat) := by
                  rw [← ofN_get (by rw [HUL.out]; omega)]
                  simp [List.getD_eq_getElem?_getD, List.getElem?_drop]
                rw [e1]
                exact (L3.out.cell (p := ⟨g, wi + 1 + m, none⟩) (by show g < wr.heap.size; omega)).trans (HGW.out (wi + 1 + m) hmj)
              have HL4 : Hid (((ofN u).drop (wi + 1)).length = A.length - wi) := by show _ = _; rw [List.length_drop, ofN, List.length_map, HUL.out]; omega
              go_wp2_with (at_builtin; first | refine wpList_append_own_at _ rfl _ _ 42 rfl wr.heap.size 3 i0 (.int .i64 0) 1 8 Try.underlying42 hi hz0 hz1 hz2 rfl (by decide) _ _ _ rfl O3.out ⟨g, wi + 1, none⟩ (A.length - wi) (c2 - (wi + 1)) (kflat ((ofN u).drop (wi + 1))) rfl (by rw [length_kflat, HL4.out, Nat.mul_one]) HN4.out (kflat_one _) (by unfold maxLen; omega) (by omega) (by omega) ?_)
              intro v4 w4 hown4 hgr4 _ hat4
              have O4 : Hid (w4.ownsRow wr.heap.size 3 1 v4 A.length (kflat (ofN (u.eraseIdx wi)))) := by
                show World.ownsRow _ _ _ _ _ _ _
                rw [ofN_erase, kflat_append]
                have hnn : A.length = wi + (A.length - wi) := by omega
                rw [hnn]
                first | exact hown4 | (rw [← hnn]; exact hown4)
              have L4 : Hid (Below wr.heap.size wr w4) := L3.out.trans ((Below.refl wr.heap.size w3).grown hgr4 (by omega) (fun m hm => by have := owns_base O3.out m hm; omega))
              have hs4 := L4.out.size
              clear hown4 hgr4 hat4
              have OO4 : Hid (w4.ownsRow w1.heap.size 3 1 u5 Bo.length (kflat (ofN Bo))) := owns_keep (owns_keep OO2.out HZ.out) L4.out
              have hlo := owns_lt OO2.out
              have hli := owns_lt O4.out
              have HLO := hid hlo
              have HLI := hid hli
              clear hlo hli
              go_wp2_with (at_builtin; refine wpList_append_own_at _ rfl _ _ 42 rfl w1.heap.size 3 i0 (.int .i64 0) 1 8 Try.underlying42 hi hz0 hz1 hz2 rfl (by decide) _ _ _ rfl (OO4.out.alloc _) ⟨w4.heap.size, 0, none⟩ 1 1 (kflat [(jj : Int)]) rfl rfl (one_at_new rfl) (kflat_one _) (by unfold maxLen; omega) (by omega) (by simp; omega) ?_)
              intro v5 w5 hown5 hgr5 _ hat5
              have O5 : Hid (w5.ownsRow w1.heap.size 3 1 v5 (Bo.length + 1) (kflat (ofN (Bo ++ [jj])))) := by
                show World.ownsRow _ _ _ _ _ _ _
                rw [ofN, List.map_append, kflat_append]
                exact hown5
              have I5 : Hid (w5.ownsRow w1.heap.size 3 1 v4 A.length (kflat (ofN (u.eraseIdx wi)))) := by
                refine owns_mono5 (base := wr.heap.size) (owns_other (O4.out.alloc _) hgr5 ?_) (by omega)
                intro g' h1 h2
                have h3 := HLI.out g' h1
                have h4 := HLO.out g' h2
                omega
              have AP5 : Hid (Apart2 v4 v5) := by
                intro g' h1 h2
                have h3 := HLI.out g' h1
                rw [h2] at hat5
                rcases hat5 with h | h
                · have h4 := HLO.out g' h.symm
                  omega
                · injection h with h
                  first | omega | (rw [World.size_alloc] at h; omega)
              have B5 : Hid (Below w1.heap.size w1 w5) := by
                refine B2.out.trans ((HZ.out.mono hs2).trans ?_)
                exact grown_below (L4.out.mono (by omega)) (by omega) hgr5 (owns_base OO4.out) (Nat.le_refl _)
              clear hown5 hgr5 hat5
              go_wp2
              go_roundw
              case rel =>
                refine ⟨k + 1, by omega, by go_num, ?_, ?_, ?_, AP5.out, B5.out⟩
                · rw [HS'.out, HWW.out, HSum'.out]
                · rw [HS'.out, HWW.out]
                  show World.ownsRow _ _ _ _ _ _ _
                  rw [List.length_eraseIdx_of_lt (by rw [HUL.out]; exact hwn), HUL.out, Nat.add_sub_cancel]
                  exact I5.out
                · rw [HS'.out, HWW.out, HJJ.out]
                  show World.ownsRow _ _ _ _ _ _ _
                  rw [List.length_append]
                  exact O5.out
              case measure => simp [intOf]; omega
    · obtain rfl : k = xs.length := by omega
      have K1 := hid (KOwn.of_owns HIA.out (by rw [ofN, List.length_map]; have := moU_len xs (k := xs.length) (by rw [HBE.out]; exact Nat.le_refl _); omega))
      have K2 := hid (KOwn.of_owns HOA.out (by rw [ofN, List.length_map]; have := moU_len xs (k := xs.length) (by rw [HBE.out]; exact Nat.le_refl _); omega))
      rw [moU_all] at K1 K2
      have B3 : Hid (Below w.heap.size w wr) := B1.out.trans (HB.out.mono hsw)
      go_wp2
      go_ret2
      exact ⟨_, _, rfl, K1.out.mono hsw (Nat.le_refl _), K2.out.mono hsw (Nat.le_refl _), B3.out⟩
end Go.Proofs.Ytpkngcamaahhdab
