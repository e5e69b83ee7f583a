/-
  impl.mooreOrder: those in time, and behind them those that were taken out, in memory of its own. Nothing old is written.
  impl.MooreOrder: Moore's order, in memory of its own. Nothing old is written.
-/
import Derived.Test.YtpkngcamaahhdabIMooMath
import Derived.Test.YtpkngcamaahhdabIByEnd
import Derived.Test.YtpkngcamaahhdabICmpE
import Derived.Test.YtpkngcamaahhdabINeed
import Derived.Test.YtpkngcamaahhdabIMaxF
import Derived.Test.YtpkngcamaahhdabIDelM
import Derived.Test.YtpkngcamaahhdabIGrow
import Derived.Test.YtpkngcamaahhdabITask
import Derived.OwnWalk
namespace Go.Proofs.Ytpkngcamaahhdab
open Go.RowKit

theorem moo2_any (bx j : Nat) (k : Nat) (w : World) (cx : w.cell? ⟨bx, 0, none⟩ = some (.int .i64 (j : Nat))) : Calls Try.prog 84 #[.int .i64 (k : Nat), .pointer (some ⟨bx, 0, none⟩)] w fun e w' => e = .returned (.bool ((k : Int) == (j : Int))) ∧ w' = w := by
  go_enter Try.func84, Try.ntmps84
  go_wp2
  go_ret
  exact ⟨rfl, rfl⟩
theorem kreads_one (w : World) (x : Nat) : KReads (w.alloc (.cells #[.int .i64 (x : Nat)] 3)) (.slice (some ⟨w.heap.size, 0, none⟩) 1 1) (ofN [x]) := by
  refine ⟨_, 1, rfl, by simp, .inr ⟨w.heap.size, 0, rfl, fun i hi => ?_⟩⟩
  obtain rfl : i = 0 := by simpa using hi
  exact cell_of_row _ _ _ _ _ (0, 0) (heap_alloc_new w _)
theorem below_drewN {B : Nat} {a b : World} (h : Below B a b) (n : Nat) : Below B a (b.drewN n) := h.trans ⟨rfl, rfl, rfl, Nat.le_refl _, fun _ _ => rfl⟩
set_option maxRecDepth 100000 in
set_option maxHeartbeats 16000000 in
theorem imoore_any (v : Value) (xs : List TkEl) (w : World) (hr : TkReads w v xs) (hg : goodT xs = true) :
    Calls Try.prog 53 #[v] w fun e w' => ∃ u, e = .returned (.tuple #[u, .int .i64 ((mooreL xs).1.length : Nat)]) ∧ KOwn w.heap.size w'.heap.size w' u (ofN ((mooreL xs).1 ++ (mooreL xs).2)) ∧ Below w.heap.size w w' := by
  have HR := hid hr
  have HG := hid hg
  have hlen := goodT_len hg
  obtain ⟨a, cap, rfl, _, _⟩ := hr
  clear hg
  have HBE : Hid ((byEndL xs).length = xs.length) := by show _ = _; rw [byEndL, byEnd_len]
  go_enter Try.func53, Try.ntmps53
  go_wp2_with fail
  refine (comparing_any _ _ _).mono ?_
  rintro e w1 ⟨rfl, hw1⟩
  rw [World.size_alloc]
  have B1 : Hid (Below w.heap.size w w1) := by rw [hw1]; exact ((Below.refl _ _).alloc (Nat.le_refl _) _).alloc (by simp) _
  have hz1 : w1.heap.size = w.heap.size + 2 := by rw [hw1]; simp
  have C1 : Hid (w1.cell? ⟨w.heap.size, 0, none⟩ = some (.slice a xs.length cap)) := by
    show _ = _
    rw [hw1, ((Below.refl (w.heap.size + 1) _).alloc (by simp) _).cell (p := ⟨w.heap.size, 0, none⟩) (by show w.heap.size < w.heap.size + 1; omega)]
    exact cell_of_row _ _ _ _ _ (0, 0) (heap_alloc_new w _)
  have K1 : Hid (w1.cell? ⟨w.heap.size + 1, 0, none⟩ = some (.func (.func 80) #[] #[.pointer (some ⟨w.heap.size, 0, none⟩)])) := by
    show _ = _
    rw [hw1]
    exact cell_of_row _ _ _ _ _ (0, 0) (by have := heap_alloc_new (w.alloc (.cells #[.slice a xs.length cap] 41)) (.cells #[.func (.func 80) #[] #[.pointer (some ⟨w.heap.size, 0, none⟩)]] 67); rw [World.size_alloc] at this; exact this)
  clear hw1
  have c1 := C1.out
  go_wp2_with fail
  refine (ibyend_any _ xs _ (HR.out.below B1.out) HG.out).mono ?_
  rintro e w2 ⟨ge, rfl, hrow, hge, hb2⟩
  have L2 := hid hb2
  have hz2 := hrow.caps.2.2
  have R2 := hid hrow
  have B2 : Hid (Below w.heap.size w w2) := B1.out.trans (hb2.mono B1.out.size)
  have C2 : Hid (w2.cell? ⟨w.heap.size, 0, none⟩ = some (.slice a xs.length cap)) := (hb2.cell (p := ⟨w.heap.size, 0, none⟩) (by show w.heap.size < _; omega)).trans C1.out
  have K2 : Hid (w2.cell? ⟨w.heap.size + 1, 0, none⟩ = some (.func (.func 80) #[] #[.pointer (some ⟨w.heap.size, 0, none⟩)])) := (hb2.cell (p := ⟨w.heap.size + 1, 0, none⟩) (by show w.heap.size + 1 < _; omega)).trans K1.out
  clear hrow hb2 C1 K1 c1
  go_wp2
  go_loopw [5, 6, 15] (fun ka oa i wr => ∃ k : Nat, k ≤ xs.length ∧ i = .int .i64 k ∧ wr.ownsRow w2.heap.size 3 1 ka (moV xs k).1.length (kflat (ofN (moV xs k).1)) ∧ wr.ownsRow w2.heap.size 3 1 oa (moV xs k).2.length (kflat (ofN (moV xs k).2)) ∧ ApartI ka oa ∧ Below w2.heap.size w2 wr) (fun _ _ i _ => xs.length - (intOf i).toNat)
  case atStart => exact ⟨0, Nat.zero_le _, rfl, World.ownsRow_nil _ _ _ _, World.ownsRow_nil _ _ _ _, fun g h => by simp [Value.ownBlock] at h, Below.refl _ _⟩
  case round =>
    obtain ⟨k, hk, rfl, hia, hoa, hap, hbel⟩ := hrel
    have HIA := hid hia
    have HOA := hid hoa
    have HAP := hid hap
    have HB := hid hbel
    have hsz := hbel.size
    clear hia hoa hap hbel
    by_cases hlt : k < xs.length
    · have hkb : k < (byEndL xs).length := by rw [HBE.out]; exact hlt
      obtain ⟨x, hx⟩ : ∃ x, x = (byEndL xs).getD k 0 := ⟨_, rfl⟩
      have hxl : x < xs.length := by rw [hx]; exact byEnd_lt _ _ (getD_mem hkb)
      have d0 : wr.cell? ⟨ge, k, none⟩ = some (.int .i64 (x : Nat)) := by
        have := (R2.out.below HB.out hz2).cell hlt
        rw [ofN_get hkb, ← hx] at this
        exact this
      have HS := hid (moV_succ xs hkb)
      have HND := hid (moV_next xs hkb)
      rw [← hx] at HS HND
      have hml := moV_len xs (k := k) (by omega)
      have HIN := hid (fun y (hy : y ∈ (moV xs k).1) => moV_in xs k hy)
      obtain ⟨A, Bo, hAB⟩ : ∃ A B, moV xs k = (A, B) := ⟨_, _, rfl⟩
      rw [hAB] at HS hml HIN HIA HOA HND
      simp only at hml HIN HIA HOA HND
      clear hx hAB
      obtain ⟨gl, ol, capl, e, hc⟩ := (HR.out.below (B2.out.trans (HB.out.mono (by have := B2.out.size; omega)))).cells x hxl
      cases e
      have hw2 := B2.out.size
      obtain ⟨v3, w3, hrun3, hown3, hgr3, hat3⟩ := append_reads (wr.alloc (.cells #[.int .i64 (x : Nat)] 3)) w2.heap.size u5 A.length (ofN A) (HIA.out.alloc _) _ (ofN [x]) (kreads_one wr x) (by simp; omega) (by simp; omega) 42
      obtain ⟨u, hu⟩ : ∃ u, u = A ++ [x] := ⟨_, rfl⟩
      obtain ⟨m3, hm3⟩ : ∃ m, m = u.length := ⟨_, rfl⟩
      have hm : m3 = A.length + 1 := by rw [hm3, hu]; simp
      have O3 : Hid (w3.ownsRow w2.heap.size 3 1 v3 m3 (kflat (ofN u))) := by
        show World.ownsRow _ _ _ _ _ _ _
        rw [hm, hu, ofN_app]
        exact hown3
      have OO3 : Hid (w3.ownsRow w2.heap.size 3 1 u6 Bo.length (kflat (ofN Bo))) := owns_rest (HOA.out.alloc _) hgr3 (fun g h1 h2 => HAP.out g h2 h1)
      have B3 : Hid (Below w2.heap.size w2 w3) := (HB.out.alloc hsz _).grown hgr3 (by simp; omega) (fun m hm => (HIA.out.lt m hm).1)
      have AP3 : Hid (ApartI v3 u6) := by
        intro g h1 h2
        have hlt6 := HOA.out.lt g h2
        rw [h1] at hat3
        rcases hat3 with h | h
        · exact HAP.out g h.symm h2
        · injection h with h
          rw [World.size_alloc] at h
          omega
      obtain ⟨g, c, rfl⟩ : ∃ g c, v3 = .slice (some ⟨g, 0, none⟩) m3 c := by
        rcases O3.out.2 with ⟨_, h⟩ | ⟨g, c, _, h, _⟩
        · omega
        · exact ⟨g, c, h⟩
      have IR3 := hid (owns_irow O3.out).1
      have hgb := (owns_irow O3.out).2
      have hgw := IR3.out.caps.2.2
      have h03 : 0 < m3 := by omega
      have h13 : m3 ≤ 10 := by omega
      have HU := hid hu
      have HUM : Hid (u.length = m3) := hm3.symm
      have HIU : Hid (∀ y, y ∈ u → y < xs.length) := fun y hy => by
        rw [hu] at hy
        rcases List.mem_append.1 hy with h | h
        · exact HIN.out y h
        · rw [List.mem_singleton.1 h]; exact hxl
      have HIU2 : Hid (∀ i, i < m3 → u.getD i 0 < xs.length) := fun i hi => HIU.out _ (getD_mem (by rw [HUM.out]; exact hi))
      have HNU : Hid u.Nodup := by show u.Nodup; rw [hu]; exact HND.out
      have c3 : w3.cell? ⟨w.heap.size, 0, none⟩ = some (.slice (some ⟨gl, ol, none⟩) xs.length cap) := (B3.out.cell (p := ⟨w.heap.size, 0, none⟩) (by show w.heap.size < _; omega)).trans C2.out
      have K3 : Hid (w3.cell? ⟨w.heap.size + 1, 0, none⟩ = some (.func (.func 80) #[] #[.pointer (some ⟨w.heap.size, 0, none⟩)])) := (B3.out.cell (p := ⟨w.heap.size + 1, 0, none⟩) (by show w.heap.size + 1 < _; omega)).trans K2.out
      have BW3 : Hid (Below w.heap.size w w3) := B2.out.trans (B3.out.mono (by omega))
      have TR3 : Hid (TkReads w3 (.slice (some ⟨gl, ol, none⟩) xs.length cap) xs) := HR.out.below BW3.out
      have KR3 : Hid (KReads w3 (.slice (some ⟨g, 0, none⟩) m3 c) (ofN u)) := IR3.out.reads (by omega)
      have HKey : Hid (∀ q, KeyIn g (w3.drewN q) (w.heap.size + 1) xs.length (needT xs)) := fun q =>
        keyInN g (w.heap.size + 1) w.heap.size (some ⟨gl, ol, none⟩) xs.length cap xs (w3.drewN q) rfl (by omega) (by omega) K3.out c3
          (fun w' hb => HR.out.below ((below_drewN BW3.out q).trans (hb.to (a := w3.drewN q) (B := w.heap.size) (by show w.heap.size ≤ w3.heap.size; omega) (fun k hk => by omega))))
      obtain ⟨gl', ol', capl', e, hc3⟩ := TR3.out.cells x hxl
      cases e
      obtain ⟨q, hq⟩ : ∃ q, q = endT xs x := ⟨_, rfl⟩
      have ce : w3.cell? ⟨gl, ol + x * 2 + 1, none⟩ = some (.int .i64 q) := by rw [hq]; exact (hc3 x hxl).2
      obtain ⟨t, ht⟩ : ∃ t, t = sumL (needT xs) u := ⟨_, rfl⟩
      have HSum : Hid (t = sumL (needT xs) A + needT xs x) := by show _ = _; rw [ht, hu, sumL_app]; simp [sumL]
      have HT := hid ht
      have HQ := hid hq
      have HNeed : Hid (∀ n, Calls Try.prog 81 #[.slice (some ⟨gl, ol, none⟩) xs.length cap, .slice (some ⟨g, 0, none⟩) m3 c] (w3.drewN n) fun e w' => e = .returned (.int .i64 t) ∧ w' = w3.drewN n) := fun n => by
        rw [ht]
        exact ineed_any _ _ xs u _ TR3.out KR3.out HG.out HIU.out (by rw [HUM.out]; exact h13)
      have n0 : (0 : Int) ≤ (x : Int) := by omega
      have n1 : (x : Int) < (xs.length : Int) := by omega
      clear hc hc3 hown3 hgr3 hat3 hu hm3 hm hq ht KR3 HNU
      have HNU : Hid u.Nodup := by show u.Nodup; rw [HU.out]; exact HND.out
      by_cases hle : t ≤ q
      · have hdl : decide (t ≤ q) = true := by simpa using hle
        have HS' : Hid (moV xs (k + 1) = (u, Bo)) := by
          show _ = _
          rw [HS.out]
          unfold mooreStep
          rw [if_pos (by show sumL (needT xs) A + needT xs x ≤ endT xs x; rw [← HSum.out, ← HQ.out]; exact hle), HU.out]
        clear HS hle
        go_wp2_with (at_builtin; refine Lib.wpList_append_run_sl _ rfl _ _ 42 rfl _ _ rfl rfl hrun3 ?_)
        go_quiet (exact Calls.quiet_of_same (HNeed.out _))
        go_wp2
        go_roundw
        case rel =>
          refine ⟨k + 1, by omega, by go_num, ?_, ?_, AP3.out, below_drewN B3.out _⟩
          · rw [HS'.out]
            show World.ownsRow _ _ _ _ _ u.length _
            rw [HUM.out]
            exact O3.out
          · rw [HS'.out]
            exact OO3.out
        case measure => simp [intOf]; omega
      · have hdl : decide (t ≤ q) = false := by simpa using hle
        have hwn : worst (needT xs) u < m3 := by have := worstU_in (needT xs) u m3 h03; unfold worst; rw [HUM.out]; exact this
        obtain ⟨wi, hwi⟩ : ∃ wi, wi = worst (needT xs) u := ⟨_, rfl⟩
        obtain ⟨j, hj⟩ : ∃ j, j = u.getD (worst (needT xs) u) 0 := ⟨_, rfl⟩
        have HS' : Hid (moV xs (k + 1) = (leftL (fun k => ((k : Int) == (j : Int))) u, Bo ++ [j])) := by
          show _ = _
          rw [left_erase HNU.out (by rw [HUM.out]; exact hwn) j hj, HS.out]
          unfold mooreStep
          rw [if_neg (by show ¬ sumL (needT xs) A + needT xs x ≤ endT xs x; rw [← HSum.out, ← HQ.out]; exact hle), hj, HU.out]
        have HMax : Hid (∀ n, Calls Try.prog 82 #[.slice (some ⟨g, 0, none⟩) m3 c, cmpV (w.heap.size + 1)] (w3.drewN n) fun e w' => e = .returned (.int .i64 (j : Nat)) ∧ ∃ q, w' = (w3.drewN n).drewN q) := fun n => by
          rw [hj]
          exact imaxf_any g m3 c (w.heap.size + 1) g xs.length (needT xs) u _ h03 (by omega) IR3.out (HKey.out n) HIU2.out
        clear HS hle hwi hj hwn
        go_wp2_with (at_builtin; refine Lib.wpList_append_run_sl _ rfl _ _ 42 rfl _ _ rfl rfl hrun3 ?_)
        go_quiet (exact Calls.quiet_of_same (HNeed.out _))
        go_wp2_with fail
        refine (HMax.out _).mono ?_
        rintro e w4 ⟨rfl, q4, hw4⟩
        have B34 : Hid (Below w3.heap.size w3 w4) := by rw [hw4]; exact below_drewN (below_drewN (Below.refl _ _) _) _
        have hz4 : w4.heap.size = w3.heap.size := by rw [hw4]; rfl
        have B35 : Hid (Below w3.heap.size w3 (w4.alloc (.cells #[.int .i64 (j : Nat)] 3))) := B34.out.alloc (by omega) _
        have CX5 : Hid ((w4.alloc (.cells #[.int .i64 (j : Nat)] 3)).cell? ⟨w4.heap.size, 0, none⟩ = some (.int .i64 (j : Nat))) := cell_of_row _ _ _ _ _ (0, 0) (heap_alloc_new w4 _)
        have HZ4 := hid hz4
        clear hw4 hz4
        have HDel : Hid (DelMIn g (w4.alloc (.cells #[.int .i64 (j : Nat)] 3)) w4.heap.size xs.length (fun k => ((k : Int) == (j : Int)))) := fun w' hb k _ =>
          moo2_any w4.heap.size j k w' ((hb.cell (p := ⟨w4.heap.size, 0, none⟩) (by show ¬ w4.heap.size = g; have := HZ4.out; omega) (by show w4.heap.size < _; simp)).trans CX5.out)
        go_wp2_with fail
        refine (deleteM_any g m3 c w4.heap.size xs.length (fun k => ((k : Int) == (j : Int))) u _ (by omega) (IR3.out.below B35.out hgw) HDel.out HIU2.out).mono ?_
        rintro e w6 ⟨m6, rfl, hr6, hb6⟩
        have cx6 : w6.cell? ⟨w4.heap.size, 0, none⟩ = some (.int .i64 (j : Nat)) := (hb6.cell (p := ⟨w4.heap.size, 0, none⟩) (by show ¬ w4.heap.size = g; have := HZ4.out; omega) (by show w4.heap.size < _; simp)).trans CX5.out
        have hm6 : (leftL (fun k => ((k : Int) == (j : Int))) u).length = m6 := by have := hr6.len; rw [ofN, List.length_map] at this; exact this
        have HM6 := hid hm6
        have O6 : Hid (w6.ownsRow w2.heap.size 3 1 u6 Bo.length (kflat (ofN Bo))) := by
          refine owns_but (owns_rest OO3.out (row := none) ⟨B35.out.os, B35.out.tape, B35.out.output, B35.out.size, fun k hk _ => B35.out.block k hk⟩ (fun g _ h => by cases h)) hb6 ?_
          intro g' h1 h2
          subst h2
          exact AP3.out g' rfl h1
        have B6 : Hid (Below w2.heap.size w2 w6) := B3.out.trans ((B35.out.mono (by have := B3.out.size; omega)).trans (hb6.to (by have := B3.out.size; have := HZ4.out; simp; omega) (fun k hk => by omega)))
        have hs6 := B6.out.size
        have hg6 := hr6.caps.2.2
        obtain ⟨v7, w7, hrun7, hown7, hgr7, hat7⟩ := append_reads (w6.alloc (.cells #[.int .i64 (j : Nat)] 3)) w2.heap.size u6 Bo.length (ofN Bo) (O6.out.alloc _) _ (ofN [j]) (kreads_one w6 j) (by simp; omega) (by simp; omega) 42
        have O7 : Hid (w7.ownsRow w2.heap.size 3 1 v7 (Bo.length + 1) (kflat (ofN (Bo ++ [j])))) := by
          show World.ownsRow _ _ _ _ _ _ _
          rw [ofN_app]
          exact hown7
        have I7 : Hid (w7.ownsRow w2.heap.size 3 1 (.slice (some ⟨g, 0, none⟩) m6 c) m6 (kflat (ofN (leftL (fun k => ((k : Int) == (j : Int))) u)))) :=
          owns_rest ((hr6.owns hgb).alloc _) hgr7 (fun g' h1 h2 => AP3.out g' (by rw [← h1]; rfl) h2)
        have AP7 : Hid (ApartI (.slice (some ⟨g, 0, none⟩) m6 c) v7) := by
          intro g' h1 h2
          have h1' : g = g' := by simpa [Value.ownBlock] using h1
          subst h1'
          rw [h2] at hat7
          rcases hat7 with h | h
          · exact AP3.out g rfl h.symm
          · injection h with h
            rw [World.size_alloc] at h
            omega
        have B7 : Hid (Below w2.heap.size w2 w7) := (B6.out.alloc hs6 _).grown hgr7 (by simp; omega) (fun m hm => (O6.out.lt m hm).1)
        clear hown7 hgr7 hat7 hr6 hb6 hm6
        go_wp2_with (at_builtin; refine Lib.wpList_append_run_sl _ rfl _ _ 42 rfl _ _ rfl rfl hrun7 ?_)
        go_roundw
        case rel =>
          refine ⟨k + 1, by omega, by go_num, ?_, ?_, AP7.out, B7.out⟩
          · rw [HS'.out]
            show World.ownsRow _ _ _ _ _ (leftL _ u).length _
            rw [HM6.out]
            exact I7.out
          · rw [HS'.out]
            show World.ownsRow _ _ _ _ _ (Bo ++ [j]).length _
            rw [List.length_append]
            exact O7.out
        case measure => simp [intOf]; omega
    · obtain rfl : k = xs.length := by omega
      rw [moV_all] at HIA HOA
      have hml := moV_len xs (k := xs.length) (by rw [HBE.out]; exact Nat.le_refl _)
      rw [moV_all] at hml
      obtain ⟨A, Bo, hAB⟩ : ∃ A B, mooreL xs = (A, B) := ⟨_, _, rfl⟩
      have HAB := hid hAB
      rw [hAB] at HIA HOA hml
      simp only at HIA HOA hml
      clear hAB
      have hA : A.length ≤ 10 := by omega
      have hBo : Bo.length ≤ 10 := by omega
      have KA := hid (KOwn.of_owns HIA.out (by rw [ofN, List.length_map]; omega)).reads
      have KB := hid (KOwn.of_owns HOA.out (by rw [ofN, List.length_map]; omega)).reads
      obtain ⟨ka, kc, e1, _, _⟩ := KA.out
      obtain ⟨oa, oc, e2, _, _⟩ := KB.out
      rw [ofN, List.length_map] at e1 e2
      subst e1
      subst e2
      have L8 : Hid (Below wr.heap.size wr (wr.alloc (.cells #[.slice ka A.length kc, .slice oa Bo.length oc] 42))) := (Below.refl _ _).alloc (Nat.le_refl _) _
      have X0 : Hid ((wr.alloc (.cells #[.slice ka A.length kc, .slice oa Bo.length oc] 42)).cell? ⟨wr.heap.size, 0, none⟩ = some (.slice ka A.length kc)) := cell_of_row _ _ _ _ _ (0, 0) (heap_alloc_new wr _)
      have X1 : Hid ((wr.alloc (.cells #[.slice ka A.length kc, .slice oa Bo.length oc] 42)).cell? ⟨wr.heap.size, 1, none⟩ = some (.slice oa Bo.length oc)) := cell_of_row _ _ _ _ _ (0, 0) (heap_alloc_new wr _)
      have B8 : Hid (Below w.heap.size w wr) := B2.out.trans (HB.out.mono (by have := B2.out.size; omega))
      have HF : Hid ((mooreL xs).1 = A ∧ (mooreL xs).2 = Bo) := by rw [HAB.out]; exact ⟨rfl, rfl⟩
      have hs8 := B8.out.size
      go_wp2_with fail
      refine (iconcat_any wr.heap.size 2 _ _ A Bo _ (KA.out.below L8.out) (KB.out.below L8.out) X0.out X1.out (by omega)).mono ?_
      rintro e w9 ⟨u, rfl, hown9, hb9⟩
      rw [World.size_alloc] at hown9 hb9
      have O9 : Hid (KOwn w.heap.size w9.heap.size w9 u (ofN (A ++ Bo))) := hown9.mono (by omega) (Nat.le_refl _)
      have B9 : Hid (Below w.heap.size w w9) := (B8.out.trans (L8.out.mono hs8)).trans (hb9.mono (by omega))
      clear hown9 hb9
      go_wp2
      go_ret2
      refine ⟨_, by rw [HF.out.1]; rfl, ?_, B9.out⟩
      rw [HF.out.1, HF.out.2]
      exact O9.out
end Go.Proofs.Ytpkngcamaahhdab
namespace Go.Proofs.Ytpkngcamaahhdab
open Go.RowKit

set_option maxHeartbeats 1000000 in
theorem imoorefn_no (v : Value) (xs : List TkEl) (w : World) (hr : TkReads w v xs) (hg : goodT xs = false) :
    Calls Try.prog 20 #[v] w fun e w' => ∃ u0, e = .returned (.tuple #[u0, .int .i64 0, .bool false]) ∧ KOwn w.heap.size w'.heap.size w' u0 [] ∧ Below w.heap.size w w' := by
  have HR := hid hr
  clear hr
  go_enter Try.func20, Try.ntmps20
  go_wp2_with fail
  refine (igoodTasks_eq _ xs false hg _ HR.out).mono ?_
  rintro e w1 ⟨rfl, b1⟩
  have B1 := hid b1
  clear b1
  go_wp2
  go_ret3
  exact ⟨_, rfl, kown_nil _ _ _ _ _, B1.out⟩
set_option maxHeartbeats 1000000 in
theorem imoorefn_yes (v : Value) (xs : List TkEl) (w : World) (hr : TkReads w v xs) (hg : goodT xs = true) :
    Calls Try.prog 20 #[v] w fun e w' => ∃ u0, e = .returned (.tuple #[u0, .int .i64 ((mooreL xs).1.length : Nat), .bool true]) ∧ KOwn w.heap.size w'.heap.size w' u0 (ofN ((mooreL xs).1 ++ (mooreL xs).2)) ∧ Below w.heap.size w w' := by
  have HR := hid hr
  have HG := hid hg
  clear hr hg
  obtain ⟨L, hL⟩ : ∃ L, L = ofN ((mooreL xs).1 ++ (mooreL xs).2) := ⟨_, rfl⟩
  obtain ⟨m, hm⟩ : ∃ m, m = (mooreL xs).1.length := ⟨_, rfl⟩
  rw [← hL, ← hm]
  have HL := hid hL
  have HM := hid hm
  clear hL hm
  go_enter Try.func20, Try.ntmps20
  go_wp2_with fail
  refine (igoodTasks_eq _ xs true HG.out _ HR.out).mono ?_
  rintro e w1 ⟨rfl, b1⟩
  have B1 := hid b1
  clear b1
  go_wp2_with fail
  refine (imoore_any _ xs _ (HR.out.below B1.out) HG.out).mono ?_
  rintro e w2 ⟨u, rfl, hown, b2⟩
  rw [← HM.out]
  rw [← HL.out] at hown
  have O2 := hid (hown.mono B1.out.size (Nat.le_refl _))
  have B2 : Hid (Below w.heap.size w w2) := B1.out.trans (b2.mono B1.out.size)
  clear hown b2
  go_wp2
  go_ret3
  exact ⟨_, rfl, O2.out, B2.out⟩
end Go.Proofs.Ytpkngcamaahhdab
