/-
  The law FnCredit answers true at every two lists of bytes, where turns are drawn.
-/
import Derived.Test.YteeaebelknpdjacDraw
import Derived.Test.YteeaebelknpdjacSRunNo
import Derived.Deep.QuietTactic
import Derived.BigQuiet
import Derived.Test.YteeaebelknpdjacSameTurns
import Derived.Test.YteeaebelknpdjacCur
namespace Go.Proofs.Yteeaebelknpdjac
open Go.RowKit

theorem srun_tells : RunTells 50 :=
  run_case (fun v D q w r h => (srun_no v D q w r h).mono fun _ _ ⟨u, he, ho, hb⟩ => ⟨u, he, ho.reads, hb⟩) (fun v D m w r h1 h2 b h3 R0 h4 h5 => (srun_any v D m w r h1 h2 b h3 R0 h4 h5).mono fun _ _ ⟨u, he, ho, hb⟩ => ⟨u, he, ho.reads, hb⟩)
theorem irun_tells : RunTells 49 :=
  run_case (fun v D q w r h => (irun_no v D q w r h).mono fun _ _ ⟨u, he, ho, hb⟩ => ⟨u, he, ho.reads, hb⟩) (fun v D m w r h1 h2 b h3 R0 h4 h5 => (irun_any v D m w r h1 h2 b h3 R0 h4 h5).mono fun _ _ ⟨u, he, ho, hb⟩ => ⟨u, he, ho.reads, hb⟩)
/-- All that the law asks of one queue. -/
theorem credit_at {D : TuD} {n : Int} (h : runB D n = true) {k : Nat} (hk : k < D.f1.length) {r : Int} (hr : n = r * (D.f1.length : Int)) (hne : ((runR D n).f1.getD k []).length ≠ 0) :
    ((runR D n).f3.length = D.f1.length ∧ (runR D n).f2.length = D.f1.length ∧ D.f0.length = D.f1.length ∧ D.f2.length = D.f1.length ∧ D.f3.length = D.f1.length) ∧ (0 ≤ r ∧ r ≤ 60) ∧ (20 ≤ fl D.f0 k ∧ fl D.f0 k ≤ 100) ∧ (0 ≤ fl D.f2 k ∧ fl D.f2 k ≤ 19) ∧ (0 ≤ fl D.f3 k ∧ fl D.f3 k ≤ 1000000) ∧ (0 ≤ fl (runR D n).f2 k ∧ fl (runR D n).f2 k ≤ 19) ∧ (0 ≤ fl (runR D n).f3 k ∧ fl (runR D n).f3 k ≤ 1000000) ∧
    fl (runR D n).f3 k - fl D.f3 k = r * fl D.f0 k + fl D.f2 k - fl (runR D n).f2 k ∧ r * fl D.f0 k - 20 < fl (runR D n).f3 k - fl D.f3 k ∧ fl (runR D n).f3 k - fl D.f3 k < r * fl D.f0 k + 20 := by
  have hR : runR D n = runD D n.toNat := by unfold runR; rw [h]; rfl
  unfold runB at h
  rw [Bool.and_eq_true, Bool.and_eq_true, decide_eq_true_eq] at h
  obtain ⟨⟨hg, hn⟩, hb⟩ := h
  have hG := goodT_of hg
  have hpos := hG.n
  have l1 := hG.l1
  have hr0 : 0 ≤ r := by
    by_cases h0 : 0 ≤ r
    · exact h0
    · have : r * (D.f1.length : Int) ≤ (-1) * (D.f1.length : Int) := Int.mul_le_mul_of_nonneg_right (by omega) (by omega)
      omega
  have hr1 : r ≤ 60 := by
    have : r * 1 ≤ r * (D.f1.length : Int) := Int.mul_le_mul_of_nonneg_left (by omega) hr0
    omega
  obtain ⟨m, rfl⟩ := Int.eq_ofNat_of_zero_le hr0
  have e : n.toNat = m * D.f1.length := by rw [hr, ← Int.natCast_mul, Int.toNat_natCast]
  rw [hR, e] at hne ⊢
  rw [e] at hb
  have hok := runOk_of hG _ hb
  have hG2 := hok _ (Nat.le_refl _)
  have hs := run_share hG hk hok hne
  have q0 : (runD D (m * D.f1.length)).f0 = D.f0 := run_q D _
  have m1 := hG2.l1
  have m2 := hG2.l2
  have m3 := hG2.l3
  rw [q0] at m1 m2 m3
  exact ⟨⟨by omega, by omega, by omega, by have := hG.l2; omega, by have := hG.l3; omega⟩, ⟨hr0, hr1⟩, hG.q k (by omega), hG.c k, hG.s k, hG2.c k, hG2.s k, hs⟩
theorem run_lens {D : TuD} {n : Int} (h : runB D n = true) : (0 < D.f1.length ∧ 0 ≤ n ∧ n ≤ 60) ∧ (runR D n).f1.length = D.f1.length ∧ (runR D n).f2.length = D.f1.length ∧ (runR D n).f3.length = D.f1.length ∧ D.f0.length = D.f1.length ∧ D.f2.length = D.f1.length ∧ D.f3.length = D.f1.length := by
  have hR : runR D n = runD D n.toNat := by unfold runR; rw [h]; rfl
  unfold runB at h
  rw [Bool.and_eq_true, Bool.and_eq_true, decide_eq_true_eq] at h
  obtain ⟨⟨hg, hn⟩, hb⟩ := h
  have hG := goodT_of hg
  have hG2 := runOk_of hG _ hb _ (Nat.le_refl _)
  have q0 : (runD D n.toNat).f0 = D.f0 := run_q D _
  have m1 := hG2.l1
  have m2 := hG2.l2
  have m3 := hG2.l3
  rw [q0] at m1 m2 m3
  have h1 := hG.n
  have h2 := hG.l1
  have h3 := hG.l2
  have h4 := hG.l3
  rw [hR]
  omega
theorem kcell_at {w : World} {a : Option Addr} {len cap : Nat} {xs : List Int} (h : KReads w (.slice a len cap) xs) {k : Nat} (hk : k < xs.length) : ∃ g o, a = some ⟨g, o, none⟩ ∧ w.cell? ⟨g, o + k, none⟩ = some (.int .i64 (fl xs k)) := by
  obtain ⟨g, o, cap', e, hc⟩ := h.cells k hk
  cases e
  exact ⟨g, o, rfl, hc k hk⟩
theorem tu_form {w : World} {v : Value} {D : TuD} (h : TuReads w v D) : ∃ a0 k0 a1 k1 a2 k2 a3 k3, v = .agg #[.slice a0 D.f0.length k0, .slice a1 D.f1.length k1, .slice a2 D.f2.length k2, .slice a3 D.f3.length k3, .int .i64 D.f4] ∧ KReads w (.slice a0 D.f0.length k0) D.f0 ∧ QReads w (.slice a1 D.f1.length k1) D.f1 ∧ KReads w (.slice a2 D.f2.length k2) D.f2 ∧ KReads w (.slice a3 D.f3.length k3) D.f3 := by
  obtain ⟨v0, v1, v2, v3, rfl, h0, h1, h2, h3⟩ := h
  obtain ⟨a0, k0, e0, _⟩ := id h0
  obtain ⟨a1, k1, e1, _⟩ := id h1
  obtain ⟨a2, k2, e2, _⟩ := id h2
  obtain ⟨a3, k3, e3, _⟩ := id h3
  subst e0 e1 e2 e3
  exact ⟨a0, k0, a1, k1, a2, k2, a3, k3, rfl, h0, h1, h2, h3⟩
/-- What spec.DrawRunTurns tells. -/
def DrawRunTells (f : Nat) : Prop := ∀ (v : Value) (w : World), CodeOk w.heap.size w v → Calls Try.prog f #[v] w fun e w' => ∃ (u : Value) (n : Int), e = .returned (.tuple #[u, .int .i64 n]) ∧ ∃ D : TuD, TuReads w' u D ∧ Below w.heap.size w w'
set_option maxRecDepth 100000 in
set_option maxHeartbeats 40000000 in
theorem FnCredit_law (HDR : DrawRunTells 48) (a0 : Option Addr) (len0 cap0 : Nat) (z0 : List Int) (a1 : Option Addr) (len1 cap1 : Nat) (z1 : List Int) (w : World) (h0 : IsRow .u8 w a0 len0 cap0 z0) (h1 : IsRow .u8 w a1 len1 cap1 z1) (b0 : cap0 * 1 ≤ 140737488351232) (b1 : cap1 * 1 ≤ 140737488351232) :
    Calls Try.prog 6 #[.slice a0 len0 cap0, .slice a1 len1 cap1] w fun e w' => e = .returned (.bool true) ∧ Below w.heap.size w w' := by
  replace HDR := hid HDR
  have l0 : len0 ≤ cap0 := by rcases h0 with ⟨_, rfl, rfl, _⟩ | ⟨x, _, h, _⟩ <;> omega
  have l1 : len1 ≤ cap1 := by rcases h1 with ⟨_, rfl, rfl, _⟩ | ⟨x, _, h, _⟩ <;> omega
  by_cases hbig : (1048576 : Int) < (len0 : Int) + (len1 : Int)
  · clear h0 h1
    go_enter Try.func6, Try.ntmps6
    go_wp2
    go_ret
    exact ⟨rfl, Below.refl _ _⟩
  have HC0 := hid (code_of_row h0 (by omega))
  have hlen : decide ((0 : Int) ≤ (len1 : Int)) = true := by simp
  clear h0 h1
  go_enter Try.func6, Try.ntmps6
  go_wp2_with fail
  refine (HDR.out _ _ HC0.out).mono ?_
  rintro e w1 ⟨u, n, rfl, D, hr, bd⟩
  obtain ⟨c0, k0, c1, k1, c2, k2, c3, k3, rfl, r0, r1, r2, r3⟩ := tu_form hr
  obtain ⟨tv, htv⟩ : ∃ o : Obj, o = .cells #[.slice c0 D.f0.length k0, .slice c1 D.f1.length k1, .slice c2 D.f2.length k2, .slice c3 D.f3.length k3, .int .i64 D.f4] 55 := ⟨_, rfl⟩
  have bt : Below w1.heap.size w1 (w1.alloc tv) := (Below.refl _ _).alloc (Nat.le_refl _) _
  have BT : Hid (BoxL (w1.alloc tv) w1.heap.size [.slice c0 D.f0.length k0, .slice c1 D.f1.length k1, .slice c2 D.f2.length k2, .slice c3 D.f3.length k3, .int .i64 D.f4]) := by rw [htv]; exact boxL_new w1 [.slice c0 D.f0.length k0, .slice c1 D.f1.length k1, .slice c2 D.f2.length k2, .slice c3 D.f3.length k3, .int .i64 D.f4] 55
  have HR := hid (hr.below bt)
  have B := hid (bd.trans (bt.mono bd.size))
  obtain ⟨rb, hrb⟩ : ∃ rb, runB D n = rb := ⟨_, rfl⟩
  obtain ⟨R, hR⟩ : ∃ R, runR D n = R := ⟨_, rfl⟩
  have HRB := hid hrb; have HRR := hid hR
  clear hr r0 r1 r2 r3 bd bt HC0 hrb hR
  rw [htv] at BT HR B
  clear htv tv
  obtain ⟨p0, p1, p2, p3, p4⟩ := BT.out.five
  go_wp2_with fail
  refine (irun_tells _ D n _ HR.out).mono ?_
  rintro e w2 ⟨x, rfl, hx, b2⟩
  rw [HRB.out]
  rw [HRR.out] at hx
  obtain ⟨d0, m0, d1, m1, d2, m2, d3, m3, rfl, _, _, _, _⟩ := tu_form hx
  have bx : Below w2.heap.size w2 (w2.alloc (.cells #[.slice d0 R.f0.length m0, .slice d1 R.f1.length m1, .slice d2 R.f2.length m2, .slice d3 R.f3.length m3, .int .i64 R.f4] 55)) := (Below.refl _ _).alloc (Nat.le_refl _) _
  have BX := hid (boxL_new w2 [.slice d0 R.f0.length m0, .slice d1 R.f1.length m1, .slice d2 R.f2.length m2, .slice d3 R.f3.length m3, .int .i64 R.f4] 55)
  replace BT := hid ((BT.out.below b2 BT.out.lt).below bx (Nat.lt_of_lt_of_le BT.out.lt b2.size))
  replace HR := hid ((HR.out.below b2).below bx)
  have HX := hid (hx.below bx)
  replace B := hid ((B.out.trans (b2.mono B.out.size)).trans (bx.mono (Nat.le_trans B.out.size b2.size)))
  clear b2 bx hx p0 p1 p2 p3 p4
  obtain ⟨p0, p1, p2, p3, p4⟩ := BT.out.five
  go_wp2_with fail
  refine (srun_tells _ D n _ HR.out).mono ?_
  rintro e w3 ⟨y, rfl, hy, b3⟩
  rw [HRB.out]
  rw [HRR.out] at hy
  obtain ⟨f0, q0, f1, q1, f2, q2, f3, q3, rfl, _, _, _, _⟩ := tu_form hy
  have bx : Below w3.heap.size w3 (w3.alloc (.cells #[.slice f0 R.f0.length q0, .slice f1 R.f1.length q1, .slice f2 R.f2.length q2, .slice f3 R.f3.length q3, .int .i64 R.f4] 55)) := (Below.refl _ _).alloc (Nat.le_refl _) _
  have BY := hid (boxL_new w3 [.slice f0 R.f0.length q0, .slice f1 R.f1.length q1, .slice f2 R.f2.length q2, .slice f3 R.f3.length q3, .int .i64 R.f4] 55)
  replace BT := hid ((BT.out.below b3 BT.out.lt).below bx (Nat.lt_of_lt_of_le BT.out.lt b3.size))
  replace BX := hid ((BX.out.below b3 BX.out.lt).below bx (Nat.lt_of_lt_of_le BX.out.lt b3.size))
  replace HR := hid ((HR.out.below b3).below bx)
  replace HX := hid ((HX.out.below b3).below bx)
  have HY := hid (hy.below bx)
  replace B := hid ((B.out.trans (b3.mono B.out.size)).trans (bx.mono (Nat.le_trans B.out.size b3.size)))
  clear b3 bx hy p0 p1 p2 p3 p4
  obtain ⟨p0, p1, p2, p3, p4⟩ := BX.out.five
  obtain ⟨s0, s1, s2, s3, s4⟩ := BY.out.five
  have hrr : (rb != rb) = false := by cases rb <;> rfl
  go_wp2_with fail
  refine (sameTurns_same _ _ R _ HX.out HY.out).mono ?_
  rintro e w4 ⟨rfl, b4⟩
  replace BT := hid (BT.out.below b4 BT.out.lt); replace BX := hid (BX.out.below b4 BX.out.lt)
  replace HR := hid (HR.out.below b4); replace HX := hid (HX.out.below b4)
  replace B := hid (B.out.trans (b4.mono B.out.size))
  clear b4 BY HY p0 p1 p2 p3 p4 s0 s1 s2 s3 s4 hrr
  obtain ⟨p0, p1, p2, p3, p4⟩ := BT.out.five
  cases rb
  · go_wp2
    go_ret
    exact ⟨by simp, B.out⟩
  obtain ⟨⟨hpos, hn0, hn60⟩, g1, g2, g3, g4, g5, g6⟩ := run_lens HRB.out
  rw [HRR.out] at g1 g2 g3
  have HL := hid (And.intro g1 (And.intro g2 (And.intro g3 (And.intro g4 (And.intro g5 g6)))))
  clear g1 g2 g3 g4 g5 g6
  have dpos : decide ((0 : Int) < (D.f1.length : Int)) = true := by simp; omega
  have dne : ((D.f1.length : Int) == 0) = false := by rw [beq_eq_false_iff_ne]; omega
  have dne2 : ¬ (D.f1.length : Int) = 0 := by omega
  obtain ⟨m, hm⟩ : ∃ m : Int, n.tmod (D.f1.length : Int) = m := ⟨_, rfl⟩
  obtain ⟨r, hr⟩ : ∃ r : Int, n.tdiv (D.f1.length : Int) = r := ⟨_, rfl⟩
  have hme : n % (D.f1.length : Int) = m := by rw [← hm, Int.tmod_eq_emod_of_nonneg hn0]
  have hre : n / (D.f1.length : Int) = r := by rw [← hr, Int.tdiv_eq_ediv_of_nonneg hn0]
  have hm0 : 0 ≤ m := by rw [← hme]; exact Int.emod_nonneg _ (by omega)
  have hml : m < (D.f1.length : Int) := by rw [← hme]; exact Int.emod_lt_of_pos _ (by omega)
  have hr0 : 0 ≤ r := by rw [← hre]; exact Int.ediv_nonneg hn0 (by omega)
  have hrn : r ≤ 60 := by rw [← hre]; exact Int.le_trans (Int.ediv_le_self _ hn0) hn60
  have hdm : n = r * (D.f1.length : Int) + m := by rw [← hme, ← hre, Int.mul_comm]; exact (Int.mul_ediv_add_emod n _).symm
  have hq1 : D.f1.length ≤ 1152921504606846975 := by
    obtain ⟨_, v1, _, _, ev, _, q1', _, _⟩ := HR.out
    obtain ⟨_, _, _, hb, _⟩ := q1'
    exact hb.1
  have wm : IntKind.i64.wrap m = m := by rw [IntKind.wrap_i64]; omega
  have wr0 : IntKind.i64.wrap r = r := by rw [IntKind.wrap_i64]; omega
  clear hme hre hml
  by_cases hmz : m = 0
  case neg =>
    have dm : (m == 0) = false := by rw [beq_eq_false_iff_ne]; exact hmz
    clear hdm hmz
    go_wp2
    go_ret
    exact ⟨by simp, B.out⟩
  have dm : (m == 0) = true := by simpa using hmz
  have HN : Hid (n = r * (D.f1.length : Int)) := by show _ = _; rw [hdm, hmz]; simp
  clear hdm hmz
  go_wp2
  go_loopw [67] (fun i wr => ∃ k : Nat, k ≤ D.f1.length ∧ i = .int .i64 k ∧ Below w4.heap.size w4 wr) (fun i _ => D.f1.length - (intOf i).toNat)
  case atStart => exact ⟨0, Nat.zero_le _, rfl, Below.refl _ _⟩
  case round =>
    obtain ⟨k, hk, rfl, hbl⟩ := hrel
    have HBL := hid hbl
    clear hbl p0 p1 p2 p3 p4
    by_cases hlt : k < D.f1.length
    · obtain ⟨p0, p1, p2, p3, p4⟩ := (BT.out.below HBL.out BT.out.lt).five
      obtain ⟨s0, s1, s2, s3, s4⟩ := (BX.out.below HBL.out BX.out.lt).five
      obtain ⟨g1, g2, g3, g4, g5, g6⟩ := HL.out
      have i0 : (0 : Int) ≤ (k : Int) := by omega
      have i1 : (k : Int) < (R.f1.length : Int) := by omega
      have i2 : (k : Int) < (R.f2.length : Int) := by omega
      have i3 : (k : Int) < (R.f3.length : Int) := by omega
      have i4 : (k : Int) < (D.f0.length : Int) := by omega
      have i5 : (k : Int) < (D.f2.length : Int) := by omega
      have i6 : (k : Int) < (D.f3.length : Int) := by omega
      have j1 : k < R.f1.length := by omega
      have j2 : k < R.f2.length := by omega
      have j3 : k < R.f3.length := by omega
      have j4 : k < D.f0.length := by omega
      have j5 : k < D.f2.length := by omega
      have j6 : k < D.f3.length := by omega
      clear g1 g2 g3 g4 g5 g6
      obtain ⟨v0, v1, v2, v3, ev, y0, y1, y2, y3⟩ := HR.out.below HBL.out
      simp only [Value.agg.injEq, Array.mk.injEq, List.cons.injEq, and_true] at ev
      obtain ⟨rfl, rfl, rfl, rfl⟩ := ev
      obtain ⟨v0, v1, v2, v3, ev, x0, x1, x2, x3⟩ := HX.out.below HBL.out
      simp only [Value.agg.injEq, Array.mk.injEq, List.cons.injEq, and_true] at ev
      obtain ⟨rfl, rfl, rfl, rfl⟩ := ev
      obtain ⟨g0, o0, rfl, e0⟩ := kcell_at y0 j4
      obtain ⟨g2, o2, rfl, e2⟩ := kcell_at y2 j5
      obtain ⟨g3, o3, rfl, e3⟩ := kcell_at y3 j6
      obtain ⟨t2, u2, rfl, e4⟩ := kcell_at x2 j2
      obtain ⟨t3, u3, rfl, e5⟩ := kcell_at x3 j3
      obtain ⟨t1, u1, m1', ex, hx1⟩ := x1.cells k j1
      cases ex
      obtain ⟨qv, e6, hqv⟩ := hx1 k j1
      obtain ⟨aq, kq, rfl, _, _⟩ := hqv
      clear x0 x2 x3 y0 y1 y2 y3 hx1 x1 j1 j2 j3 j4 j5 j6
      by_cases hz : (R.f1.getD k []).length = 0
      · have dz : (((R.f1.getD k []).length : Int) == 0) = true := by rw [hz]; rfl
        have HZ := hid hz
        obtain ⟨lz, hlz⟩ : ∃ l : Nat, l = (R.f1.getD k []).length := ⟨_, rfl⟩
        rw [← hlz] at e6 dz
        clear hlz hz
        go_wp2
        go_roundw
        case rel => exact ⟨k + 1, by omega, by go_num, HBL.out⟩
        case measure => simp [intOf]; omega
      · have dz : (((R.f1.getD k []).length : Int) == 0) = false := by rw [beq_eq_false_iff_ne]; omega
        have hcr := credit_at HRB.out hlt HN.out (by rw [HRR.out]; exact hz)
        rw [HRR.out] at hcr
        obtain ⟨_, _, hq, hc, hs, hc', hs', h1, h2, h3⟩ := hcr
        obtain ⟨lz, hlz⟩ : ∃ l : Nat, l = (R.f1.getD k []).length := ⟨_, rfl⟩
        rw [← hlz] at e6 dz
        clear hlz hz
        generalize fl D.f0 k = q at *
        generalize fl D.f2 k = cr at *
        generalize fl D.f3 k = st at *
        generalize fl R.f2 k = cx at *
        generalize fl R.f3 k = sx at *
        obtain ⟨rq, hrq⟩ : ∃ x, r * q = x := ⟨_, rfl⟩
        rw [hrq] at h1 h2 h3
        have hrq0 : 0 ≤ rq := by rw [← hrq]; exact Int.mul_nonneg hr0 (by omega)
        have hrq1 : rq ≤ 60 * 100 := by rw [← hrq]; exact Int.mul_le_mul hrn hq.2 (by omega) (by omega)
        obtain ⟨sn, hsn⟩ : ∃ x, sx - st = x := ⟨_, rfl⟩
        rw [hsn] at h1 h2 h3
        have w1' : IntKind.i64.wrap (sx - st) = sn := by rw [IntKind.wrap_i64]; omega
        have w2' : IntKind.i64.wrap (r * q) = rq := by rw [hrq, IntKind.wrap_i64]; omega
        obtain ⟨ta, hta⟩ : ∃ x, rq + cr = x := ⟨_, rfl⟩
        have w3' : IntKind.i64.wrap (rq + cr) = ta := by rw [IntKind.wrap_i64]; omega
        have w4' : IntKind.i64.wrap (ta - cx) = sn := by rw [IntKind.wrap_i64]; omega
        obtain ⟨tb, htb⟩ : ∃ x, rq - 20 = x := ⟨_, rfl⟩
        have w5' : IntKind.i64.wrap (rq - 20) = tb := by rw [IntKind.wrap_i64]; omega
        obtain ⟨tc, htc⟩ : ∃ x, rq + 20 = x := ⟨_, rfl⟩
        have w6' : IntKind.i64.wrap (rq + 20) = tc := by rw [IntKind.wrap_i64]; omega
        have n1 : (sn != sn) = false := by simp
        have n2 : decide (sn ≤ tb) = false := by simp; omega
        have n3 : decide (tc ≤ sn) = false := by simp; omega
        clear h1 h2 h3 hrq hrq0 hrq1 hsn hta htb htc hq hc hs hc' hs'
        go_wp2_with fail
        go_quiet (fail)
        obtain ⟨W5, hW5⟩ : ∃ W, W = wr.drewN nq := ⟨_, rfl⟩
        rw [← hW5]
        replace p0 : W5.cell? ⟨w1.heap.size, 0, none⟩ = some (.slice (some ⟨g0, o0, none⟩) D.f0.length k0) := by rw [hW5]; exact p0
        replace p2 : W5.cell? ⟨w1.heap.size, 2, none⟩ = some (.slice (some ⟨g2, o2, none⟩) D.f2.length k2) := by rw [hW5]; exact p2
        replace s2 : W5.cell? ⟨w2.heap.size, 2, none⟩ = some (.slice (some ⟨t2, u2, none⟩) R.f2.length m2) := by rw [hW5]; exact s2
        replace e0 : W5.cell? ⟨g0, o0 + k, none⟩ = some (.int .i64 q) := by rw [hW5]; exact e0
        replace e2 : W5.cell? ⟨g2, o2 + k, none⟩ = some (.int .i64 cr) := by rw [hW5]; exact e2
        replace e4 : W5.cell? ⟨t2, u2 + k, none⟩ = some (.int .i64 cx) := by rw [hW5]; exact e4
        have HB5 : Hid (Below w4.heap.size w4 W5) := by rw [hW5]; exact ⟨HBL.out.os, HBL.out.tape, HBL.out.output, HBL.out.size, HBL.out.block⟩
        clear hW5 HBL p1 p3 p4 s0 s1 s3 s4 e3 e5 e6
        go_wp2_with fail
        go_quiet (fail)
        go_wp2
        go_roundw
        case rel => exact ⟨k + 1, by omega, by go_num, ⟨HB5.out.os, HB5.out.tape, HB5.out.output, HB5.out.size, HB5.out.block⟩⟩
        case measure => simp [intOf]; omega
    · have HB := hid (B.out.trans (HBL.out.mono B.out.size))
      go_wp2
      go_ret
      exact ⟨by simp, HB.out⟩
end Go.Proofs.Yteeaebelknpdjac
