/-
  spec.SeeAll: a guess behind all that was seen. Nothing old is written.
-/
import Derived.Test.YteeaebelknpdjbbSNewG
import Derived.Test.YteeaebelknpdjbbSSeen
import Derived.Test.YteeaebelknpdjbbSSee
import Derived.Test.YteeaebelknpdjbbSeeFns
import Derived.Test.YteeaebelknpdjbbAllBox
import Derived.Test.YteeaebelknpdjbbKSeenRows
namespace Go.Proofs.Yteeaebelknpdjbb
open Go.RowKit

set_option maxHeartbeats 8000000 in
theorem sseeAll_any (f : Int) (v : Value) (xs : List SnEl) (r : Bool) (h : seeAllB f xs = r) (R : GuEl) (hR : R = bif r then seesG (newG f) xs else (0, 0, 0, 0)) (w : World) (hr : SeReads w v xs) :
    Calls Try.prog 21 #[.int .i64 f, v] w fun e w' => e = .returned (.tuple #[guV R, .bool r]) ∧ Below w.heap.size w w' := by
  have HR := hid hr
  obtain ⟨a, cap, rfl, hl, _⟩ := hr
  obtain ⟨b1, h1⟩ : ∃ b, newB f = b := ⟨_, rfl⟩
  have H1 := hid h1
  have HH := hid h
  have HV := hid hR
  clear h hR
  cases b1
  · obtain rfl : r = false := by rw [← HH.out]; unfold seeAllB; rw [h1]; rfl
    obtain rfl : R = (0, 0, 0, 0) := HV.out
    clear h1 HH HV
    go_enter Try.func21, Try.ntmps21
    go_wp2_with fail
    refine (snewG_no f H1.out _).mono ?_
    rintro e w1 ⟨rfl, hb⟩
    have S1 := hid (allBox w w1 hb (0, 0, 0, 0))
    clear hb
    obtain ⟨c0, c1, c2, c3⟩ := S1.out.rc
    obtain ⟨f0, f1, f2, f3⟩ := S1.out.rf
    go_wp2
    obtain ⟨e0, e1, e2, e3⟩ := gput4_same S1.out.rc (0, 0, 0, 0)
    exact bodyPost_ret (v := .tuple #[.agg #[.int .i64 0, .int .i64 0, .int .i64 0, .int .i64 0], .bool false]) (by simp [results, Try.results21, go_sem, e0, e1, e2, e3]) rfl ⟨rfl, gbelow_put4 S1.out.bel (by omega) (0, 0, 0, 0)⟩
  obtain ⟨n0, hn0⟩ : ∃ g : GuEl, newG f = g := ⟨_, rfl⟩
  have HG : Hid (GoodG n0) := by rw [← hn0]; exact newG_good h1
  have HN := hid hn0
  by_cases h60 : xs.length ≤ 60
  case neg =>
    obtain rfl : r = false := by rw [← HH.out]; unfold seeAllB; rw [decide_eq_false h60]; simp
    obtain rfl : R = (0, 0, 0, 0) := HV.out
    have d60 : decide ((60 : Int) < (xs.length : Int)) = true := by simp; omega
    clear h1 HH HV hn0
    go_enter Try.func21, Try.ntmps21
    go_wp2_with fail
    refine (snewG_yes f H1.out _).mono ?_
    rintro e w1 ⟨rfl, hb⟩
    rw [HN.out]
    have S1 := hid (allBox w w1 hb n0)
    clear hb
    obtain ⟨c0, c1, c2, c3⟩ := S1.out.rc
    obtain ⟨f0, f1, f2, f3⟩ := S1.out.rf
    go_wp2
    obtain ⟨e0, e1, e2, e3⟩ := gput4_same S1.out.rc (0, 0, 0, 0)
    exact bodyPost_ret (v := .tuple #[.agg #[.int .i64 0, .int .i64 0, .int .i64 0, .int .i64 0], .bool false]) (by simp [results, Try.results21, go_sem, e0, e1, e2, e3]) rfl ⟨rfl, gbelow_put4 S1.out.bel (by omega) (0, 0, 0, 0)⟩
  have d60 : decide ((60 : Int) < (xs.length : Int)) = false := by simp; omega
  have HB : Hid (r = allS xs) := by show _ = _; rw [← HH.out]; unfold seeAllB; rw [h1, decide_eq_true h60]; simp
  have H60 := hid h60
  clear h1 HH h60
  rw [hn0] at HV
  clear hn0
  go_enter Try.func21, Try.ntmps21
  go_wp2_with fail
  refine (snewG_yes f H1.out _).mono ?_
  rintro e w1 ⟨rfl, hb⟩
  rw [HN.out]
  have S1 := hid (allBox w w1 hb n0)
  clear hb
  obtain ⟨G, hG⟩ : ∃ G, w1.heap.size = G := ⟨_, rfl⟩
  rw [hG] at S1
  go_wp2
  go_loopw [25] (fun i wr => ∃ k : Nat, k ≤ xs.length ∧ i = .int .i64 k ∧ allS (xs.take k) = true ∧ AllBox w wr G (seesG n0 (xs.take k))) (fun i _ => xs.length - (intOf i).toNat)
  case atStart => exact ⟨0, Nat.zero_le _, rfl, rfl, S1.out⟩
  case round =>
    obtain ⟨k, hk, rfl, hall, hS⟩ := hrel
    have HA := hid hall
    have HS := hid hS
    have HGk := hid (seesG_good HG.out hall)
    clear hall hS
    obtain ⟨gk, hgk⟩ : ∃ g, seesG n0 (xs.take k) = g := ⟨_, rfl⟩
    rw [hgk] at HS HGk
    have HK := hid hgk
    clear hgk
    by_cases hlt : k < xs.length
    · obtain ⟨g0, o0, cap', e, hc⟩ := HR.out.cells k hlt
      cases e
      obtain ⟨x, hx0⟩ : ∃ x, x = xs.getD k (0, false, false) := ⟨_, rfl⟩
      have hck := (hc k hlt).below HS.out.bel (hc k hlt).lt
      rw [← hx0] at hck
      obtain ⟨q0, q1, q2⟩ := hck
      obtain ⟨b, hb⟩ : ∃ b, okS x = b := ⟨_, rfl⟩
      have HX := hid hx0
      have HO := hid hb
      clear hc hb hx0
      obtain ⟨t, tw, lo⟩ := x
      simp only at q0 q1 q2
      have hb0 : Below wr.heap.size wr (wr.alloc (snB (t, tw, lo))) := (Below.refl _ _).alloc (Nat.le_refl _) _
      have X2 := hid (snalloc wr (t, tw, lo))
      have S2 := hid (HS.out.later hb0)
      clear hb0
      go_wp2_with fail
      refine (sseen_eq (t, tw, lo) b HO.out _).mono ?_
      rintro e w2 ⟨rfl, hb⟩
      have X3 := hid (X2.out.below hb X2.out.lt)
      have S3 := hid (S2.out.later hb)
      clear hb X2 S2 q0 q1 q2
      cases b
      · obtain rfl : r = false := by rw [HB.out]; exact allS_false k hlt (by rw [← HX.out]; exact HO.out)
        obtain rfl : R = (0, 0, 0, 0) := HV.out
        obtain ⟨c0, c1, c2, c3⟩ := S3.out.rc
        obtain ⟨f0, f1, f2, f3⟩ := S3.out.rf
        go_wp2
        obtain ⟨e0, e1, e2, e3⟩ := gput4_same S3.out.rc (0, 0, 0, 0)
        exact bodyPost_ret (v := .tuple #[.agg #[.int .i64 0, .int .i64 0, .int .i64 0, .int .i64 0], .bool false]) (by simp [results, Try.results21, go_sem, e0, e1, e2, e3]) rfl ⟨rfl, gbelow_put4 S3.out.bel (by omega) (0, 0, 0, 0)⟩
      · obtain ⟨x0, x1, x2⟩ := X3.out
        obtain ⟨c0, c1, c2, c3⟩ := S3.out.gc
        have HT : Hid (seesG n0 (xs.take (k + 1)) = seeG gk (t, tw, lo)) := by show _ = _; rw [seesG_take n0 xs k hlt, HK.out, ← HX.out]
        have HA2 : Hid (allS (xs.take (k + 1)) = true) := by show _ = _; rw [allS_step xs k hlt, HA.out, ← HX.out, HO.out]; rfl
        go_wp2_with fail
        refine (ssee_any gk (t, tw, lo) HGk.out HO.out _).mono ?_
        rintro e w3 ⟨rfl, hb⟩
        obtain ⟨g2, hg2⟩ : ∃ g, seeG gk (t, tw, lo) = g := ⟨_, rfl⟩
        rw [hg2] at HT ⊢
        have S4 := hid (S3.out.later hb)
        clear hb hg2 X3 S3 x0 x1 x2 c0 c1 c2 c3
        obtain ⟨c0, c1, c2, c3⟩ := S4.out.gc
        obtain ⟨f0, f1, f2, f3⟩ := S4.out.gf
        obtain ⟨m2, s2, n2, p2⟩ := g2
        have S5 := hid (S4.out.put (m2, s2, n2, p2))
        go_wp2
        go_roundw
        case rel => exact ⟨k + 1, by omega, by go_num, HA2.out, by rw [HT.out]; exact S5.out⟩
        case measure => simp [intOf]; omega
    · obtain rfl : k = xs.length := by omega
      obtain rfl : r = true := by rw [HB.out]; have := HA.out; rw [List.take_length] at this; exact this
      have hRR : gk = R := by rw [← HK.out, List.take_length]; exact HV.out.symm
      subst hRR
      obtain ⟨m2, s2, n2, p2⟩ := gk
      obtain ⟨c0, c1, c2, c3⟩ := HS.out.gc
      obtain ⟨k0, k1, k2, k3⟩ := HS.out.rc
      obtain ⟨f0, f1, f2, f3⟩ := HS.out.rf
      go_wp2
      obtain ⟨e0, e1, e2, e3⟩ := gput4_same HS.out.rc (m2, s2, n2, p2)
      exact bodyPost_ret (v := .tuple #[.agg #[.int .i64 m2, .int .i64 s2, .int .i64 n2, .int .i64 p2], .bool true]) (by simp [results, Try.results21, go_sem, e0, e1, e2, e3]) rfl ⟨rfl, gbelow_put4 HS.out.bel (by omega) (m2, s2, n2, p2)⟩
end Go.Proofs.Yteeaebelknpdjbb
