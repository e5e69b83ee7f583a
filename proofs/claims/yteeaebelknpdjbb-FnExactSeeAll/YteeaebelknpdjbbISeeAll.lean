/-
  impl.SeeAll: a guess behind all that was seen, read by goto. Nothing old is written.
-/
import Derived.Test.YteeaebelknpdjbbINewG
import Derived.Test.YteeaebelknpdjbbISeenAll
import Derived.Test.YteeaebelknpdjbbISee
import Derived.Test.YteeaebelknpdjbbAllBox
import Derived.ScopeJumps
import Derived.WalkMore
namespace Go.Proofs.Yteeaebelknpdjbb
open Go.RowKit

set_option maxHeartbeats 8000000 in
theorem iseeAll_any (f : Int) (v : Value) (xs : List SnEl) (r : Bool) (h : seeAllB f xs = r) (R : GuEl) (hR : R = bif r then seesG (newG f) xs else (0, 0, 0, 0)) (w : World) (hr : SeReads w v xs) :
    Calls Try.prog 23 #[.int .i64 f, v] w fun e w' => e = .returned (.tuple #[guV R, .bool r]) ∧ Below w.heap.size w w' := by
  have HR := hid hr
  obtain ⟨a, cap, rfl, hl, _⟩ := hr
  obtain ⟨b1, h1⟩ : ∃ b, newB f = b := ⟨_, rfl⟩
  have H1 := hid h1
  have HH := hid h
  have HV := hid hR
  clear h hR
  cases b1
  · obtain rfl : r = false := by rw [← HH.out]; unfold seeAllB; rw [h1]; rfl
    obtain rfl : R = (0, 0, 0, 0) := HV.out
    clear h1 HH HV
    go_enter Try.func23, Try.ntmps23
    go_wp2
    go_step3
    go_wp2_with fail
    refine (inewG_no f H1.out _).mono ?_
    rintro e w1 ⟨rfl, hb⟩
    have S1 := hid (allBox w w1 hb (0, 0, 0, 0))
    clear hb
    obtain ⟨c0, c1, c2, c3⟩ := S1.out.rc
    obtain ⟨f0, f1, f2, f3⟩ := S1.out.rf
    go_wp2
    try rw [Exit.noGoto_ret]
    obtain ⟨e0, e1, e2, e3⟩ := gput4_same S1.out.rc (0, 0, 0, 0)
    exact bodyPost_ret (v := .tuple #[.agg #[.int .i64 0, .int .i64 0, .int .i64 0, .int .i64 0], .bool false]) (by simp [results, Try.results23, go_sem, e0, e1, e2, e3]) rfl ⟨rfl, gbelow_put4 S1.out.bel (by omega) (0, 0, 0, 0)⟩
  obtain ⟨n0, hn0⟩ : ∃ g : GuEl, newG f = g := ⟨_, rfl⟩
  have HG : Hid (GoodG n0) := by rw [← hn0]; exact newG_good h1
  have HN := hid hn0
  by_cases h60 : xs.length ≤ 60
  case neg =>
    obtain rfl : r = false := by rw [← HH.out]; unfold seeAllB; rw [decide_eq_false h60]; simp
    obtain rfl : R = (0, 0, 0, 0) := HV.out
    have d60 : decide ((60 : Int) < (xs.length : Int)) = true := by simp; omega
    clear h1 HH HV hn0
    go_enter Try.func23, Try.ntmps23
    go_wp2
    go_step3
    go_wp2_with fail
    refine (inewG_yes f H1.out _).mono ?_
    rintro e w1 ⟨rfl, hb⟩
    rw [HN.out]
    have S1 := hid (allBox w w1 hb n0)
    clear hb
    obtain ⟨c0, c1, c2, c3⟩ := S1.out.rc
    obtain ⟨f0, f1, f2, f3⟩ := S1.out.rf
    go_wp2
    try rw [Exit.noGoto_ret]
    obtain ⟨e0, e1, e2, e3⟩ := gput4_same S1.out.rc (0, 0, 0, 0)
    exact bodyPost_ret (v := .tuple #[.agg #[.int .i64 0, .int .i64 0, .int .i64 0, .int .i64 0], .bool false]) (by simp [results, Try.results23, go_sem, e0, e1, e2, e3]) rfl ⟨rfl, gbelow_put4 S1.out.bel (by omega) (0, 0, 0, 0)⟩
  have d60 : decide ((60 : Int) < (xs.length : Int)) = false := by simp; omega
  have HB : Hid (r = allS xs) := by show _ = _; rw [← HH.out]; unfold seeAllB; rw [h1, decide_eq_true h60]; simp
  clear h1 HH
  rw [hn0] at HV
  clear hn0
  cases r
  · obtain rfl : R = (0, 0, 0, 0) := HV.out
    go_enter Try.func23, Try.ntmps23
    go_wp2
    go_step3
    go_wp2_with fail
    refine (inewG_yes f H1.out _).mono ?_
    rintro e w1 ⟨rfl, hb⟩
    rw [HN.out]
    have S1 := hid (allBox w w1 hb n0)
    clear hb
    go_wp2_with fail
    refine (wscontains_any _ xs true (by rw [← HB.out]; rfl) _ (HR.out.below S1.out.bel)).mono ?_
    rintro e w2 ⟨rfl, hb⟩
    have S2 := hid (S1.out.later hb)
    clear hb
    obtain ⟨c0, c1, c2, c3⟩ := S2.out.rc
    obtain ⟨f0, f1, f2, f3⟩ := S2.out.rf
    go_wp2
    try rw [Exit.noGoto_ret]
    obtain ⟨e0, e1, e2, e3⟩ := gput4_same S2.out.rc (0, 0, 0, 0)
    exact bodyPost_ret (v := .tuple #[.agg #[.int .i64 0, .int .i64 0, .int .i64 0, .int .i64 0], .bool false]) (by simp [results, Try.results23, go_sem, e0, e1, e2, e3]) rfl ⟨rfl, gbelow_put4 S2.out.bel (by omega) (0, 0, 0, 0)⟩
  have hRR : seesG n0 xs = R := HV.out.symm
  have HRR := hid hRR
  have HAL : Hid (allS xs = true) := HB.out.symm
  clear hRR HV HB
  go_enter Try.func23, Try.ntmps23
  go_wp2
  refine wp_scope_jumps 0 (fun x wr => ∃ (G k : Nat) (u26 u27 u28 u29 u30 u31 u32 u33 u34 u35 u36 : Value), x = { tmps := #[.int .i64 f, .slice a xs.length cap, undef, undef, .pointer (some ⟨w.heap.size, 0, none⟩), .bool false, .pointer (some ⟨G, 0, none⟩), .bool true, .int .i64 (k : Nat), .tuple #[guV n0, .bool true], .int .i64 f, .tuple #[guV n0, .bool true], guV n0, .bool true, .bool true, .bool false, .bool false, .slice a xs.length cap, .int .i64 (xs.length : Nat), .bool false, .bool false, .bool false, .slice a xs.length cap, .bool false, .bool false, undef, u26, u27, u28, u29, u30, u31, u32, u33, u34, u35, u36, undef], defers := [] } ∧ k ≤ xs.length ∧ AllBox w wr G (seesG n0 (xs.take k))) (fun x _ => xs.length - (intOf (x.tmps.getD 8 undef)).toNat) rfl ?_ ?_
  · go_wp2_with fail
    refine (inewG_yes f H1.out _).mono ?_
    rintro e w1 ⟨rfl, hb⟩
    rw [HN.out]
    have S1 := hid (allBox w w1 hb n0)
    clear hb
    go_wp2_with fail
    refine (wscontains_any _ xs false (by rw [HAL.out]; rfl) _ (HR.out.below S1.out.bel)).mono ?_
    rintro e w2 ⟨rfl, hb⟩
    have HS := hid (S1.out.later hb)
    clear hb S1
    obtain ⟨G, hG⟩ : ∃ G, w1.heap.size = G := ⟨_, rfl⟩
    rw [hG] at HS
    obtain ⟨k, hk0⟩ : ∃ k : Nat, k = 0 := ⟨_, rfl⟩
    replace HS : Hid (AllBox w w2 G (seesG n0 (xs.take k))) := by rw [hk0]; exact HS.out
    go_wp2
    go_step3
    obtain ⟨z, hz⟩ : ∃ z : Value, z = .int .i64 0 := ⟨_, rfl⟩
    rw [← hz]
    obtain rfl : z = .int .i64 (k : Nat) := by rw [hz, hk0]; rfl
    have hk : k ≤ xs.length := by omega
    clear hz hk0 hG
    have HGk := hid (seesG_good HG.out (allS_take HAL.out k))
    obtain ⟨gk, hgk⟩ : ∃ g, seesG n0 (xs.take k) = g := ⟨_, rfl⟩
    rw [hgk] at HS HGk
    have HK := hid hgk
    clear hgk
    by_cases hlt : k < xs.length
    · obtain ⟨g0, o0, cap', e, hc⟩ := HR.out.cells k hlt
      cases e
      obtain ⟨x, hx0⟩ : ∃ x, x = xs.getD k (0, false, false) := ⟨_, rfl⟩
      have hck := (hc k hlt).below HS.out.bel (hc k hlt).lt
      rw [← hx0] at hck
      have HX := hid hx0
      have HO : Hid (okS x = true) := by rw [hx0]; exact allS_at HAL.out k hlt
      have HT : Hid (seesG n0 (xs.take (k + 1)) = seeG gk x) := by show _ = _; rw [seesG_take n0 xs k hlt, HK.out, ← hx0]
      clear hc hx0
      obtain ⟨t, tw, lo⟩ := x
      obtain ⟨q0, q1, q2⟩ := hck
      simp only at q0 q1 q2
      go_wp2_with fail
      refine (isee_any G gk (t, tw, lo) _ HS.out.gc HS.out.gf HGk.out HO.out).mono ?_
      rintro e w3 ⟨rfl, hcc, hff, hbb⟩
      have S3 := hid (HS.out.see hcc hff hbb)
      clear hcc hff hbb q0 q1 q2
      go_wp2
      go_step3
      exact ⟨rfl, G, k + 1, _, _, _, _, _, _, _, _, _, _, _, rfl, by omega, by rw [HT.out]; exact S3.out⟩
    · obtain rfl : k = xs.length := by omega
      have hRR : gk = R := by rw [← HK.out, List.take_length]; exact HRR.out
      subst hRR
      obtain ⟨m2, s2, n2, p2⟩ := gk
      obtain ⟨c0, c1, c2, c3⟩ := HS.out.gc
      obtain ⟨k0, k1, k2, k3⟩ := HS.out.rc
      obtain ⟨f0, f1, f2, f3⟩ := HS.out.rf
      go_wp2
      obtain ⟨e0, e1, e2, e3⟩ := gput4_same HS.out.rc (m2, s2, n2, p2)
      simp only [Exit.jump]
      exact bodyPost_ret (v := .tuple #[.agg #[.int .i64 m2, .int .i64 s2, .int .i64 n2, .int .i64 p2], .bool true]) (by simp [results, Try.results23, go_sem, e0, e1, e2, e3]) rfl ⟨rfl, gbelow_put4 HS.out.bel (by omega) (m2, s2, n2, p2)⟩
  · rintro x wr ⟨G, k, u26, u27, u28, u29, u30, u31, u32, u33, u34, u35, u36, rfl, hk, hS⟩
    have HS := hid hS
    clear hS
    have HGk := hid (seesG_good HG.out (allS_take HAL.out k))
    obtain ⟨gk, hgk⟩ : ∃ g, seesG n0 (xs.take k) = g := ⟨_, rfl⟩
    rw [hgk] at HS HGk
    have HK := hid hgk
    clear hgk
    by_cases hlt : k < xs.length
    · obtain ⟨g0, o0, cap', e, hc⟩ := HR.out.cells k hlt
      cases e
      obtain ⟨x, hx0⟩ : ∃ x, x = xs.getD k (0, false, false) := ⟨_, rfl⟩
      have hck := (hc k hlt).below HS.out.bel (hc k hlt).lt
      rw [← hx0] at hck
      have HX := hid hx0
      have HO : Hid (okS x = true) := by rw [hx0]; exact allS_at HAL.out k hlt
      have HT : Hid (seesG n0 (xs.take (k + 1)) = seeG gk x) := by show _ = _; rw [seesG_take n0 xs k hlt, HK.out, ← hx0]
      clear hc hx0
      obtain ⟨t, tw, lo⟩ := x
      obtain ⟨q0, q1, q2⟩ := hck
      simp only at q0 q1 q2
      go_wp2_with fail
      refine (isee_any G gk (t, tw, lo) _ HS.out.gc HS.out.gf HGk.out HO.out).mono ?_
      rintro e w3 ⟨rfl, hcc, hff, hbb⟩
      have S3 := hid (HS.out.see hcc hff hbb)
      clear hcc hff hbb q0 q1 q2
      go_wp2
      go_step3
      exact ⟨rfl, ⟨G, k + 1, _, _, _, _, _, _, _, _, _, _, _, rfl, by omega, by rw [HT.out]; exact S3.out⟩, by simp [intOf]; omega⟩
    · obtain rfl : k = xs.length := by omega
      have hRR : gk = R := by rw [← HK.out, List.take_length]; exact HRR.out
      subst hRR
      obtain ⟨m2, s2, n2, p2⟩ := gk
      obtain ⟨c0, c1, c2, c3⟩ := HS.out.gc
      obtain ⟨k0, k1, k2, k3⟩ := HS.out.rc
      obtain ⟨f0, f1, f2, f3⟩ := HS.out.rf
      go_wp2
      obtain ⟨e0, e1, e2, e3⟩ := gput4_same HS.out.rc (m2, s2, n2, p2)
      simp only [Exit.jump]
      exact bodyPost_ret (v := .tuple #[.agg #[.int .i64 m2, .int .i64 s2, .int .i64 n2, .int .i64 p2], .bool true]) (by simp [results, Try.results23, go_sem, e0, e1, e2, e3]) rfl ⟨rfl, gbelow_put4 HS.out.bel (by omega) (m2, s2, n2, p2)⟩
end Go.Proofs.Yteeaebelknpdjbb
