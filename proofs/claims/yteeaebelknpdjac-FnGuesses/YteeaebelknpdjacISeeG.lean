/-
  impl.SeeGuess: a guess behind what was seen, where both are as said. Nothing old is written.
-/
import Derived.Test.YteeaebelknpdjacIGoodG
import Derived.Test.YteeaebelknpdjacIWrongS
import Derived.Test.YteeaebelknpdjacISee
namespace Go.Proofs.Yteeaebelknpdjac
open Go.RowKit

set_option maxHeartbeats 4000000 in
theorem iseeG_any (g : GuEl) (x : SnEl) (r : Bool) (h : (goodG g && okS x) = r) (R : GuEl) (hR : R = bif r then seeG g x else (0, 0, 0, 0)) (w : World) : Calls Try.prog 52 #[guV g, snV x] w fun e w' => e = .returned (.tuple #[guV R, .bool r]) ∧ Below w.heap.size w w' := by
  obtain ⟨b1, h1⟩ : ∃ b, goodG g = b := ⟨_, rfl⟩
  obtain ⟨b2, h2⟩ : ∃ b, (!okS x) = b := ⟨_, rfl⟩
  have h2' : okS x = !b2 := by rw [← h2, Bool.not_not]
  rw [h1, h2'] at h
  have H1 := hid h1
  have H2 := hid h2'
  have HH := hid h
  have HR := hid hR
  clear h1 h2 h2' h hR
  have hs := seeBox w g x
  go_enter Try.func52, Try.ntmps52
  go_wp2_with fail
  refine (igoodG_eq g b1 H1.out _).mono ?_
  rintro e w1 ⟨rfl, hb⟩
  have S1 := hid (hs.later hb)
  clear hs hb
  obtain ⟨x0, x1, x2⟩ := S1.out.xc
  obtain ⟨c0, c1, c2, c3⟩ := S1.out.rc
  obtain ⟨f0, f1, f2, f3⟩ := S1.out.rf
  obtain ⟨g0, g1, g2, g3⟩ := S1.out.gc
  cases b1
  · obtain rfl : false = r := HH.out
    obtain rfl : R = (0, 0, 0, 0) := HR.out
    go_wp2
    obtain ⟨e0, e1, e2, e3⟩ := gput4_same S1.out.rc (0, 0, 0, 0)
    exact bodyPost_ret (v := .tuple #[.agg #[.int .i64 0, .int .i64 0, .int .i64 0, .int .i64 0], .bool false]) (by simp [results, Try.results52, go_sem, e0, e1, e2, e3]) rfl ⟨rfl, gbelow_put4 S1.out.bel (by omega) (0, 0, 0, 0)⟩
  go_wp2_with fail
  refine (iwrongS_eq x b2 H2.out _).mono ?_
  rintro e w2 ⟨rfl, hb⟩
  have S2 := hid (S1.out.later hb)
  clear S1 hb x0 x1 x2 c0 c1 c2 c3 f0 f1 f2 f3 g0 g1 g2 g3
  obtain ⟨x0, x1, x2⟩ := S2.out.xc
  obtain ⟨c0, c1, c2, c3⟩ := S2.out.rc
  obtain ⟨f0, f1, f2, f3⟩ := S2.out.rf
  obtain ⟨g0, g1, g2, g3⟩ := S2.out.gc
  cases b2
  case true =>
    obtain rfl : false = r := HH.out
    obtain rfl : R = (0, 0, 0, 0) := HR.out
    go_wp2
    obtain ⟨e0, e1, e2, e3⟩ := gput4_same S2.out.rc (0, 0, 0, 0)
    exact bodyPost_ret (v := .tuple #[.agg #[.int .i64 0, .int .i64 0, .int .i64 0, .int .i64 0], .bool false]) (by simp [results, Try.results52, go_sem, e0, e1, e2, e3]) rfl ⟨rfl, gbelow_put4 S2.out.bel (by omega) (0, 0, 0, 0)⟩
  obtain rfl : true = r := HH.out
  have hR : seeG g x = R := HR.out.symm
  go_wp2_with fail
  refine (isee_any w.heap.size g x _ S2.out.gc S2.out.gf (goodG_iff.1 H1.out) H2.out).mono ?_
  rintro e w3 ⟨rfl, hc, _, hb⟩
  rw [hR] at hc
  have hsz := S2.out.sz
  have C3 := hid hc
  have R3 := hid (S2.out.rc.but hb (by omega))
  have F3 := hid (S2.out.rf.but (by omega) hb (by omega))
  have B3 : Hid (Below w.heap.size w w3) := S2.out.bel.trans (hb.to (by omega) (fun j hj e => by omega))
  clear hR HR S2 hb hc hsz x0 x1 x2 c0 c1 c2 c3 f0 f1 f2 f3 g0 g1 g2 g3
  obtain ⟨p, q, n, b⟩ := R
  obtain ⟨g0, g1, g2, g3⟩ := C3.out
  obtain ⟨c0, c1, c2, c3⟩ := R3.out
  obtain ⟨f0, f1, f2, f3⟩ := F3.out
  go_wp2
  obtain ⟨e0, e1, e2, e3⟩ := gput4_same R3.out (p, q, n, b)
  exact bodyPost_ret (v := .tuple #[.agg #[.int .i64 p, .int .i64 q, .int .i64 n, .int .i64 b], .bool true]) (by simp [results, Try.results52, go_sem, e0, e1, e2, e3]) rfl ⟨rfl, gbelow_put4 B3.out (by omega) (p, q, n, b)⟩
end Go.Proofs.Yteeaebelknpdjac
