/-
  spec.l9See: a guess behind what was seen. Nothing old is written.
-/
import Derived.Test.YteeaebelknpdjacSLeast9
import Derived.Test.YteeaebelknpdjacGuForm
namespace Go.Proofs.Yteeaebelknpdjac
open Go.RowKit

set_option maxHeartbeats 4000000 in
theorem ssee_any (g : GuEl) (x : SnEl) (hg : GoodG g) (hx : okS x = true) (w : World) : Calls Try.prog 106 #[guV g, snV x] w fun e w' => e = .returned (guV (seeG g x)) ∧ Below w.heap.size w w' := by
  obtain ⟨m, s, n, b⟩ := g
  obtain ⟨t, tw, lo⟩ := x
  obtain ⟨h1, h2, h3, h4, h5, h6, h7, h8⟩ := hg
  have ht := okS_took hx
  simp only at h1 h2 h3 h4 h5 h6 h7 h8 ht
  clear hx
  have wb : IntKind.i64.wrap (b + 1) = b + 1 := by rw [IntKind.wrap_i64]; omega
  have wn : IntKind.i64.wrap (n + 1) = n + 1 := by rw [IntKind.wrap_i64]; omega
  cases lo
  · obtain ⟨n2, hn2⟩ : ∃ r, min 1000 (n + 1) = r := ⟨_, rfl⟩
    cases tw
    · obtain ⟨q, hq⟩ : ∃ q, m / 8 = q := ⟨_, rfl⟩
      obtain ⟨p, hp⟩ : ∃ p, s / 4 = p := ⟨_, rfl⟩
      obtain ⟨d, hd⟩ : ∃ d, t - q = d := ⟨_, rfl⟩
      obtain ⟨a, ha⟩ : ∃ a, max d (-d) = a := ⟨_, rfl⟩
      obtain ⟨m2, hm2⟩ : ∃ a, m + d = a := ⟨_, rfl⟩
      obtain ⟨c, hc⟩ : ∃ c, a - p = c := ⟨_, rfl⟩
      obtain ⟨s2, hs2⟩ : ∃ a, s + c = a := ⟨_, rfl⟩
      have HR : Hid (seeG (m, s, n, b) (t, false, false) = (m2, s2, n2, 0)) := by
        show (m + (t - m / 8), s + (max (t - m / 8) (-(t - m / 8)) - s / 4), min 1000 (n + 1), (0 : Int)) = _
        rw [hq, hd, ha, hp, hc, hn2, hs2, hm2]
      have q1 : m.tdiv 8 = q := by rw [Int.tdiv_eq_ediv_of_nonneg h1]; exact hq
      have p1 : s.tdiv 4 = p := by rw [Int.tdiv_eq_ediv_of_nonneg h3]; exact hp
      have wq : IntKind.i64.wrap q = q := by rw [IntKind.wrap_i64]; omega
      have wp : IntKind.i64.wrap p = p := by rw [IntKind.wrap_i64]; omega
      have wd : IntKind.i64.wrap (t - q) = d := by rw [IntKind.wrap_i64]; omega
      have wm : IntKind.i64.wrap (m + d) = m2 := by rw [IntKind.wrap_i64]; omega
      have wc : IntKind.i64.wrap (a - p) = c := by rw [IntKind.wrap_i64]; omega
      have ws : IntKind.i64.wrap (s + c) = s2 := by rw [IntKind.wrap_i64]; omega
      have HN := hid hn2
      rw [HR.out]
      clear HR
      show Calls Try.prog 106 #[.agg #[.int .i64 m, .int .i64 s, .int .i64 n, .int .i64 b], .agg #[.int .i64 t, .bool false, .bool false]] w fun e w' => e = .returned (.agg #[.int .i64 m2, .int .i64 s2, .int .i64 n2, .int .i64 0]) ∧ Below w.heap.size w w'
      by_cases hneg : d < 0
      · have wa : IntKind.i64.wrap (-d) = a := by rw [IntKind.wrap_i64]; omega
        clear hn2 hd ha hm2 hc hs2
        go_enter Try.func106, Try.ntmps106
        go_wp2_with fail
        refine (sleast_eq 1000 (n + 1) n2 HN.out _).mono ?_
        rintro e w' ⟨rfl, hw⟩; obtain rfl := hw.symm
        go_wp2
        go_returns
        exact ⟨rfl, by go_grown⟩
      · obtain rfl : d = a := by omega
        clear hn2 hd ha hm2 hc hs2
        go_enter Try.func106, Try.ntmps106
        go_wp2_with fail
        refine (sleast_eq 1000 (n + 1) n2 HN.out _).mono ?_
        rintro e w' ⟨rfl, hw⟩; obtain rfl := hw.symm
        go_wp2
        go_returns
        exact ⟨rfl, by go_grown⟩
    · have HR : Hid (seeG (m, s, n, b) (t, true, false) = (m, s, n2, b)) := by
        show (m, s, min 1000 (n + 1), b) = _
        rw [hn2]
      have HN := hid hn2
      rw [HR.out]
      clear HR hn2
      show Calls Try.prog 106 #[.agg #[.int .i64 m, .int .i64 s, .int .i64 n, .int .i64 b], .agg #[.int .i64 t, .bool true, .bool false]] w fun e w' => e = .returned (.agg #[.int .i64 m, .int .i64 s, .int .i64 n2, .int .i64 b]) ∧ Below w.heap.size w w'
      go_enter Try.func106, Try.ntmps106
      go_wp2_with fail
      refine (sleast_eq 1000 (n + 1) n2 HN.out _).mono ?_
      rintro e w' ⟨rfl, hw⟩; obtain rfl := hw.symm
      go_wp2
      go_returns
      exact ⟨rfl, by go_grown⟩
  · obtain ⟨b2, hb2⟩ : ∃ r, min 6 (b + 1) = r := ⟨_, rfl⟩
    have HR : Hid (seeG (m, s, n, b) (t, tw, true) = (m, s, n, b2)) := by
      show (m, s, n, min 6 (b + 1)) = _
      rw [hb2]
    have HN := hid hb2
    rw [HR.out]
    clear HR hb2
    show Calls Try.prog 106 #[.agg #[.int .i64 m, .int .i64 s, .int .i64 n, .int .i64 b], .agg #[.int .i64 t, .bool tw, .bool true]] w fun e w' => e = .returned (.agg #[.int .i64 m, .int .i64 s, .int .i64 n, .int .i64 b2]) ∧ Below w.heap.size w w'
    go_enter Try.func106, Try.ntmps106
    go_wp2_with fail
    refine (sleast_eq 6 (b + 1) b2 HN.out _).mono ?_
    rintro e w' ⟨rfl, hw⟩; obtain rfl := hw.symm
    go_wp2
    go_returns
    exact ⟨rfl, by go_grown⟩
end Go.Proofs.Yteeaebelknpdjac
