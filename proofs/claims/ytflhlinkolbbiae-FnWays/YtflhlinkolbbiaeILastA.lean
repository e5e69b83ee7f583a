/-
  (impl.Way).arrival, impl.lastArrival, impl.LastArrival: when the last letter arrives. Nothing old is written.
-/
import Derived.Test.YtflhlinkolbbiaeIWays
import Derived.Test.YtflhlinkolbbiaeIAllIn
import Derived.Deep.QuietTactic
import Derived.BigQuiet
import Derived.OwnWalk
namespace Go.Proofs.Ytflhlinkolbbiae
open Go.RowKit

set_option maxHeartbeats 2000000 in
theorem iarr_eq (p q z : Int) (c a : Nat) (w : World) (h1 : IntKind.i64.wrap ((c : Int) * q) = z) (h2 : IntKind.i64.wrap (p + z) = (a : Nat)) :
    Calls Try.prog 92 #[.agg #[.int .i64 p, .int .i64 q], .int .i64 (c : Nat)] w fun e w' => e = .returned (.int .i64 (a : Nat)) ∧ Below w.heap.size w w' := by
  go_enter Try.func92, Try.ntmps92
  go_wp2
  go_ret
  exact ⟨rfl, by go_grown⟩
theorem maxW_run (p q : Int) : ∀ (ts : Array TypeId) (ty : TypeId) (w : World), (Builtin.max_ ts ty #[.int .i64 p, .int .i64 q]).run Try.prog w = .ok (.int .i64 (if p < q then q else p)) w := fun ts ty w => by simp [Builtin.max_, Builtin.max2]
set_option maxRecDepth 100000 in
set_option maxHeartbeats 8000000 in
theorem ilast_eq (v vc : Value) (xs : List WyEl) (cs : List Nat) (hg : GWays xs) (hc : Counts xs cs) (w : World) (h0 : WyReads w v xs) (h1 : KReads w vc (ofN cs)) :
    Calls Try.prog 88 #[v, vc] w fun e w' => e = .returned (.int .i64 (laN xs cs : Nat)) ∧ Below w.heap.size w w' := by
  have R0 := hid h0
  have R1 := hid h1
  have HG := hid hg
  have HC := hid hc
  obtain ⟨a0, p0, rfl, _, _⟩ := h0
  obtain ⟨a1, p1, rfl, _, _⟩ := h1
  have hl1 : (ofN cs).length = xs.length := by rw [List.length_map]; exact hc.len
  have HL1 := hid hl1
  rw [hl1] at R1 ⊢
  obtain ⟨n, hn⟩ : ∃ n, n = xs.length := ⟨_, rfl⟩
  rw [← hn] at R0 R1 HL1 ⊢
  have HN := hid hn
  have h4 := hg.len.2
  rw [← hn] at h4
  obtain ⟨r, hr⟩ : ∃ r, laN xs cs = r := ⟨_, rfl⟩
  have HR : Hid (lastP (arrW xs) cs n = r) := by rw [hn]; exact hr
  rw [hr]
  clear hc hg hl1 hn hr
  go_enter Try.func88, Try.ntmps88
  go_wp2
  go_loopw [5, 10] (fun m i wr => ∃ k : Nat, k ≤ n ∧ i = .int .i64 k ∧ m = .int .i64 (lastP (arrW xs) cs k : Nat) ∧ Below w.heap.size w wr) (fun _ i _ => n - (intOf i).toNat)
  case atStart => exact ⟨0, Nat.zero_le _, rfl, rfl, Below.refl _ _⟩
  case round =>
    obtain ⟨k, hk, rfl, rfl, hbel⟩ := hrel
    have HB := hid hbel
    clear hbel
    by_cases hlt : k < n
    · obtain ⟨g0, o0, c0, e0, y0⟩ := (R0.out.below HB.out).cells k (by rw [← HN.out]; exact hlt)
      rw [← HN.out] at e0
      cases e0
      obtain ⟨g1, o1, c1, e1, y1⟩ := (R1.out.below HB.out).cells k (by rw [HL1.out]; exact hlt)
      rw [HL1.out] at e1
      cases e1
      obtain ⟨c, hcd⟩ : ∃ c, c = cs.getD k 0 := ⟨_, rfl⟩
      obtain ⟨p, hp⟩ : ∃ p, p = (xs.getD k (0, 0)).1 := ⟨_, rfl⟩
      obtain ⟨q, hq⟩ : ∃ q, q = (xs.getD k (0, 0)).2 := ⟨_, rfl⟩
      have x1 : wr.cell? ⟨g1, o1 + k, none⟩ = some (.int .i64 (c : Nat)) := by have := y1 k (by rw [HL1.out]; exact hlt); rw [ofN_atW, ← hcd] at this; exact this
      obtain ⟨x0, x2⟩ := y0 k (by rw [← HN.out]; exact hlt)
      rw [← hp] at x0
      rw [← hq] at x2
      have hcb : c ≤ 40 := by rw [hcd]; exact HC.out.small k (by rw [← HN.out]; exact hlt)
      have n0 : (0 : Int) ≤ (k : Int) := by omega
      have n1 : (k : Int) < (n : Int) := by omega
      obtain ⟨m0, hm0⟩ : ∃ m0, m0 = lastP (arrW xs) cs k := ⟨_, rfl⟩
      obtain ⟨m1, hm1⟩ : ∃ m1, m1 = lastP (arrW xs) cs (k + 1) := ⟨_, rfl⟩
      have hst : m1 = if 0 < c then max m0 (arrW xs k (c - 1)) else m0 := by rw [hm1, hm0, hcd]; rfl
      have HM1 := hid hm1
      rw [← hm0]
      clear y0 y1 hm1 hm0
      by_cases hc0 : 0 < c
      · obtain ⟨c1, hc1⟩ : ∃ c1, c1 = c - 1 := ⟨_, rfl⟩
        obtain ⟨hz1, hz2⟩ := arrW_int HG.out (k := k) (c := c1) (by rw [← HN.out]; exact hlt) (by omega)
        rw [← hq] at hz1 hz2
        rw [← hp] at hz2
        obtain ⟨a, ha⟩ : ∃ a, a = arrW xs k c1 := ⟨_, rfl⟩
        rw [← ha] at hz2
        obtain ⟨z, hz⟩ : ∃ z, z = (c1 : Int) * q := ⟨_, rfl⟩
        rw [← hz] at hz1 hz2
        have hw1 : IntKind.i64.wrap ((c1 : Int) * q) = z := by rw [← hz]; exact hz1
        have hw0 : IntKind.i64.wrap ((c : Int) - 1) = (c1 : Int) := by rw [IntKind.wrap_i64]; omega
        have HMx : Hid (max (m0 : Int) (a : Int) = (m1 : Nat)) := by show _ = _; rw [if_pos hc0, ← hc1, ← ha] at hst; omega
        have dc : decide ((0 : Int) < (c : Int)) = true := by rw [decide_eq_true_eq]; omega
        clear hcd hp hq hst hc1 ha hz hz1
        have hmx : ∀ (ts : Array TypeId) (ty : TypeId) (w : World), (Builtin.max_ ts ty #[.int .i64 (m0 : Int), .int .i64 (a : Int)]).run Try.prog w = .ok (.int .i64 (m1 : Int)) w := by
          have e : (if (m0 : Int) < (a : Int) then (a : Int) else (m0 : Int)) = (m1 : Int) := by rw [← HMx.out]; split <;> omega
          intro ts ty w
          rw [← e]
          exact maxW_run m0 a ts ty w
        have HW1 := hid hw1
        have HW2 := hid hz2
        clear hw1 hz2
        go_wp2_with fail
        refine (iarr_eq p q z c1 a _ HW1.out HW2.out).mono ?_
        rintro e w2 ⟨rfl, hb2⟩
        have B2 : Hid (Below w.heap.size w w2) := HB.out.trans (hb2.mono HB.out.size)
        clear hb2
        go_wp2
        go_roundw
        case rel => exact ⟨k + 1, by omega, by go_num, by rw [HM1.out], B2.out⟩
        case measure => simp [intOf]; omega
      · have HMx : Hid (m1 = m0) := by show _ = _; rw [if_neg hc0] at hst; exact hst
        have dc : decide ((0 : Int) < (c : Int)) = false := by rw [decide_eq_false_iff_not]; omega
        clear hcd hp hq hst
        go_wp2
        go_roundw
        case rel => exact ⟨k + 1, by omega, by go_num, by rw [← HM1.out, HMx.out], HB.out⟩
        case measure => simp [intOf]; omega
    · obtain rfl : k = n := by omega
      rw [HR.out]
      go_wp2
      go_ret
      exact ⟨rfl, HB.out⟩
set_option maxRecDepth 100000 in
set_option maxHeartbeats 8000000 in
theorem ilastFn_no (v vc : Value) (xs : List WyEl) (cs : List Int) (w : World) (h0 : WyReads w v xs) (h1 : KReads w vc cs) (hn : lcB xs cs = false) :
    Calls Try.prog 36 #[v, vc] w fun e w' => e = .returned (.tuple #[.int .i64 0, .bool false]) ∧ Below w.heap.size w w' := by
  have R0 := hid h0
  have R1 := hid h1
  obtain ⟨a0, p0, rfl, ⟨l0, _⟩, _⟩ := h0
  obtain ⟨a1, p1, rfl, ⟨l1, _⟩, _⟩ := h1
  obtain ⟨b1, hb1⟩ : ∃ b, wyB xs = b := ⟨_, rfl⟩
  obtain ⟨b2, hb2⟩ : ∃ b, decide (cs.length = xs.length) = b := ⟨_, rfl⟩
  obtain ⟨b3, hb3⟩ : ∃ b, cs.all (fun k => decide (0 ≤ k ∧ k ≤ 40)) = b := ⟨_, rfl⟩
  unfold lcB at hn
  rw [hb1, hb2, hb3] at hn
  have HB1 := hid hb1
  have HB3 := hid hb3
  have HNo := hid hn
  clear hb1 hb3 hn
  go_enter Try.func36, Try.ntmps36
  go_wp2_with fail
  refine (iways_eq _ xs b1 HB1.out _ R0.out).mono ?_
  rintro e w1 ⟨rfl, hb1⟩
  have B1 := hid hb1
  clear hb1
  cases b1
  · go_wp2
    go_ret2
    exact ⟨rfl, B1.out⟩
  cases b2
  · have hne : ¬ cs.length = xs.length := by simpa using hb2
    go_wp2
    go_ret2
    exact ⟨rfl, B1.out⟩
  have hlen : cs.length = xs.length := by simpa using hb2
  rw [hlen] at R1
  have hv : b3 = false := by have := HNo.out; cases b3 <;> simp at this ⊢
  subst hv
  go_wp2_with fail
  refine (iallIn_eq _ cs 0 40 false HB3.out _ (R1.out.below B1.out)).mono ?_
  rintro e w2 ⟨rfl, hb2⟩
  have B2 : Hid (Below w.heap.size w w2) := B1.out.trans (hb2.mono B1.out.size)
  clear hb2
  go_wp2
  go_ret2
  exact ⟨rfl, B2.out⟩
set_option maxRecDepth 100000 in
set_option maxHeartbeats 8000000 in
theorem ilastFn_yes (v vc : Value) (xs : List WyEl) (ns : List Nat) (w : World) (h0 : WyReads w v xs) (h1 : KReads w vc (ofN ns)) (hg : GWays xs) (hc : Counts xs ns) (hl : lcB xs (ofN ns) = true) :
    Calls Try.prog 36 #[v, vc] w fun e w' => e = .returned (.tuple #[.int .i64 (laN xs ns : Nat), .bool true]) ∧ Below w.heap.size w w' := by
  have R0 := hid h0
  have R1 := hid h1
  have HG := hid hg
  have HC := hid hc
  unfold lcB at hl
  simp only [Bool.and_eq_true] at hl
  have HB1 := hid hl.1.1
  have HB3 := hid hl.2
  obtain ⟨a0, p0, rfl, _, _⟩ := h0
  obtain ⟨a1, p1, rfl, _, _⟩ := h1
  have e1 : (ofN ns).length = xs.length := by rw [List.length_map]; exact hc.len
  rw [e1] at R1 ⊢
  obtain ⟨r, hr⟩ : ∃ r, laN xs ns = r := ⟨_, rfl⟩
  have HR := hid hr
  rw [hr]
  clear hl e1 hg hc hr
  go_enter Try.func36, Try.ntmps36
  go_wp2_with fail
  refine (iways_eq _ xs true HB1.out _ R0.out).mono ?_
  rintro e w1 ⟨rfl, hb1⟩
  have B1 := hid hb1
  clear hb1
  go_wp2_with fail
  refine (iallIn_eq _ (ofN ns) 0 40 true HB3.out _ (R1.out.below B1.out)).mono ?_
  rintro e w2 ⟨rfl, hb2⟩
  have B2 : Hid (Below w.heap.size w w2) := B1.out.trans (hb2.mono B1.out.size)
  clear hb2
  go_wp2_with fail
  refine (ilast_eq _ _ xs ns HG.out HC.out _ (R0.out.below B2.out) (R1.out.below B2.out)).mono ?_
  rintro e w3 ⟨rfl, hb⟩
  rw [HR.out]
  have B3 : Hid (Below w.heap.size w w3) := B2.out.trans (hb.mono B2.out.size)
  clear hb
  go_wp2
  go_ret2
  exact ⟨rfl, B3.out⟩
theorem ilastFn_any (v vc : Value) (xs : List WyEl) (cs : List Int) (w : World) (h0 : WyReads w v xs) (h1 : KReads w vc cs) :
    Calls Try.prog 36 #[v, vc] w fun e w' => e = .returned (.tuple #[.int .i64 (laZ xs cs), .bool (lcB xs cs)]) ∧ Below w.heap.size w w' := by
  cases hg : lcB xs cs with
  | false => rw [laZ_no hg]; exact ilastFn_no v vc xs cs w h0 h1 hg
  | true =>
    obtain ⟨ns, rfl, hw, hc⟩ := counts_of hg
    rw [laZ_yes hg]
    exact ilastFn_yes v vc xs ns w h0 h1 hw hc hg
end Go.Proofs.Ytflhlinkolbbiae
