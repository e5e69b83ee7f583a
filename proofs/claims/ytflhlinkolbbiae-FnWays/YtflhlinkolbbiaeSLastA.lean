/-
  spec.l14Last, spec.LastArrival: when the last letter arrives. Nothing old is written.
-/
import Derived.Test.YtflhlinkolbbiaeSWays
import Derived.Test.YtflhlinkolbbiaeSAll7
import Derived.Test.YtflhlinkolbbiaeSMost9
import Derived.Deep.QuietTactic
import Derived.BigQuiet
import Derived.OwnWalk
namespace Go.Proofs.Ytflhlinkolbbiae
open Go.RowKit

set_option maxRecDepth 100000 in
set_option maxHeartbeats 8000000 in
theorem slast_eq (v vc : Value) (xs : List WyEl) (cs : List Nat) (hg : GWays xs) (hc : Counts xs cs) (w : World) (h0 : WyReads w v xs) (h1 : KReads w vc (ofN cs)) :
    Calls Try.prog 90 #[v, vc] w fun e w' => e = .returned (.int .i64 (laN xs cs : Nat)) ∧ Below w.heap.size w w' := by
  have R0 := hid h0
  have R1 := hid h1
  have HG := hid hg
  have HC := hid hc
  obtain ⟨a0, p0, rfl, _, _⟩ := h0
  obtain ⟨a1, p1, rfl, _, _⟩ := h1
  have hl1 : (ofN cs).length = xs.length := by rw [List.length_map]; exact hc.len
  have HL1 := hid hl1
  rw [hl1] at R1 ⊢
  obtain ⟨n, hn⟩ : ∃ n, n = xs.length := ⟨_, rfl⟩
  rw [← hn] at R0 R1 HL1 ⊢
  have HN := hid hn
  have h4 := hg.len.2
  rw [← hn] at h4
  obtain ⟨r, hr⟩ : ∃ r, laN xs cs = r := ⟨_, rfl⟩
  have HR : Hid (lastP (arrW xs) cs n = r) := by rw [hn]; exact hr
  rw [hr]
  clear hc hg hl1 hn hr
  go_enter Try.func90, Try.ntmps90
  go_wp2
  go_loopw [5, 10] (fun m i wr => ∃ k : Nat, k ≤ n ∧ i = .int .i64 k ∧ m = .int .i64 (lastP (arrW xs) cs k : Nat) ∧ Below w.heap.size w wr) (fun _ i _ => n - (intOf i).toNat)
  case atStart => exact ⟨0, Nat.zero_le _, rfl, rfl, Below.refl _ _⟩
  case round =>
    obtain ⟨k, hk, rfl, rfl, hbel⟩ := hrel
    have HB := hid hbel
    clear hbel
    by_cases hlt : k < n
    · obtain ⟨g0, o0, c0, e0, y0⟩ := (R0.out.below HB.out).cells k (by rw [← HN.out]; exact hlt)
      rw [← HN.out] at e0
      cases e0
      obtain ⟨g1, o1, c1, e1, y1⟩ := (R1.out.below HB.out).cells k (by rw [HL1.out]; exact hlt)
      rw [HL1.out] at e1
      cases e1
      obtain ⟨c, hcd⟩ : ∃ c, c = cs.getD k 0 := ⟨_, rfl⟩
      obtain ⟨p, hp⟩ : ∃ p, p = (xs.getD k (0, 0)).1 := ⟨_, rfl⟩
      obtain ⟨q, hq⟩ : ∃ q, q = (xs.getD k (0, 0)).2 := ⟨_, rfl⟩
      have x1 : wr.cell? ⟨g1, o1 + k, none⟩ = some (.int .i64 (c : Nat)) := by have := y1 k (by rw [HL1.out]; exact hlt); rw [ofN_atW, ← hcd] at this; exact this
      obtain ⟨x0, x2⟩ := y0 k (by rw [← HN.out]; exact hlt)
      rw [← hp] at x0
      rw [← hq] at x2
      have hcb : c ≤ 40 := by rw [hcd]; exact HC.out.small k (by rw [← HN.out]; exact hlt)
      have n0 : (0 : Int) ≤ (k : Int) := by omega
      have n1 : (k : Int) < (n : Int) := by omega
      obtain ⟨m0, hm0⟩ : ∃ m0, m0 = lastP (arrW xs) cs k := ⟨_, rfl⟩
      obtain ⟨m1, hm1⟩ : ∃ m1, m1 = lastP (arrW xs) cs (k + 1) := ⟨_, rfl⟩
      have hst : m1 = if 0 < c then max m0 (arrW xs k (c - 1)) else m0 := by rw [hm1, hm0, hcd]; rfl
      have HM1 := hid hm1
      rw [← hm0]
      clear y0 y1 hm1 hm0
      by_cases hc0 : 0 < c
      · obtain ⟨c1, hc1⟩ : ∃ c1, c1 = c - 1 := ⟨_, rfl⟩
        obtain ⟨hz1, hz2⟩ := arrW_int HG.out (k := k) (c := c1) (by rw [← HN.out]; exact hlt) (by omega)
        rw [← hq] at hz1 hz2
        rw [← hp] at hz2
        obtain ⟨a, ha⟩ : ∃ a, a = arrW xs k c1 := ⟨_, rfl⟩
        rw [← ha] at hz2
        obtain ⟨z, hz⟩ : ∃ z, z = (c1 : Int) * q := ⟨_, rfl⟩
        rw [← hz] at hz1 hz2
        have hw1 : IntKind.i64.wrap ((c1 : Int) * q) = z := by rw [← hz]; exact hz1
        have hw0 : IntKind.i64.wrap ((c : Int) - 1) = (c1 : Int) := by rw [IntKind.wrap_i64]; omega
        have HMx : Hid (max (m0 : Int) (a : Int) = (m1 : Nat)) := by show _ = _; rw [if_pos hc0, ← hc1, ← ha] at hst; omega
        have dc : decide ((0 : Int) < (c : Int)) = true := by rw [decide_eq_true_eq]; omega
        clear hcd hp hq hst hc1 ha hz hz1
        go_wp2_with fail
        go_quiet (exact Calls.quiet_of_same (smost_eq m0 a m1 HMx.out _))
        go_wp2
        go_roundw
        case rel => exact ⟨k + 1, by omega, by go_num, by rw [HM1.out], HB.out.trans ⟨rfl, rfl, rfl, Nat.le_refl _, fun _ _ => rfl⟩⟩
        case measure => simp [intOf]; omega
      · have HMx : Hid (m1 = m0) := by show _ = _; rw [if_neg hc0] at hst; exact hst
        have dc : decide ((0 : Int) < (c : Int)) = false := by rw [decide_eq_false_iff_not]; omega
        clear hcd hp hq hst
        go_wp2
        go_roundw
        case rel => exact ⟨k + 1, by omega, by go_num, by rw [← HM1.out, HMx.out], HB.out⟩
        case measure => simp [intOf]; omega
    · obtain rfl : k = n := by omega
      rw [HR.out]
      go_wp2
      go_ret
      exact ⟨rfl, HB.out⟩
set_option maxRecDepth 100000 in
set_option maxHeartbeats 8000000 in
theorem slastFn_no (v vc : Value) (xs : List WyEl) (cs : List Int) (w : World) (h0 : WyReads w v xs) (h1 : KReads w vc cs) (hn : lcB xs cs = false) :
    Calls Try.prog 37 #[v, vc] w fun e w' => e = .returned (.tuple #[.int .i64 0, .bool false]) ∧ Below w.heap.size w w' := by
  have R0 := hid h0
  have R1 := hid h1
  obtain ⟨a0, p0, rfl, ⟨l0, _⟩, _⟩ := h0
  obtain ⟨a1, p1, rfl, ⟨l1, _⟩, _⟩ := h1
  obtain ⟨b1, hb1⟩ : ∃ b, wyB xs = b := ⟨_, rfl⟩
  obtain ⟨b2, hb2⟩ : ∃ b, decide (cs.length = xs.length) = b := ⟨_, rfl⟩
  obtain ⟨b3, hb3⟩ : ∃ b, cs.all (fun k => decide (0 ≤ k ∧ k ≤ 40)) = b := ⟨_, rfl⟩
  unfold lcB at hn
  rw [hb1, hb2, hb3] at hn
  have HB1 := hid hb1
  have HB3 := hid hb3
  have HNo := hid hn
  clear hb1 hb3 hn
  go_enter Try.func37, Try.ntmps37
  go_wp2_with fail
  refine (sways_eq _ xs b1 HB1.out _ R0.out).mono ?_
  rintro e w1 ⟨rfl, hb1⟩
  have B1 := hid hb1
  clear hb1
  cases b1
  · go_wp2
    go_ret2
    exact ⟨rfl, B1.out⟩
  cases b2
  · have hne : ¬ cs.length = xs.length := by simpa using hb2
    go_wp2
    go_ret2
    exact ⟨rfl, B1.out⟩
  have hlen : cs.length = xs.length := by simpa using hb2
  rw [hlen] at R1
  have hv : b3 = false := by have := HNo.out; cases b3 <;> simp at this ⊢
  subst hv
  go_wp2_with fail
  refine (l1All7_eq _ cs 0 40 false HB3.out _ (R1.out.below B1.out)).mono ?_
  rintro e w' ⟨rfl, hw⟩; obtain rfl := hw.symm
  go_wp2
  go_ret2
  exact ⟨rfl, B1.out⟩
set_option maxRecDepth 100000 in
set_option maxHeartbeats 8000000 in
theorem slastFn_yes (v vc : Value) (xs : List WyEl) (ns : List Nat) (w : World) (h0 : WyReads w v xs) (h1 : KReads w vc (ofN ns)) (hg : GWays xs) (hc : Counts xs ns) (hl : lcB xs (ofN ns) = true) :
    Calls Try.prog 37 #[v, vc] w fun e w' => e = .returned (.tuple #[.int .i64 (laN xs ns : Nat), .bool true]) ∧ Below w.heap.size w w' := by
  have R0 := hid h0
  have R1 := hid h1
  have HG := hid hg
  have HC := hid hc
  unfold lcB at hl
  simp only [Bool.and_eq_true] at hl
  have HB1 := hid hl.1.1
  have HB3 := hid hl.2
  obtain ⟨a0, p0, rfl, _, _⟩ := h0
  obtain ⟨a1, p1, rfl, _, _⟩ := h1
  have e1 : (ofN ns).length = xs.length := by rw [List.length_map]; exact hc.len
  rw [e1] at R1 ⊢
  obtain ⟨r, hr⟩ : ∃ r, laN xs ns = r := ⟨_, rfl⟩
  have HR := hid hr
  rw [hr]
  clear hl e1 hg hc hr
  go_enter Try.func37, Try.ntmps37
  go_wp2_with fail
  refine (sways_eq _ xs true HB1.out _ R0.out).mono ?_
  rintro e w1 ⟨rfl, hb1⟩
  have B1 := hid hb1
  clear hb1
  go_wp2_with fail
  refine (l1All7_eq _ (ofN ns) 0 40 true HB3.out _ (R1.out.below B1.out)).mono ?_
  rintro e w' ⟨rfl, hw⟩; obtain rfl := hw.symm
  go_wp2_with fail
  refine (slast_eq _ _ xs ns HG.out HC.out _ (R0.out.below B1.out) (R1.out.below B1.out)).mono ?_
  rintro e w3 ⟨rfl, hb⟩
  rw [HR.out]
  have B3 : Hid (Below w.heap.size w w3) := B1.out.trans (hb.mono B1.out.size)
  clear hb
  go_wp2
  go_ret2
  exact ⟨rfl, B3.out⟩
theorem slastFn_any (v vc : Value) (xs : List WyEl) (cs : List Int) (w : World) (h0 : WyReads w v xs) (h1 : KReads w vc cs) :
    Calls Try.prog 37 #[v, vc] w fun e w' => e = .returned (.tuple #[.int .i64 (laZ xs cs), .bool (lcB xs cs)]) ∧ Below w.heap.size w w' := by
  cases hg : lcB xs cs with
  | false => rw [laZ_no hg]; exact slastFn_no v vc xs cs w h0 h1 hg
  | true =>
    obtain ⟨ns, rfl, hw, hc⟩ := counts_of hg
    rw [laZ_yes hg]
    exact slastFn_yes v vc xs ns w h0 h1 hw hc hg
end Go.Proofs.Ytflhlinkolbbiae
