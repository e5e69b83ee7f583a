/-
  Flows and buckets as the program's lists have them: plain words.
  impl.sumOf: numbers added up. Nothing is written.
  laws.sumOf: the sum of small numbers; laws.sameInts at two lists as long. Nothing old is written.
  How turns that are read stand. Plain facts on the memory.
-/
import Derived.Test.YtepnhbicmlfnhacFlowMath
import Derived.Test.YtepnhbicmlfnhacKIntRows
import Derived.Deep.QuietTactic
import Derived.BigQuiet
import Derived.Test.YtepnhbicmlfnhacBoxL
namespace Go.Proofs.Ytepnhbicmlfnhac

def rateB (r d : Int) : Bool := decide (1 ≤ r ∧ r ≤ 20) && decide (1 ≤ d ∧ d ≤ 60)
def flowB (xs : List Int) : Bool := decide (xs.length ≤ 40) && xs.all fun k => decide (0 ≤ k ∧ k ≤ 60)
/-- A list as a flow: nought behind its end. -/
def fl (xs : List Int) (t : Nat) : Int := xs.getD t 0
theorem flowB_len {xs : List Int} (h : flowB xs = true) : xs.length ≤ 40 := by
  unfold flowB at h
  rw [Bool.and_eq_true, decide_eq_true_eq] at h
  exact h.1
theorem flowB_in {xs : List Int} (h : flowB xs = true) (t : Nat) : 0 ≤ fl xs t ∧ fl xs t ≤ 60 := by
  unfold flowB at h
  rw [Bool.and_eq_true, List.all_eq_true] at h
  unfold fl
  by_cases ht : t < xs.length
  · have := h.2 (xs.getD t 0) (by rw [List.getD_eq_getElem?_getD, List.getElem?_eq_getElem ht]; exact List.getElem_mem _)
    rw [decide_eq_true_eq] at this
    exact this
  · rw [List.getD_eq_getElem?_getD, List.getElem?_eq_none (by omega)]
    decide
theorem rateB_in {r d : Int} (h : rateB r d = true) : (1 ≤ r ∧ r ≤ 20) ∧ (1 ≤ d ∧ d ≤ 60) := by
  unfold rateB at h
  rw [Bool.and_eq_true, decide_eq_true_eq, decide_eq_true_eq] at h
  exact h
/-- So many of what goes, and of what waits. -/
def goL (g : Nat → Int) (n : Nat) : List Int := (List.range n).map g
theorem goL_len (g : Nat → Int) (n : Nat) : (goL g n).length = n := by simp [goL]
theorem goL_succ (g : Nat → Int) (n : Nat) : goL g (n + 1) = goL g n ++ [g n] := by simp [goL, List.range_succ]
theorem goL_get {g : Nat → Int} {n i : Nat} (h : i < n) : (goL g n).getD i 0 = g i := by simp [goL, List.getD_eq_getElem?_getD, h]
theorem psum_in {f : Nat → Int} {b : Int} (h : ∀ i, 0 ≤ f i ∧ f i ≤ b) : ∀ n : Nat, 0 ≤ psum f n ∧ psum f n ≤ b * n
  | 0 => by simp [psum]
  | n + 1 => by
    have h1 := psum_in h n
    have h2 := h n
    simp only [psum]
    rw [show ((n + 1 : Nat) : Int) = (n : Int) + 1 by omega, Int.mul_add, Int.mul_one]
    omega
end Go.Proofs.Ytepnhbicmlfnhac
namespace Go.Proofs.Ytepnhbicmlfnhac
open Go.RowKit

set_option maxRecDepth 100000 in
set_option maxHeartbeats 4000000 in
theorem isum8_eq (v : Value) (xs : List Int) (w : World) (hr : KReads w v xs) (hb : ∀ k, k ≤ xs.length → 0 ≤ psum (fl xs) k ∧ psum (fl xs) k ≤ 1000000000) (s : Int) (hs : psum (fl xs) xs.length = s) :
    Calls Try.prog 89 #[v] w fun e w' => e = .returned (.int .i64 s) ∧ w' = w := by
  have HR := hid hr
  have HP := hid hb
  have HS0 := hid hs
  obtain ⟨a, cap, rfl, _, _⟩ := hr
  clear hb hs
  go_enter Try.func89, Try.ntmps89
  go_wp2
  go_loopw [3, 8] (fun t i wr => ∃ k : Nat, k ≤ xs.length ∧ i = .int .i64 k ∧ t = .int .i64 (psum (fl xs) k) ∧ w = wr) (fun _ i _ => xs.length - (intOf i).toNat)
  case atStart => exact ⟨0, by omega, rfl, rfl, rfl⟩
  case round =>
    obtain ⟨k, hk, rfl, rfl, rfl⟩ := hrel
    by_cases hlt : k < xs.length
    · obtain ⟨g, o, cap', e, hc⟩ := HR.out.cells k hlt
      cases e
      have HS : Hid (psum (fl xs) (k + 1) = psum (fl xs) k + fl xs k) := rfl
      have hp1 := HP.out (k + 1) (by omega)
      have hp0 := HP.out k (by omega)
      rw [HS.out] at hp1
      obtain ⟨x, hx⟩ : ∃ x, x = fl xs k := ⟨_, rfl⟩
      have cx : w.cell? ⟨g, o + k, none⟩ = some (.int .i64 x) := by rw [hx]; exact hc k hlt
      obtain ⟨s1, hs1⟩ : ∃ s1, s1 = psum (fl xs) k := ⟨_, rfl⟩
      rw [← hs1, ← hx] at HS hp1
      rw [← hs1] at hp0 ⊢
      have hw1 : IntKind.i64.wrap (s1 + x) = s1 + x := by rw [IntKind.wrap_i64]; omega
      clear hc hx hs1 hp0 hp1
      go_wp2
      go_roundw
      case rel => exact ⟨k + 1, by omega, by go_num, by rw [HS.out], by first | rfl | trivial⟩
      case measure => simp [intOf]; omega
    · obtain rfl : k = xs.length := by omega
      go_wp2
      go_ret
      exact ⟨by rw [← HS0.out]; rfl, rfl⟩
end Go.Proofs.Ytepnhbicmlfnhac
namespace Go.Proofs.Ytepnhbicmlfnhac
open Go.RowKit

set_option maxHeartbeats 2000000 in
theorem sumOf_any (v : Value) (xs : List Int) (w : World) (hr : KReads w v xs) (hl : xs.length ≤ 42) (hb : ∀ t, 0 ≤ fl xs t ∧ fl xs t ≤ 10000) :
    Calls Try.prog 14 #[v] w fun e w' => e = .returned (.int .i64 (psum (fl xs) xs.length)) ∧ w' = w := by
  have HP := hid (psum_in hb)
  have HB := hid hb
  obtain ⟨a, cap, rfl, _, hx⟩ := hr
  have HC : Hid (∀ i, i < xs.length → ∃ g o, a = some ⟨g, o, none⟩ ∧ w.cell? ⟨g, o + i, none⟩ = some (.int .i64 (fl xs i))) := fun i hi => by
    rcases hx with h | ⟨g, o, h1, h2⟩
    · rw [h] at hi; simp at hi
    · exact ⟨g, o, h1, h2 i hi⟩
  clear hx hb
  go_enter Try.func14, Try.ntmps14
  go_wp2
  go_loopw [3, 8] (fun nv iv wr => ∃ k : Nat, k ≤ xs.length ∧ iv = .int .i64 k ∧ nv = .int .i64 (psum (fl xs) k) ∧ w = wr) (fun _ iv _ => xs.length - (intOf iv).toNat)
  case atStart => exact ⟨0, Nat.zero_le _, rfl, rfl, rfl⟩
  case round =>
    obtain ⟨k, hk, rfl, rfl, rfl⟩ := hrel
    by_cases hlt : k < xs.length
    · obtain ⟨g, o, rfl, hc⟩ := HC.out k hlt
      have h1 := HP.out k
      have h2 := HB.out k
      have HS : Hid (psum (fl xs) (k + 1) = psum (fl xs) k + fl xs k) := rfl
      obtain ⟨s, hs⟩ : ∃ s, s = psum (fl xs) k := ⟨_, rfl⟩
      obtain ⟨x, hx⟩ : ∃ x, x = fl xs k := ⟨_, rfl⟩
      rw [← hs] at h1 HS ⊢
      rw [← hx] at h2 HS hc
      have hw : IntKind.i64.wrap (s + x) = s + x := by rw [IntKind.wrap_i64]; omega
      have n0 : (0 : Int) ≤ (k : Int) := by omega
      have n1 : (k : Int) < (xs.length : Int) := by omega
      clear hs hx
      go_wp2
      go_roundw
      case rel => exact ⟨k + 1, by omega, by go_num, by rw [HS.out], by first | rfl | trivial⟩
      case measure => simp [intOf]; omega
    · obtain rfl : k = xs.length := by omega
      go_wp2
      go_ret
      exact ⟨rfl, rfl⟩
theorem take_ne {xs ys : List Int} {k : Nat} (h : xs.getD k 0 ≠ ys.getD k 0) : decide (xs = ys) = false := by
  rw [decide_eq_false_iff_not]
  intro e
  rw [e] at h
  exact h rfl
theorem take_eq {xs ys : List Int} (hl : ys.length = xs.length) (h : ∀ i, i < xs.length → xs.getD i 0 = ys.getD i 0) : decide (xs = ys) = true := by
  rw [decide_eq_true_eq]
  refine List.ext_getElem hl.symm fun i h1 h2 => ?_
  have := h i h1
  simpa [List.getD_eq_getElem?_getD, h1, h2] using this
set_option maxHeartbeats 2000000 in
theorem sameInts_dec (va vb : Value) (xs ys : List Int) (t : Bool) (ht : decide (xs = ys) = t) (hl : ys.length = xs.length) (w : World) (ha : KReads w va xs) (hb : KReads w vb ys) :
    Calls Try.prog 13 #[va, vb] w fun e w' => e = .returned (.bool t) ∧ Below w.heap.size w w' := by
  have HT := hid ht
  have HL := hid hl
  obtain ⟨a, ca, rfl, _, hxa⟩ := ha
  obtain ⟨b, cb, rfl, _, hxb⟩ := hb
  rw [hl] at hxb ⊢
  have hd : ((xs.length : Int) != (xs.length : Int)) = false := by simp
  have HC : Hid (∀ i, i < xs.length → ∃ g o, a = some ⟨g, o, none⟩ ∧ w.cell? ⟨g, o + i, none⟩ = some (.int .i64 (xs.getD i 0))) := fun i hi => by
    rcases hxa with h | ⟨g, o, h1, h2⟩
    · rw [h] at hi; simp at hi
    · exact ⟨g, o, h1, h2 i hi⟩
  have HD : Hid (∀ i, i < xs.length → ∃ g o, b = some ⟨g, o, none⟩ ∧ w.cell? ⟨g, o + i, none⟩ = some (.int .i64 (ys.getD i 0))) := fun i hi => by
    rcases hxb with h | ⟨g, o, h1, h2⟩
    · rw [h] at hl; simp at hl; rw [← hl] at hi; simp at hi
    · exact ⟨g, o, h1, h2 i hi⟩
  clear hxa hxb ht hl
  go_enter Try.func13, Try.ntmps13
  go_wp2
  go_loopw [13] (fun i wr => ∃ k : Nat, k ≤ xs.length ∧ i = .int .i64 k ∧ (∀ i, i < k → xs.getD i 0 = ys.getD i 0) ∧ Below w.heap.size w wr) (fun i _ => xs.length - (intOf i).toNat)
  case atStart => exact ⟨0, Nat.zero_le _, rfl, fun i hi => by omega, Below.refl _ _⟩
  case round =>
    obtain ⟨k, hk, rfl, hal, hbel⟩ := hrel
    have HA := hid hal
    have HB := hid hbel
    clear hal hbel
    by_cases hlt : k < xs.length
    · obtain ⟨g, o, rfl, hc⟩ := HC.out k hlt
      obtain ⟨h, p, rfl, hd'⟩ := HD.out k hlt
      have h1 := (HB.out.cell (p := ⟨g, o + k, none⟩) (lt_of_cell hc)).trans hc
      have h2 := (HB.out.cell (p := ⟨h, p + k, none⟩) (lt_of_cell hd')).trans hd'
      obtain ⟨x, hx⟩ : ∃ x, x = xs.getD k 0 := ⟨_, rfl⟩
      obtain ⟨y, hy⟩ : ∃ y, y = ys.getD k 0 := ⟨_, rfl⟩
      rw [← hx] at h1
      rw [← hy] at h2
      have n0 : (0 : Int) ≤ (k : Int) := by omega
      have n1 : (k : Int) < (xs.length : Int) := by omega
      by_cases e : x = y
      · have HN : Hid (∀ i, i < k + 1 → xs.getD i 0 = ys.getD i 0) := fun i hi => by
          by_cases hik : i = k
          · rw [hik, ← hx, ← hy]; exact e
          · exact HA.out i (by omega)
        have de : (x != y) = false := by rw [e]; simp
        clear hc hd' hx hy e
        go_wp2_with fail
        go_big_region
        go_wp2
        go_roundw
        case rel => exact ⟨k + 1, by omega, by go_num, HN.out, HB.out.drew⟩
        case measure => simp [intOf]; omega
      · have HV : Hid (t = false) := by show _ = _; rw [← HT.out]; exact take_ne (k := k) (by rw [← hx, ← hy]; exact e)
        have de : (x != y) = true := by simpa using e
        clear hc hd' hx hy e
        go_wp2_with fail
        go_big_region
        go_wp2
        go_ret
        exact ⟨by rw [HV.out]; rfl, HB.out.drew⟩
    · obtain rfl : k = xs.length := by omega
      have HV : Hid (t = true) := by show _ = _; rw [← HT.out]; exact take_eq HL.out HA.out
      go_wp2
      go_ret
      exact ⟨by rw [HV.out]; rfl, HB.out⟩
end Go.Proofs.Ytepnhbicmlfnhac
namespace Go.Proofs.Ytepnhbicmlfnhac
open Go.RowKit

theorem tu_form {w : World} {v : Value} {D : TuD} (h : TuReads w v D) : ∃ a0 k0 a1 k1 a2 k2 a3 k3, v = .agg #[.slice a0 D.f0.length k0, .slice a1 D.f1.length k1, .slice a2 D.f2.length k2, .slice a3 D.f3.length k3, .int .i64 D.f4] ∧ KReads w (.slice a0 D.f0.length k0) D.f0 ∧ QReads w (.slice a1 D.f1.length k1) D.f1 ∧ KReads w (.slice a2 D.f2.length k2) D.f2 ∧ KReads w (.slice a3 D.f3.length k3) D.f3 := by
  obtain ⟨v0, v1, v2, v3, rfl, h0, h1, h2, h3⟩ := h
  obtain ⟨a0, k0, e0, _⟩ := id h0
  obtain ⟨a1, k1, e1, _⟩ := id h1
  obtain ⟨a2, k2, e2, _⟩ := id h2
  obtain ⟨a3, k3, e3, _⟩ := id h3
  subst e0 e1 e2 e3
  exact ⟨a0, k0, a1, k1, a2, k2, a3, k3, rfl, h0, h1, h2, h3⟩
theorem kcell_at {w : World} {a : Option Addr} {len cap : Nat} {xs : List Int} (h : KReads w (.slice a len cap) xs) {k : Nat} (hk : k < xs.length) : ∃ g o, a = some ⟨g, o, none⟩ ∧ w.cell? ⟨g, o + k, none⟩ = some (.int .i64 (fl xs k)) := by
  obtain ⟨g, o, cap', e, hc⟩ := h.cells k hk
  cases e
  exact ⟨g, o, rfl, hc k hk⟩
theorem kpart {w : World} {a : Option Addr} {cap : Nat} {xs ys : List Int} (h : KReads w (.slice a (xs ++ ys).length cap) (xs ++ ys)) : KReads w (.slice a xs.length cap) xs := by
  obtain ⟨a', c', e, hl, hx⟩ := h
  cases e
  rw [List.length_append] at hl
  refine ⟨a, cap, rfl, by omega, ?_⟩
  rcases hx with hx | ⟨b, off, rfl, hc⟩
  · exact .inl (List.append_eq_nil_iff.1 hx).1
  · refine .inr ⟨b, off, rfl, fun i hi => ?_⟩
    have := hc i (by rw [List.length_append]; omega)
    have e2 : (xs ++ ys).getD i 0 = xs.getD i 0 := by rw [List.getD_eq_getElem?_getD, List.getElem?_append_left hi, ← List.getD_eq_getElem?_getD]
    rw [e2] at this
    exact this
theorem krest {w : World} {b off cap : Nat} {xs ys : List Int} (h : KReads w (.slice (some ⟨b, off, none⟩) (xs ++ ys).length cap) (xs ++ ys)) : KReads w (.slice (some ⟨b, off + xs.length, none⟩) ys.length (cap - xs.length)) ys := by
  obtain ⟨a', c', e, hl, hx⟩ := h
  cases e
  rw [List.length_append] at hl
  refine ⟨_, _, rfl, by omega, ?_⟩
  rcases hx with hx | ⟨b', off', e, hc⟩
  · exact .inl (List.append_eq_nil_iff.1 hx).2
  · cases e
    refine .inr ⟨b, off + xs.length, rfl, fun i hi => ?_⟩
    have := hc (xs.length + i) (by rw [List.length_append]; omega)
    have e2 : (xs ++ ys).getD (xs.length + i) 0 = ys.getD i 0 := by rw [List.getD_eq_getElem?_getD, List.getElem?_append_right (by omega), Nat.add_sub_cancel_left, ← List.getD_eq_getElem?_getD]
    rw [e2, ← Nat.add_assoc] at this
    exact this
end Go.Proofs.Ytepnhbicmlfnhac
