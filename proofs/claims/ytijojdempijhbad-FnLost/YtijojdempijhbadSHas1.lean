/-
  spec.l1Has: whether a number is among others. Nothing is written.
  spec.l11Order: whether letters are unlike and below many. Nothing is written.
  spec.l1Most: the greater of two. Nothing is written.
  spec.LateBy: the most by which a letter comes late. Nothing is written.
-/
import Derived.Test.YtijojdempijhbadKIntRows
import Derived.Test.YtijojdempijhbadFlowFns
import Derived.Test.YtijojdempijhbadSdApp
import Derived.Test.YtijojdempijhbadInts
namespace Go.Proofs.Ytijojdempijhbad
open Go.RowKit

theorem has_take {xs : List Int} {n : Int} {k : Nat} (hk : k < xs.length) : (xs.take (k + 1)).contains n = ((xs.take k).contains n || decide (xs.getD k 0 = n)) := by
  rw [List.take_succ_eq_append_getElem hk]
  simp only [List.contains_eq_mem, List.mem_append, List.mem_singleton, List.getD_eq_getElem?_getD, List.getElem?_eq_getElem hk, Option.getD_some]
  rw [Bool.eq_iff_iff]
  simp only [decide_eq_true_eq, Bool.or_eq_true]
  constructor
  · rintro (h | h)
    · exact .inl h
    · exact .inr h.symm
  · rintro (h | h)
    · exact .inl h
    · exact .inr h.symm
set_option maxHeartbeats 1000000 in
theorem l1Has_eq (v : Value) (xs : List Int) (n : Int) (t : Bool) (h : xs.contains n = t) (w : World) (hr : KReads w v xs) :
    Calls Try.prog 174 #[v, .int .i64 n] w fun e w' => e = .returned (.bool t) ∧ w' = w := by
  have HT := hid h
  clear h
  have HR := hid hr
  obtain ⟨a, cap, rfl, _, _⟩ := hr
  go_enter Try.func174, Try.ntmps174
  go_wp2
  go_loopw [9] (fun i wr => ∃ k : Nat, k ≤ xs.length ∧ i = .int .i64 k ∧ (xs.take k).contains n = false ∧ w = wr) (fun i _ => xs.length - (intOf i).toNat)
  case atStart => exact ⟨0, Nat.zero_le _, rfl, rfl, rfl⟩
  case round =>
    obtain ⟨k, hk, rfl, hno, rfl⟩ := hrel
    have HN := hid hno
    clear hno
    by_cases hlt : k < xs.length
    · obtain ⟨g, o, cap', e, hc⟩ := HR.out.cells k hlt
      cases e
      have HS := hid (has_take (n := n) hlt)
      obtain ⟨p, hp⟩ : ∃ p, p = xs.getD k 0 := ⟨_, rfl⟩
      have c0 : w.cell? ⟨g, o + k, none⟩ = some (.int .i64 (xs.getD k 0)) := hc k hlt
      rw [← hp] at c0
      have HS' : Hid ((xs.take (k + 1)).contains n = decide (p = n)) := by show _ = _; rw [HS.out, HN.out, hp]; rfl
      have HM : Hid (p ∈ xs) := by show _ ∈ _; rw [hp, List.getD_eq_getElem?_getD, List.getElem?_eq_getElem hlt]; exact List.getElem_mem _
      clear hc hp HS
      by_cases he : p = n
      · have hv : Hid (t = true) := by show _ = _; rw [← HT.out, List.contains_eq_mem, decide_eq_true_eq, ← he]; exact HM.out
        subst he
        go_wp2
        go_ret
        exact ⟨by rw [hv.out]; rfl, rfl⟩
      · have H1 : Hid ((xs.take (k + 1)).contains n = false) := by show _ = _; rw [HS'.out, decide_eq_false_iff_not]; exact he
        go_wp2
        go_roundw
        case rel => exact ⟨k + 1, by omega, by go_num, H1.out, by first | rfl | trivial⟩
        case measure => simp [intOf]; omega
    · have hv : Hid (t = false) := by show _ = _; have := HN.out; rw [List.take_of_length_le (by omega), HT.out] at this; exact this
      go_wp2
      go_ret
      exact ⟨by rw [hv.out]; rfl, rfl⟩
theorem KReads.front {w : World} {b o cap : Nat} {xs : List Int} (h : KReads w (.slice (some ⟨b, o, none⟩) xs.length cap) xs) (k : Nat) (hk : k ≤ xs.length) : KReads w (.slice (some ⟨b, o, none⟩) k cap) (xs.take k) := by
  obtain ⟨a, cap', e, hl, hc⟩ := h
  injection e with e1 e2 e3
  subst e1
  subst e3
  have hlen : (xs.take k).length = k := by rw [List.length_take]; omega
  refine ⟨_, _, by rw [hlen], by rw [hlen]; omega, ?_⟩
  rcases hc with rfl | ⟨b', o', e, hc⟩
  · exact .inl (by simp)
  · cases e
    refine .inr ⟨b, o, rfl, ?_⟩
    intro i hi
    rw [hlen] at hi
    have := hc i (by omega)
    have e2 : (xs.take k).getD i 0 = xs.getD i 0 := by simp [List.getD_eq_getElem?_getD, hi]
    rw [e2]
    exact this
end Go.Proofs.Ytijojdempijhbad
namespace Go.Proofs.Ytijojdempijhbad
open Go.RowKit

set_option maxRecDepth 100000 in
set_option maxHeartbeats 4000000 in
theorem soru_eq (v : Value) (xs : List Int) (many : Int) (t : Bool) (h : oruB xs many = t) (hm : 0 ≤ many ∧ many ≤ 60) (w : World) (hr : KReads w v xs) :
    Calls Try.prog 136 #[v, .int .i64 many] w fun e w' => e = .returned (.bool t) ∧ w' = w := by
  have HT := hid h
  have HR := hid hr
  obtain ⟨a, cap, rfl, hl, _⟩ := hr
  obtain ⟨m1, hm1⟩ : ∃ m1, m1 = many - 1 := ⟨_, rfl⟩
  have hw1 : IntKind.i64.wrap (many - 1) = m1 := by rw [hm1, IntKind.wrap_i64]; omega
  have HM := hid hm1
  clear h hm1
  go_enter Try.func136, Try.ntmps136
  go_wp2
  go_loopw [9] (fun i wr => ∃ k : Nat, k ≤ xs.length ∧ i = .int .i64 k ∧ oruU xs many k = true ∧ w = wr) (fun i _ => xs.length - (intOf i).toNat)
  case atStart => exact ⟨0, Nat.zero_le _, rfl, rfl, rfl⟩
  case round =>
    obtain ⟨k, hk, rfl, hu, rfl⟩ := hrel
    have HU := hid hu
    clear hu
    by_cases hlt : k < xs.length
    · obtain ⟨g, o, cap', e, hc⟩ := HR.out.cells k hlt
      cases e
      obtain ⟨x, hx⟩ : ∃ x, x = fl xs k := ⟨_, rfl⟩
      have cx : w.cell? ⟨g, o + k, none⟩ = some (.int .i64 x) := by rw [hx]; exact hc k hlt
      obtain ⟨b1, hb1⟩ : ∃ b, decide (0 ≤ x ∧ x ≤ m1) = b := ⟨_, rfl⟩
      obtain ⟨b2, hb2⟩ : ∃ b, (xs.take k).contains x = b := ⟨_, rfl⟩
      have HB1 := hid hb1
      have HB2 := hid hb2
      have HS : Hid (oruU xs many (k + 1) = (b1 && !b2)) := by
        show (oruU xs many k && _) = _
        rw [HU.out, ← hx, ← HM.out, hb1, hb2]; rfl
      have HF : Hid (oruU xs many (k + 1) = false → t = false) := fun h => by rw [← HT.out]; exact oruU_no h _ (by omega)
      have FR := hid (HR.out.front k hk)
      have m0 : (0 : Int) ≤ (k : Int) := by omega
      have n1 : (k : Int) < (xs.length : Int) := by omega
      have n2 : (k : Int) ≤ (cap : Int) := by omega
      have n3 : (k : Int) ≤ (xs.length : Int) := by omega
      clear hx hb1 hb2 hc
      go_wp2_with fail
      refine (l1In_eq x 0 m1 b1 HB1.out _).mono ?_
      rintro e w' ⟨rfl, hw⟩; obtain rfl := hw.symm
      cases b1
      · have HV : Hid (t = false) := HF.out HS.out
        go_wp2
        go_ret
        exact ⟨by rw [HV.out]; rfl, rfl⟩
      go_wp2_with fail
      refine (l1Has_eq _ (xs.take k) x b2 HB2.out _ FR.out).mono ?_
      rintro e w' ⟨rfl, hw⟩; obtain rfl := hw.symm
      cases b2
      · go_wp2
        go_roundw
        case rel => exact ⟨k + 1, by omega, by go_num, HS.out, by first | rfl | trivial⟩
        case measure => simp [intOf]; omega
      · have HV : Hid (t = false) := HF.out HS.out
        go_wp2
        go_ret
        exact ⟨by rw [HV.out]; rfl, rfl⟩
    · have HV : Hid (t = true) := by show _ = _; rw [← HT.out]; have h := HU.out; rw [show k = xs.length by omega] at h; exact h
      go_wp2
      go_ret
      exact ⟨by rw [HV.out]; rfl, rfl⟩
end Go.Proofs.Ytijojdempijhbad
namespace Go.Proofs.Ytijojdempijhbad
open Go.RowKit

theorem smost_eq (x y r : Int) (hr : max x y = r) (w : World) : Calls Try.prog 137 #[.int .i64 x, .int .i64 y] w fun e w' => e = .returned (.int .i64 r) ∧ w' = w := by
  by_cases h : y < x
  · have hv : Hid (r = x) := by show _ = _; omega
    clear hr
    go_enter Try.func137, Try.ntmps137
    go_wp2
    go_ret
    exact ⟨by rw [hv.out]; rfl, rfl⟩
  · have hv : Hid (r = y) := by show _ = _; omega
    clear hr
    go_enter Try.func137, Try.ntmps137
    go_wp2
    go_ret
    exact ⟨by rw [hv.out]; rfl, rfl⟩
end Go.Proofs.Ytijojdempijhbad
namespace Go.Proofs.Ytijojdempijhbad
open Go.RowKit

set_option maxRecDepth 100000 in
set_option maxHeartbeats 4000000 in
theorem slate11_any (v : Value) (xs : List Int) (w : World) (hr : KReads w v xs) (r : Int) (t : Bool) (hx : lateN xs = r) (ht : oruB xs 60 = t) :
    Calls Try.prog 50 #[v] w fun e w' => e = .returned (.tuple #[.int .i64 r, .bool t]) ∧ Below w.heap.size w w' := by
  have HX := hid hx
  have HT := hid ht
  have HR := hid hr
  obtain ⟨a, cap, rfl, hl, _⟩ := hr
  clear hx ht
  go_enter Try.func50, Try.ntmps50
  go_wp2_with fail
  refine (soru_eq _ xs 60 t HT.out (by omega) _ HR.out).mono ?_
  rintro e w' ⟨rfl, hw⟩; obtain rfl := hw.symm
  cases t
  · have HV : Hid (r = 0) := by show _ = _; rw [← HX.out]; unfold lateN; rw [HT.out]; rfl
    go_wp2
    go_ret2
    exact ⟨by rw [HV.out]; rfl, Below.refl _ _⟩
  have HV : Hid (r = mostU xs xs.length) := by show _ = _; rw [← HX.out]; unfold lateN; rw [HT.out]; rfl
  have HI : Hid (∀ i, i < xs.length → 0 ≤ fl xs i ∧ fl xs i ≤ 59) := fun i hi => by have := oruU_at xs.length HT.out i hi; omega
  go_wp2
  go_loopw [4, 5, 13] (fun mv tv i wr => ∃ k : Nat, k ≤ xs.length ∧ i = .int .i64 k ∧ mv = .int .i64 (mostU xs k) ∧ tv = .int .i64 (topU xs k) ∧ w = wr) (fun _ _ i _ => xs.length - (intOf i).toNat)
  case atStart => exact ⟨0, Nat.zero_le _, rfl, rfl, rfl, rfl⟩
  case round =>
    obtain ⟨k, hk, rfl, rfl, rfl, rfl⟩ := hrel
    by_cases hlt : k < xs.length
    · obtain ⟨g, o, cap', e, hc⟩ := HR.out.cells k hlt
      cases e
      obtain ⟨x, hx⟩ : ∃ x, x = fl xs k := ⟨_, rfl⟩
      have cx : w.cell? ⟨g, o + k, none⟩ = some (.int .i64 x) := by rw [hx]; exact hc k hlt
      have hb := HI.out k hlt
      have htp := topU_in k fun i hi => HI.out i (by omega)
      obtain ⟨mo, hmo⟩ : ∃ y, y = mostU xs k := ⟨_, rfl⟩
      obtain ⟨tp, htop⟩ : ∃ y, y = topU xs k := ⟨_, rfl⟩
      rw [← hmo, ← htop] at htp
      rw [← hx] at hb
      obtain ⟨df, hdf⟩ : ∃ y, y = tp - x := ⟨_, rfl⟩
      have hw1 : IntKind.i64.wrap (tp - x) = df := by rw [hdf, IntKind.wrap_i64]; omega
      have HM : Hid (mostU xs (k + 1) = max mo df) := by rw [hdf, hmo, htop, hx]; exact rfl
      have HTP : Hid (topU xs (k + 1) = max tp x) := by rw [htop, hx]; exact rfl
      rw [← hmo, ← htop]
      have m0 : (0 : Int) ≤ (k : Int) := by omega
      have n1 : (k : Int) < (xs.length : Int) := by omega
      clear hx hc hb htp hmo htop hdf
      go_wp2_with fail
      refine (smost_eq mo df _ rfl _).mono ?_
      rintro e w' ⟨rfl, hw⟩; obtain rfl := hw.symm
      go_wp2_with fail
      refine (smost_eq tp x _ rfl _).mono ?_
      rintro e w' ⟨rfl, hw⟩; obtain rfl := hw.symm
      go_wp2
      go_roundw
      case rel => exact ⟨k + 1, by omega, by go_num, by rw [HM.out], by rw [HTP.out], by first | rfl | trivial⟩
      case measure => simp [intOf]; omega
    · obtain rfl : k = xs.length := by omega
      rw [← HV.out]
      go_wp2
      go_ret2
      exact ⟨rfl, Below.refl _ _⟩
end Go.Proofs.Ytijojdempijhbad
