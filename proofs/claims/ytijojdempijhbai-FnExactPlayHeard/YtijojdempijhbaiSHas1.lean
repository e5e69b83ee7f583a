/-
  spec.l1Has: whether a number is among others. Nothing is written.
  spec.l1In: whether a number lies between two. Nothing is written.
  spec.NewSender: a sender that has sent so many letters. Nothing old is written.
  spec.l11Order: whether letters are unlike and below many. Nothing is written.
-/
import Derived.Test.YtijojdempijhbaiKIntRows
import Derived.Test.YtijojdempijhbaiInts
import Derived.Test.YtijojdempijhbaiSdBox
import Derived.Test.YtijojdempijhbaiFlowFns
namespace Go.Proofs.Ytijojdempijhbai
open Go.RowKit

theorem has_take {xs : List Int} {n : Int} {k : Nat} (hk : k < xs.length) : (xs.take (k + 1)).contains n = ((xs.take k).contains n || decide (xs.getD k 0 = n)) := by
  rw [List.take_succ_eq_append_getElem hk]
  simp only [List.contains_eq_mem, List.mem_append, List.mem_singleton, List.getD_eq_getElem?_getD, List.getElem?_eq_getElem hk, Option.getD_some]
  rw [Bool.eq_iff_iff]
  simp only [decide_eq_true_eq, Bool.or_eq_true]
  constructor
  · rintro (h | h)
    · exact .inl h
    · exact .inr h.symm
  · rintro (h | h)
    · exact .inl h
    · exact .inr h.symm
set_option maxHeartbeats 1000000 in
theorem l1Has_eq (v : Value) (xs : List Int) (n : Int) (t : Bool) (h : xs.contains n = t) (w : World) (hr : KReads w v xs) :
    Calls Try.prog 57 #[v, .int .i64 n] w fun e w' => e = .returned (.bool t) ∧ w' = w := by
  have HT := hid h
  clear h
  have HR := hid hr
  obtain ⟨a, cap, rfl, _, _⟩ := hr
  go_enter Try.func57, Try.ntmps57
  go_wp2
  go_loopw [9] (fun i wr => ∃ k : Nat, k ≤ xs.length ∧ i = .int .i64 k ∧ (xs.take k).contains n = false ∧ w = wr) (fun i _ => xs.length - (intOf i).toNat)
  case atStart => exact ⟨0, Nat.zero_le _, rfl, rfl, rfl⟩
  case round =>
    obtain ⟨k, hk, rfl, hno, rfl⟩ := hrel
    have HN := hid hno
    clear hno
    by_cases hlt : k < xs.length
    · obtain ⟨g, o, cap', e, hc⟩ := HR.out.cells k hlt
      cases e
      have HS := hid (has_take (n := n) hlt)
      obtain ⟨p, hp⟩ : ∃ p, p = xs.getD k 0 := ⟨_, rfl⟩
      have c0 : w.cell? ⟨g, o + k, none⟩ = some (.int .i64 (xs.getD k 0)) := hc k hlt
      rw [← hp] at c0
      have HS' : Hid ((xs.take (k + 1)).contains n = decide (p = n)) := by show _ = _; rw [HS.out, HN.out, hp]; rfl
      have HM : Hid (p ∈ xs) := by show _ ∈ _; rw [hp, List.getD_eq_getElem?_getD, List.getElem?_eq_getElem hlt]; exact List.getElem_mem _
      clear hc hp HS
      by_cases he : p = n
      · have hv : Hid (t = true) := by show _ = _; rw [← HT.out, List.contains_eq_mem, decide_eq_true_eq, ← he]; exact HM.out
        subst he
        go_wp2
        go_ret
        exact ⟨by rw [hv.out]; rfl, rfl⟩
      · have H1 : Hid ((xs.take (k + 1)).contains n = false) := by show _ = _; rw [HS'.out, decide_eq_false_iff_not]; exact he
        go_wp2
        go_roundw
        case rel => exact ⟨k + 1, by omega, by go_num, H1.out, by first | rfl | trivial⟩
        case measure => simp [intOf]; omega
    · have hv : Hid (t = false) := by show _ = _; have := HN.out; rw [List.take_of_length_le (by omega), HT.out] at this; exact this
      go_wp2
      go_ret
      exact ⟨by rw [hv.out]; rfl, rfl⟩
theorem KReads.front {w : World} {b o cap : Nat} {xs : List Int} (h : KReads w (.slice (some ⟨b, o, none⟩) xs.length cap) xs) (k : Nat) (hk : k ≤ xs.length) : KReads w (.slice (some ⟨b, o, none⟩) k cap) (xs.take k) := by
  obtain ⟨a, cap', e, hl, hc⟩ := h
  injection e with e1 e2 e3
  subst e1
  subst e3
  have hlen : (xs.take k).length = k := by rw [List.length_take]; omega
  refine ⟨_, _, by rw [hlen], by rw [hlen]; omega, ?_⟩
  rcases hc with rfl | ⟨b', o', e, hc⟩
  · exact .inl (by simp)
  · cases e
    refine .inr ⟨b, o, rfl, ?_⟩
    intro i hi
    rw [hlen] at hi
    have := hc i (by omega)
    have e2 : (xs.take k).getD i 0 = xs.getD i 0 := by simp [List.getD_eq_getElem?_getD, hi]
    rw [e2]
    exact this
end Go.Proofs.Ytijojdempijhbai
namespace Go.Proofs.Ytijojdempijhbai
open Go.RowKit

theorem l1In_eq (n lo hi : Int) (t : Bool) (h : decide (lo ≤ n ∧ n ≤ hi) = t) (w : World) : Calls Try.prog 56 #[.int .i64 n, .int .i64 lo, .int .i64 hi] w fun e w' => e = .returned (.bool t) ∧ w' = w := by
  by_cases h1 : lo ≤ n
  · by_cases h2 : n ≤ hi
    · have hv : Hid (t = true) := by show _ = _; rw [← h]; simp [h1, h2]
      clear h
      go_enter Try.func56, Try.ntmps56
      go_wp2
      go_ret
      exact ⟨by rw [hv.out]; rfl, rfl⟩
    · have hv : Hid (t = false) := by show _ = _; rw [← h]; simp [h2]
      clear h
      go_enter Try.func56, Try.ntmps56
      go_wp2
      go_ret
      exact ⟨by rw [hv.out]; rfl, rfl⟩
  · have hv : Hid (t = false) := by show _ = _; rw [← h]; simp [h1]
    clear h
    go_enter Try.func56, Try.ntmps56
    go_wp2
    go_ret
    exact ⟨by rw [hv.out]; rfl, rfl⟩
end Go.Proofs.Ytijojdempijhbai
namespace Go.Proofs.Ytijojdempijhbai
open Go.RowKit

set_option maxRecDepth 100000 in
set_option maxHeartbeats 4000000 in
theorem snewSd_any (n : Int) (w : World) (X : SdD) (t : Bool) (hX : newSd n = X) (ht : newSdB n = t) :
    Calls Try.prog 42 #[.int .i64 n] w fun e w' => ∃ u0, e = .returned (.tuple #[u0, .bool t]) ∧ SdOwn (Iv w.heap.size w'.heap.size) w' u0 X ∧ Below w.heap.size w w' := by
  have HX := hid hX
  have HT := hid ht
  obtain ⟨PR, BR, hsR⟩ := box_three (w := w) (.int .i64 0) (.slice none 0 0) (.slice none 0 0) 57
  obtain ⟨W, hW⟩ : ∃ W, W = w.alloc (.cells #[.int .i64 0, .slice none 0 0, .slice none 0 0] 57) := ⟨_, rfl⟩
  rw [← hW] at PR BR hsR
  have HR := hid PR
  have HB := hid BR
  have HW := hid hW
  clear hX ht PR BR hW
  go_enter Try.func42, Try.ntmps42
  go_wp2_with fail
  rw [← HW.out]
  clear HW
  refine (l1In_eq n 0 60 t HT.out _).mono ?_
  rintro e w' ⟨rfl, hw⟩; obtain rfl := hw.symm
  obtain ⟨⟨y0, f0⟩, ⟨y1, f1⟩, y2, f2⟩ := HR.out.form3
  cases t
  · have HV : Hid (X = ⟨0, [], []⟩) := by show _ = _; rw [← HX.out]; unfold newSd; rw [HT.out]; rfl
    have LF := sd_leaf HR.out HB.out (Nat.le_refl _) (sdOwn_bare (Iv (w.heap.size + 1) (w.heap.size + 1)) W 0) (by omega) (by omega) (by omega)
    have HO := hid LF.1
    have HBB := hid LF.2.1
    obtain ⟨t0, t1, t2⟩ := LF.2.2
    clear LF
    go_wp2
    exact bodyPost_ret (v := .tuple #[.agg #[.int .i64 0, .slice none 0 0, .slice none 0 0], .bool false]) (by simp [results, Try.results42, go_sem, t0, t1, t2]) rfl ⟨_, rfl, by rw [HV.out]; exact HO.out, HBB.out⟩
  · have HV : Hid (X = ⟨n, [], []⟩) := by show _ = _; rw [← HX.out]; unfold newSd; rw [HT.out]; rfl
    have LF := sd_leaf HR.out HB.out (Nat.le_refl _) (sdOwn_bare (Iv (w.heap.size + 1) (w.heap.size + 1)) W n) (by omega) (by omega) (by omega)
    have HO := hid LF.1
    have HBB := hid LF.2.1
    obtain ⟨t0, t1, t2⟩ := LF.2.2
    clear LF
    go_wp2
    exact bodyPost_ret (v := .tuple #[.agg #[.int .i64 n, .slice none 0 0, .slice none 0 0], .bool true]) (by simp [results, Try.results42, go_sem, t0, t1, t2]) rfl ⟨_, rfl, by rw [HV.out]; exact HO.out, HBB.out⟩
end Go.Proofs.Ytijojdempijhbai
namespace Go.Proofs.Ytijojdempijhbai
open Go.RowKit

set_option maxRecDepth 100000 in
set_option maxHeartbeats 4000000 in
theorem soru_eq (v : Value) (xs : List Int) (many : Int) (t : Bool) (h : oruB xs many = t) (hm : 0 ≤ many ∧ many ≤ 60) (w : World) (hr : KReads w v xs) :
    Calls Try.prog 33 #[v, .int .i64 many] w fun e w' => e = .returned (.bool t) ∧ w' = w := by
  have HT := hid h
  have HR := hid hr
  obtain ⟨a, cap, rfl, hl, _⟩ := hr
  obtain ⟨m1, hm1⟩ : ∃ m1, m1 = many - 1 := ⟨_, rfl⟩
  have hw1 : IntKind.i64.wrap (many - 1) = m1 := by rw [hm1, IntKind.wrap_i64]; omega
  have HM := hid hm1
  clear h hm1
  go_enter Try.func33, Try.ntmps33
  go_wp2
  go_loopw [9] (fun i wr => ∃ k : Nat, k ≤ xs.length ∧ i = .int .i64 k ∧ oruU xs many k = true ∧ w = wr) (fun i _ => xs.length - (intOf i).toNat)
  case atStart => exact ⟨0, Nat.zero_le _, rfl, rfl, rfl⟩
  case round =>
    obtain ⟨k, hk, rfl, hu, rfl⟩ := hrel
    have HU := hid hu
    clear hu
    by_cases hlt : k < xs.length
    · obtain ⟨g, o, cap', e, hc⟩ := HR.out.cells k hlt
      cases e
      obtain ⟨x, hx⟩ : ∃ x, x = fl xs k := ⟨_, rfl⟩
      have cx : w.cell? ⟨g, o + k, none⟩ = some (.int .i64 x) := by rw [hx]; exact hc k hlt
      obtain ⟨b1, hb1⟩ : ∃ b, decide (0 ≤ x ∧ x ≤ m1) = b := ⟨_, rfl⟩
      obtain ⟨b2, hb2⟩ : ∃ b, (xs.take k).contains x = b := ⟨_, rfl⟩
      have HB1 := hid hb1
      have HB2 := hid hb2
      have HS : Hid (oruU xs many (k + 1) = (b1 && !b2)) := by
        show (oruU xs many k && _) = _
        rw [HU.out, ← hx, ← HM.out, hb1, hb2]; rfl
      have HF : Hid (oruU xs many (k + 1) = false → t = false) := fun h => by rw [← HT.out]; exact oruU_no h _ (by omega)
      have FR := hid (HR.out.front k hk)
      have m0 : (0 : Int) ≤ (k : Int) := by omega
      have n1 : (k : Int) < (xs.length : Int) := by omega
      have n2 : (k : Int) ≤ (cap : Int) := by omega
      have n3 : (k : Int) ≤ (xs.length : Int) := by omega
      clear hx hb1 hb2 hc
      go_wp2_with fail
      refine (l1In_eq x 0 m1 b1 HB1.out _).mono ?_
      rintro e w' ⟨rfl, hw⟩; obtain rfl := hw.symm
      cases b1
      · have HV : Hid (t = false) := HF.out HS.out
        go_wp2
        go_ret
        exact ⟨by rw [HV.out]; rfl, rfl⟩
      go_wp2_with fail
      refine (l1Has_eq _ (xs.take k) x b2 HB2.out _ FR.out).mono ?_
      rintro e w' ⟨rfl, hw⟩; obtain rfl := hw.symm
      cases b2
      · go_wp2
        go_roundw
        case rel => exact ⟨k + 1, by omega, by go_num, HS.out, by first | rfl | trivial⟩
        case measure => simp [intOf]; omega
      · have HV : Hid (t = false) := HF.out HS.out
        go_wp2
        go_ret
        exact ⟨by rw [HV.out]; rfl, rfl⟩
    · have HV : Hid (t = true) := by show _ = _; rw [← HT.out]; have h := HU.out; rw [show k = xs.length by omega] at h; exact h
      go_wp2
      go_ret
      exact ⟨by rw [HV.out]; rfl, rfl⟩
end Go.Proofs.Ytijojdempijhbai
