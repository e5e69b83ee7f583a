/-
  spec.l1Has: whether a number is among others. Nothing is written.
  spec.l11Order: whether letters are unlike and below many. Nothing is written.
  spec.l2Tell: spans, where they are not too many; the world stays.
  spec.AcksOf: spans of all letters, in memory of their own. Nothing old is written.
-/
import Derived.Test.YtnkpboobfkjibadKIntRows
import Derived.Test.YtnkpboobfkjibadFlowFns
import Derived.Test.YtnkpboobfkjibadSIn
import Derived.Test.YtnkpboobfkjibadSpans
import Derived.Test.YtnkpboobfkjibadSAdd
import Derived.Test.YtnkpboobfkjibadKSpanConv
namespace Go.Proofs.Ytnkpboobfkjibad
open Go.RowKit

theorem has_take {xs : List Int} {n : Int} {k : Nat} (hk : k < xs.length) : (xs.take (k + 1)).contains n = ((xs.take k).contains n || decide (xs.getD k 0 = n)) := by
  rw [List.take_succ_eq_append_getElem hk]
  simp only [List.contains_eq_mem, List.mem_append, List.mem_singleton, List.getD_eq_getElem?_getD, List.getElem?_eq_getElem hk, Option.getD_some]
  rw [Bool.eq_iff_iff]
  simp only [decide_eq_true_eq, Bool.or_eq_true]
  constructor
  · rintro (h | h)
    · exact .inl h
    · exact .inr h.symm
  · rintro (h | h)
    · exact .inl h
    · exact .inr h.symm
set_option maxHeartbeats 1000000 in
theorem l1Has_eq (v : Value) (xs : List Int) (n : Int) (t : Bool) (h : xs.contains n = t) (w : World) (hr : KReads w v xs) :
    Calls Try.prog 174 #[v, .int .i64 n] w fun e w' => e = .returned (.bool t) ∧ w' = w := by
  have HT := hid h
  clear h
  have HR := hid hr
  obtain ⟨a, cap, rfl, _, _⟩ := hr
  go_enter Try.func174, Try.ntmps174
  go_wp2
  go_loopw [9] (fun i wr => ∃ k : Nat, k ≤ xs.length ∧ i = .int .i64 k ∧ (xs.take k).contains n = false ∧ w = wr) (fun i _ => xs.length - (intOf i).toNat)
  case atStart => exact ⟨0, Nat.zero_le _, rfl, rfl, rfl⟩
  case round =>
    obtain ⟨k, hk, rfl, hno, rfl⟩ := hrel
    have HN := hid hno
    clear hno
    by_cases hlt : k < xs.length
    · obtain ⟨g, o, cap', e, hc⟩ := HR.out.cells k hlt
      cases e
      have HS := hid (has_take (n := n) hlt)
      obtain ⟨p, hp⟩ : ∃ p, p = xs.getD k 0 := ⟨_, rfl⟩
      have c0 : w.cell? ⟨g, o + k, none⟩ = some (.int .i64 (xs.getD k 0)) := hc k hlt
      rw [← hp] at c0
      have HS' : Hid ((xs.take (k + 1)).contains n = decide (p = n)) := by show _ = _; rw [HS.out, HN.out, hp]; rfl
      have HM : Hid (p ∈ xs) := by show _ ∈ _; rw [hp, List.getD_eq_getElem?_getD, List.getElem?_eq_getElem hlt]; exact List.getElem_mem _
      clear hc hp HS
      by_cases he : p = n
      · have hv : Hid (t = true) := by show _ = _; rw [← HT.out, List.contains_eq_mem, decide_eq_true_eq, ← he]; exact HM.out
        subst he
        go_wp2
        go_ret
        exact ⟨by rw [hv.out]; rfl, rfl⟩
      · have H1 : Hid ((xs.take (k + 1)).contains n = false) := by show _ = _; rw [HS'.out, decide_eq_false_iff_not]; exact he
        go_wp2
        go_roundw
        case rel => exact ⟨k + 1, by omega, by go_num, H1.out, by first | rfl | trivial⟩
        case measure => simp [intOf]; omega
    · have hv : Hid (t = false) := by show _ = _; have := HN.out; rw [List.take_of_length_le (by omega), HT.out] at this; exact this
      go_wp2
      go_ret
      exact ⟨by rw [hv.out]; rfl, rfl⟩
theorem KReads.front {w : World} {b o cap : Nat} {xs : List Int} (h : KReads w (.slice (some ⟨b, o, none⟩) xs.length cap) xs) (k : Nat) (hk : k ≤ xs.length) : KReads w (.slice (some ⟨b, o, none⟩) k cap) (xs.take k) := by
  obtain ⟨a, cap', e, hl, hc⟩ := h
  injection e with e1 e2 e3
  subst e1
  subst e3
  have hlen : (xs.take k).length = k := by rw [List.length_take]; omega
  refine ⟨_, _, by rw [hlen], by rw [hlen]; omega, ?_⟩
  rcases hc with rfl | ⟨b', o', e, hc⟩
  · exact .inl (by simp)
  · cases e
    refine .inr ⟨b, o, rfl, ?_⟩
    intro i hi
    rw [hlen] at hi
    have := hc i (by omega)
    have e2 : (xs.take k).getD i 0 = xs.getD i 0 := by simp [List.getD_eq_getElem?_getD, hi]
    rw [e2]
    exact this
end Go.Proofs.Ytnkpboobfkjibad
namespace Go.Proofs.Ytnkpboobfkjibad
open Go.RowKit

set_option maxRecDepth 100000 in
set_option maxHeartbeats 4000000 in
theorem soru_eq (v : Value) (xs : List Int) (many : Int) (t : Bool) (h : oruB xs many = t) (hm : 0 ≤ many ∧ many ≤ 60) (w : World) (hr : KReads w v xs) :
    Calls Try.prog 136 #[v, .int .i64 many] w fun e w' => e = .returned (.bool t) ∧ w' = w := by
  have HT := hid h
  have HR := hid hr
  obtain ⟨a, cap, rfl, hl, _⟩ := hr
  obtain ⟨m1, hm1⟩ : ∃ m1, m1 = many - 1 := ⟨_, rfl⟩
  have hw1 : IntKind.i64.wrap (many - 1) = m1 := by rw [hm1, IntKind.wrap_i64]; omega
  have HM := hid hm1
  clear h hm1
  go_enter Try.func136, Try.ntmps136
  go_wp2
  go_loopw [9] (fun i wr => ∃ k : Nat, k ≤ xs.length ∧ i = .int .i64 k ∧ oruU xs many k = true ∧ w = wr) (fun i _ => xs.length - (intOf i).toNat)
  case atStart => exact ⟨0, Nat.zero_le _, rfl, rfl, rfl⟩
  case round =>
    obtain ⟨k, hk, rfl, hu, rfl⟩ := hrel
    have HU := hid hu
    clear hu
    by_cases hlt : k < xs.length
    · obtain ⟨g, o, cap', e, hc⟩ := HR.out.cells k hlt
      cases e
      obtain ⟨x, hx⟩ : ∃ x, x = fl xs k := ⟨_, rfl⟩
      have cx : w.cell? ⟨g, o + k, none⟩ = some (.int .i64 x) := by rw [hx]; exact hc k hlt
      obtain ⟨b1, hb1⟩ : ∃ b, decide (0 ≤ x ∧ x ≤ m1) = b := ⟨_, rfl⟩
      obtain ⟨b2, hb2⟩ : ∃ b, (xs.take k).contains x = b := ⟨_, rfl⟩
      have HB1 := hid hb1
      have HB2 := hid hb2
      have HS : Hid (oruU xs many (k + 1) = (b1 && !b2)) := by
        show (oruU xs many k && _) = _
        rw [HU.out, ← hx, ← HM.out, hb1, hb2]; rfl
      have HF : Hid (oruU xs many (k + 1) = false → t = false) := fun h => by rw [← HT.out]; exact oruU_no h _ (by omega)
      have FR := hid (HR.out.front k hk)
      have m0 : (0 : Int) ≤ (k : Int) := by omega
      have n1 : (k : Int) < (xs.length : Int) := by omega
      have n2 : (k : Int) ≤ (cap : Int) := by omega
      have n3 : (k : Int) ≤ (xs.length : Int) := by omega
      clear hx hb1 hb2 hc
      go_wp2_with fail
      refine (l1In_eq x 0 m1 b1 HB1.out _).mono ?_
      rintro e w' ⟨rfl, hw⟩; obtain rfl := hw.symm
      cases b1
      · have HV : Hid (t = false) := HF.out HS.out
        go_wp2
        go_ret
        exact ⟨by rw [HV.out]; rfl, rfl⟩
      go_wp2_with fail
      refine (l1Has_eq _ (xs.take k) x b2 HB2.out _ FR.out).mono ?_
      rintro e w' ⟨rfl, hw⟩; obtain rfl := hw.symm
      cases b2
      · go_wp2
        go_roundw
        case rel => exact ⟨k + 1, by omega, by go_num, HS.out, by first | rfl | trivial⟩
        case measure => simp [intOf]; omega
      · have HV : Hid (t = false) := HF.out HS.out
        go_wp2
        go_ret
        exact ⟨by rw [HV.out]; rfl, rfl⟩
    · have HV : Hid (t = true) := by show _ = _; rw [← HT.out]; have h := HU.out; rw [show k = xs.length by omega] at h; exact h
      go_wp2
      go_ret
      exact ⟨by rw [HV.out]; rfl, rfl⟩
end Go.Proofs.Ytnkpboobfkjibad
namespace Go.Proofs.Ytnkpboobfkjibad
open Go.RowKit
set_option maxRecDepth 100000

theorem stell_yes (v : Value) (xs : List Sp) (w : World) (hr : SReads w v xs) (h : xs.length ≤ 20) : Calls Try.prog 141 #[v] w fun e w' => e = .returned (.tuple #[v, .bool true]) ∧ w' = w := by
  obtain ⟨a, cap, rfl, _, _⟩ := hr
  go_enter Try.func141, Try.ntmps141
  go_wp2
  go_ret2
  exact ⟨rfl, rfl⟩
theorem stell_no (v : Value) (xs : List Sp) (w : World) (hr : SReads w v xs) (h : ¬ xs.length ≤ 20) : Calls Try.prog 141 #[v] w fun e w' => e = .returned (.tuple #[.slice none 0 0, .bool false]) ∧ w' = w := by
  obtain ⟨a, cap, rfl, _, _⟩ := hr
  go_enter Try.func141, Try.ntmps141
  go_wp2
  go_ret2
  exact ⟨rfl, rfl⟩
end Go.Proofs.Ytnkpboobfkjibad
namespace Go.Proofs.Ytnkpboobfkjibad
open Go.RowKit

set_option maxRecDepth 100000 in
set_option maxHeartbeats 8000000 in
theorem sacks_any (v : Value) (xs : List Int) (w : World) (hr : KReads w v xs) (Y : List Sp) (t : Bool) (hY : acksY xs = Y) (ht : acksB xs = t) :
    Calls Try.prog 53 #[v] w fun e w' => ∃ v', e = .returned (.tuple #[v', .bool t]) ∧ SpOwn w.heap.size w'.heap.size w' v' Y ∧ Below w.heap.size w w' := by
  have HY := hid hY
  have HT := hid ht
  have HR := hid hr
  obtain ⟨a, cap, rfl, hl, _⟩ := hr
  obtain ⟨t1, e1⟩ : ∃ b, oruB xs 60 = b := ⟨_, rfl⟩
  have E1 := hid e1
  clear hY ht e1
  go_enter Try.func53, Try.ntmps53
  go_wp2_with fail
  refine (soru_eq _ xs 60 t1 E1.out (by omega) _ HR.out).mono ?_
  rintro e w' ⟨rfl, hw⟩; obtain rfl := hw.symm
  cases t1
  · have HV : Hid (t = false) := by show _ = _; rw [← HT.out]; unfold acksB; rw [E1.out]; rfl
    have HV2 : Hid (Y = []) := by show _ = _; rw [← HY.out]; unfold acksY acksB; rw [E1.out]; rfl
    go_wp2
    go_ret2
    exact ⟨_, by rw [HV.out]; rfl, by rw [HV2.out]; exact spown_nil _ _ _ _ _, Below.refl _ _⟩
  have HI : Hid (∀ i, i < xs.length → 0 ≤ fl xs i ∧ fl xs i ≤ 59) := fun i hi => by have := oruU_at xs.length E1.out i hi; omega
  go_wp2
  go_loopw [4, 12] (fun l i wr => ∃ k : Nat, k ≤ xs.length ∧ i = .int .i64 k ∧ SOwn w.heap.size wr l (acksU xs k) ∧ Below w.heap.size w wr) (fun _ i _ => xs.length - (intOf i).toNat)
  case atStart => exact ⟨0, Nat.zero_le _, rfl, ⟨by simp [acksU], .inl ⟨none, rfl, rfl⟩⟩, Below.refl _ _⟩
  case round =>
    obtain ⟨k, hk, rfl, hown, hbel⟩ := hrel
    have HO := hid hown
    have HB := hid hbel
    clear hown hbel
    by_cases hlt : k < xs.length
    · obtain ⟨g, o, cap', e, hc⟩ := (HR.out.below HB.out).cells k hlt
      cases e
      obtain ⟨x, hx⟩ : ∃ x, x = fl xs k := ⟨_, rfl⟩
      have cx : wr.cell? ⟨g, o + k, none⟩ = some (.int .i64 x) := by rw [hx]; exact hc k hlt
      have hb := HI.out k hlt
      rw [← hx] at hb
      have hw1 : IntKind.i64.wrap (x + 1) = x + 1 := by rw [IntKind.wrap_i64]; omega
      have HF := hid (chain_few (acks_chain k fun i hi => HI.out i (by omega)))
      have HN : Hid (acksU xs (k + 1) = addL (acksU xs k) (x, x + 1)) := by rw [hx]; exact rfl
      have m0 : (0 : Int) ≤ (k : Int) := by omega
      have n1 : (k : Int) < (xs.length : Int) := by omega
      have hsz := HB.out.size
      clear hx hc
      go_wp2_with fail
      refine (sadd_any _ (acksU xs k) x (x + 1) _ HO.out.reads (by have := HF.out; omega)).mono ?_
      rintro e w2 ⟨v2, rfl, o2, b2⟩
      have HO2 : Hid (SOwn w.heap.size w2 v2 (acksU xs (k + 1))) := by rw [HN.out]; exact o2.mono hsz
      have HB2 := hid (HB.out.trans (b2.mono HB.out.size))
      clear o2 b2 HO
      go_wp2
      go_roundw
      case rel => exact ⟨k + 1, by omega, by go_num, HO2.out, HB2.out⟩
      case measure => simp [intOf]; omega
    · obtain rfl : k = xs.length := by omega
      by_cases h20 : (acksU xs xs.length).length ≤ 20
      · have HV : Hid (t = true) := by show _ = _; rw [← HT.out]; unfold acksB; rw [E1.out, decide_eq_true h20]; rfl
        have HV2 : Hid (Y = acksU xs xs.length) := by show _ = _; rw [← HY.out]; unfold acksY acksB; rw [E1.out, decide_eq_true h20]; rfl
        have HK : Hid (SpOwn w.heap.size wr.heap.size wr u4 Y) := by rw [HV2.out]; exact HO.out.k
        go_wp2_with fail
        refine (stell_yes _ _ _ HO.out.reads h20).mono ?_
        rintro e w' ⟨rfl, hw⟩; obtain rfl := hw.symm
        clear h20 HO
        go_wp2
        go_ret2
        exact ⟨_, by rw [HV.out]; rfl, HK.out, HB.out⟩
      · have HV : Hid (t = false) := by show _ = _; rw [← HT.out]; unfold acksB; rw [E1.out, decide_eq_false h20]; rfl
        have HV2 : Hid (Y = []) := by show _ = _; rw [← HY.out]; unfold acksY acksB; rw [E1.out, decide_eq_false h20]; rfl
        go_wp2_with fail
        refine (stell_no _ _ _ HO.out.reads h20).mono ?_
        rintro e w' ⟨rfl, hw⟩; obtain rfl := hw.symm
        clear h20 HO
        go_wp2
        go_ret2
        exact ⟨_, by rw [HV.out]; rfl, by rw [HV2.out]; exact spown_nil _ _ _ _ _, HB.out⟩
end Go.Proofs.Ytnkpboobfkjibad
