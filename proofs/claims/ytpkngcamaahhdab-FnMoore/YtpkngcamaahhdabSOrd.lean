/-
  spec.l1Has, spec.l5Order, spec.l5Both: whether an order has all numbers, each once. Nothing old is written.
-/
import Derived.Test.YtpkngcamaahhdabSTask
import Derived.Test.YtpkngcamaahhdabKIntRows
namespace Go.Proofs.Ytpkngcamaahhdab
open Go.RowKit

theorem has_take {xs : List Int} {n : Int} {k : Nat} (hk : k < xs.length) : (xs.take (k + 1)).contains n = ((xs.take k).contains n || decide (xs.getD k 0 = n)) := by
  rw [List.take_succ_eq_append_getElem hk]
  simp only [List.contains_eq_mem, List.mem_append, List.mem_singleton, List.getD_eq_getElem?_getD, List.getElem?_eq_getElem hk, Option.getD_some]
  rw [Bool.eq_iff_iff]
  simp only [decide_eq_true_eq, Bool.or_eq_true]
  constructor
  · rintro (h | h)
    · exact .inl h
    · exact .inr h.symm
  · rintro (h | h)
    · exact .inl h
    · exact .inr h.symm
set_option maxHeartbeats 1000000 in
theorem l1Has_eq (v : Value) (xs : List Int) (n : Int) (t : Bool) (h : xs.contains n = t) (w : World) (hr : KReads w v xs) :
    Calls Try.prog 95 #[v, .int .i64 n] w fun e w' => e = .returned (.bool t) ∧ w' = w := by
  have HT := hid h
  clear h
  have HR := hid hr
  obtain ⟨a, cap, rfl, _, _⟩ := hr
  go_enter Try.func95, Try.ntmps95
  go_wp2
  go_loopw [9] (fun i wr => ∃ k : Nat, k ≤ xs.length ∧ i = .int .i64 k ∧ (xs.take k).contains n = false ∧ w = wr) (fun i _ => xs.length - (intOf i).toNat)
  case atStart => exact ⟨0, Nat.zero_le _, rfl, rfl, rfl⟩
  case round =>
    obtain ⟨k, hk, rfl, hno, rfl⟩ := hrel
    have HN := hid hno
    clear hno
    by_cases hlt : k < xs.length
    · obtain ⟨g, o, cap', e, hc⟩ := HR.out.cells k hlt
      cases e
      have HS := hid (has_take (n := n) hlt)
      obtain ⟨p, hp⟩ : ∃ p, p = xs.getD k 0 := ⟨_, rfl⟩
      have c0 : w.cell? ⟨g, o + k, none⟩ = some (.int .i64 (xs.getD k 0)) := hc k hlt
      rw [← hp] at c0
      have HS' : Hid ((xs.take (k + 1)).contains n = decide (p = n)) := by show _ = _; rw [HS.out, HN.out, hp]; rfl
      have HM : Hid (p ∈ xs) := by show _ ∈ _; rw [hp, List.getD_eq_getElem?_getD, List.getElem?_eq_getElem hlt]; exact List.getElem_mem _
      clear hc hp HS
      by_cases he : p = n
      · have hv : Hid (t = true) := by show _ = _; rw [← HT.out, List.contains_eq_mem, decide_eq_true_eq, ← he]; exact HM.out
        subst he
        go_wp2
        go_ret
        exact ⟨by rw [hv.out]; rfl, rfl⟩
      · have H1 : Hid ((xs.take (k + 1)).contains n = false) := by show _ = _; rw [HS'.out, decide_eq_false_iff_not]; exact he
        go_wp2
        go_roundw
        case rel => exact ⟨k + 1, by omega, by go_num, H1.out, by first | rfl | trivial⟩
        case measure => simp [intOf]; omega
    · have hv : Hid (t = false) := by show _ = _; have := HN.out; rw [List.take_of_length_le (by omega), HT.out] at this; exact this
      go_wp2
      go_ret
      exact ⟨by rw [hv.out]; rfl, rfl⟩
theorem KReads.front {w : World} {b o cap : Nat} {xs : List Int} (h : KReads w (.slice (some ⟨b, o, none⟩) xs.length cap) xs) (k : Nat) (hk : k ≤ xs.length) : KReads w (.slice (some ⟨b, o, none⟩) k cap) (xs.take k) := by
  obtain ⟨a, cap', e, hl, hc⟩ := h
  injection e with e1 e2 e3
  subst e1
  subst e3
  have hlen : (xs.take k).length = k := by rw [List.length_take]; omega
  refine ⟨_, _, by rw [hlen], by rw [hlen]; omega, ?_⟩
  rcases hc with rfl | ⟨b', o', e, hc⟩
  · exact .inl (by simp)
  · cases e
    refine .inr ⟨b, o, rfl, ?_⟩
    intro i hi
    rw [hlen] at hi
    have := hc i (by omega)
    have e2 : (xs.take k).getD i 0 = xs.getD i 0 := by simp [List.getD_eq_getElem?_getD, hi]
    rw [e2]
    exact this
theorem ordU_at {n i : Nat} {o : List Int} (h : ordU n o i = true) {j : Nat} (hj : j < i) : 0 ≤ o.getD j 0 ∧ o.getD j 0 ≤ (n : Int) - 1 := by
  unfold ordU at h
  rw [List.all_eq_true] at h
  have := h j (List.mem_range.2 hj)
  rw [Bool.and_eq_true, decide_eq_true_eq] at this
  exact this.1
set_option maxHeartbeats 2000000 in
theorem l5Order_eq (v : Value) (xs : List Int) (n : Nat) (t : Bool) (h : ordB n xs = t) (hn : n ≤ 1000) (w : World) (hr : KReads w v xs) :
    Calls Try.prog 77 #[v, .int .i64 n] w fun e w' => e = .returned (.bool t) ∧ w' = w := by
  have HT : Hid ((decide (xs.length = n) && ordU n xs n) = t) := h
  clear h
  have HR := hid hr
  obtain ⟨a, cap, rfl, ⟨hlen, hcap⟩, _⟩ := hr
  by_cases hl : xs.length = n
  · subst hl
    have HT' : Hid (ordU xs.length xs xs.length = t) := by show _ = _; rw [← HT.out]; simp
    clear HT
    have hw1 : IntKind.i64.wrap ((xs.length : Int) - 1) = (xs.length : Int) - 1 := by rw [IntKind.wrap_i64]; omega
    go_enter Try.func77, Try.ntmps77
    go_wp2
    go_loopw [13] (fun i wr => ∃ k : Nat, k ≤ xs.length ∧ i = .int .i64 k ∧ ordU xs.length xs k = true ∧ w = wr) (fun i _ => xs.length - (intOf i).toNat)
    case atStart => exact ⟨0, Nat.zero_le _, rfl, rfl, rfl⟩
    case round =>
      obtain ⟨k, hk, rfl, hu, rfl⟩ := hrel
      have HU := hid hu
      clear hu
      by_cases hlt : k < xs.length
      · obtain ⟨g, o, cap', e, hc⟩ := HR.out.cells k hlt
        cases e
        have HS := hid (ordU_succ xs.length xs k)
        have HF := hid (HR.out.front k hk)
        have HNo : Hid (∀ b : Bool, (decide (0 ≤ xs.getD k 0 ∧ xs.getD k 0 ≤ (xs.length : Int) - 1) && !(xs.take k).contains (xs.getD k 0)) = false → ordU xs.length xs xs.length = false) := fun _ hb => ordU_no hlt hb
        obtain ⟨p, hp⟩ : ∃ p, p = xs.getD k 0 := ⟨_, rfl⟩
        have c0 : w.cell? ⟨g, o + k, none⟩ = some (.int .i64 (xs.getD k 0)) := hc k hlt
        rw [← hp] at c0
        rw [← hp] at HS HNo
        clear hc hp
        by_cases h1 : 0 ≤ p ∧ p ≤ (xs.length : Int) - 1
        · have H1 : Hid (decide (0 ≤ p ∧ p ≤ (xs.length : Int) - 1) = true) := by show _ = _; simpa using h1
          clear h1
          obtain ⟨b, hb⟩ : ∃ b, (xs.take k).contains p = b := ⟨_, rfl⟩
          have H2 := hid hb
          clear hb
          cases b
          · have H3 : Hid (ordU xs.length xs (k + 1) = true) := by show _ = _; rw [HS.out, HU.out, H1.out, H2.out]; rfl
            go_wp2_with fail
            refine (l1In_eq p 0 ((xs.length : Int) - 1) true H1.out _).mono ?_
            rintro e w' ⟨rfl, hw⟩; obtain rfl := hw.symm
            go_wp2_with fail
            refine (l1Has_eq _ (xs.take k) p false H2.out _ HF.out).mono ?_
            rintro e w' ⟨rfl, hw⟩; obtain rfl := hw.symm
            go_wp2
            go_roundw
            case rel => exact ⟨k + 1, by omega, by go_num, H3.out, by first | rfl | trivial⟩
            case measure => simp [intOf]; omega
          · have hv : Hid (t = false) := by show _ = _; rw [← HT'.out]; exact HNo.out false (by rw [H1.out, H2.out]; rfl)
            go_wp2_with fail
            refine (l1In_eq p 0 ((xs.length : Int) - 1) true H1.out _).mono ?_
            rintro e w' ⟨rfl, hw⟩; obtain rfl := hw.symm
            go_wp2_with fail
            refine (l1Has_eq _ (xs.take k) p true H2.out _ HF.out).mono ?_
            rintro e w' ⟨rfl, hw⟩; obtain rfl := hw.symm
            go_wp2
            go_ret
            exact ⟨by rw [hv.out]; rfl, rfl⟩
        · have H1 : Hid (decide (0 ≤ p ∧ p ≤ (xs.length : Int) - 1) = false) := by show _ = _; rw [decide_eq_false_iff_not]; exact h1
          have hv : Hid (t = false) := by show _ = _; rw [← HT'.out]; exact HNo.out false (by rw [H1.out]; rfl)
          clear h1
          go_wp2_with fail
          refine (l1In_eq p 0 ((xs.length : Int) - 1) false H1.out _).mono ?_
          rintro e w' ⟨rfl, hw⟩; obtain rfl := hw.symm
          go_wp2
          go_ret
          exact ⟨by rw [hv.out]; rfl, rfl⟩
      · have hv : Hid (t = true) := by show _ = _; have := HU.out; rw [show k = xs.length by omega, HT'.out] at this; exact this
        go_wp2
        go_ret
        exact ⟨by rw [hv.out]; rfl, rfl⟩
  · have hv : Hid (t = false) := by show _ = _; rw [← HT.out, decide_eq_false hl]; rfl
    go_enter Try.func77, Try.ntmps77
    go_wp2
    go_ret
    exact ⟨by rw [hv.out]; rfl, rfl⟩
set_option maxHeartbeats 1000000 in
theorem l5Both_eq (v vo : Value) (xs : List TkEl) (os : List Int) (t : Bool) (h : (goodT xs && ordB xs.length os) = t) (w : World) (hr : TkReads w v xs) (hs : KReads w vo os) :
    Calls Try.prog 51 #[v, vo] w fun e w' => e = .returned (.bool t) ∧ Below w.heap.size w w' := by
  have HT := hid h
  clear h
  have HR := hid hr
  have HS := hid hs
  obtain ⟨a, cap, rfl, _, _⟩ := hr
  obtain ⟨b, hb⟩ : ∃ b, goodT xs = b := ⟨_, rfl⟩
  have HG := hid hb
  cases b
  · have hv : Hid (t = false) := by show _ = _; rw [← HT.out, HG.out]; rfl
    go_enter Try.func51, Try.ntmps51
    go_wp2_with fail
    refine (sgoodTasks_eq _ xs false HG.out _ HR.out).mono ?_
    rintro e w1 ⟨rfl, b1⟩
    have B1 := hid b1
    clear b1
    go_wp2
    go_ret
    exact ⟨by rw [hv.out]; rfl, B1.out⟩
  · have hv : Hid (ordB xs.length os = t) := by show _ = _; rw [← HT.out, HG.out]; rfl
    have hl := goodT_len hb
    go_enter Try.func51, Try.ntmps51
    go_wp2_with fail
    refine (sgoodTasks_eq _ xs true HG.out _ HR.out).mono ?_
    rintro e w1 ⟨rfl, b1⟩
    have B1 := hid b1
    clear b1
    go_wp2_with fail
    refine (l5Order_eq _ os xs.length t hv.out (by omega) _ (HS.out.below B1.out)).mono ?_
    rintro e w' ⟨rfl, hw⟩; obtain rfl := hw.symm
    go_wp2
    go_ret
    exact ⟨rfl, B1.out⟩
end Go.Proofs.Ytpkngcamaahhdab
