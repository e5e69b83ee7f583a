/-
  spec.l1Has: whether a number is among others. Nothing is written.
-/
import Derived.Test.YtnkpboobfkjibalKIntRows
namespace Go.Proofs.Ytnkpboobfkjibal
open Go.RowKit

theorem has_take {xs : List Int} {n : Int} {k : Nat} (hk : k < xs.length) : (xs.take (k + 1)).contains n = ((xs.take k).contains n || decide (xs.getD k 0 = n)) := by
  rw [List.take_succ_eq_append_getElem hk]
  simp only [List.contains_eq_mem, List.mem_append, List.mem_singleton, List.getD_eq_getElem?_getD, List.getElem?_eq_getElem hk, Option.getD_some]
  rw [Bool.eq_iff_iff]
  simp only [decide_eq_true_eq, Bool.or_eq_true]
  constructor
  · rintro (h | h)
    · exact .inl h
    · exact .inr h.symm
  · rintro (h | h)
    · exact .inl h
    · exact .inr h.symm
set_option maxHeartbeats 1000000 in
theorem l1Has_eq (v : Value) (xs : List Int) (n : Int) (t : Bool) (h : xs.contains n = t) (w : World) (hr : KReads w v xs) :
    Calls Try.prog 13 #[v, .int .i64 n] w fun e w' => e = .returned (.bool t) ∧ w' = w := by
  have HT := hid h
  clear h
  have HR := hid hr
  obtain ⟨a, cap, rfl, _, _⟩ := hr
  go_enter Try.func13, Try.ntmps13
  go_wp2
  go_loopw [9] (fun i wr => ∃ k : Nat, k ≤ xs.length ∧ i = .int .i64 k ∧ (xs.take k).contains n = false ∧ w = wr) (fun i _ => xs.length - (intOf i).toNat)
  case atStart => exact ⟨0, Nat.zero_le _, rfl, rfl, rfl⟩
  case round =>
    obtain ⟨k, hk, rfl, hno, rfl⟩ := hrel
    have HN := hid hno
    clear hno
    by_cases hlt : k < xs.length
    · obtain ⟨g, o, cap', e, hc⟩ := HR.out.cells k hlt
      cases e
      have HS := hid (has_take (n := n) hlt)
      obtain ⟨p, hp⟩ : ∃ p, p = xs.getD k 0 := ⟨_, rfl⟩
      have c0 : w.cell? ⟨g, o + k, none⟩ = some (.int .i64 (xs.getD k 0)) := hc k hlt
      rw [← hp] at c0
      have HS' : Hid ((xs.take (k + 1)).contains n = decide (p = n)) := by show _ = _; rw [HS.out, HN.out, hp]; rfl
      have HM : Hid (p ∈ xs) := by show _ ∈ _; rw [hp, List.getD_eq_getElem?_getD, List.getElem?_eq_getElem hlt]; exact List.getElem_mem _
      clear hc hp HS
      by_cases he : p = n
      · have hv : Hid (t = true) := by show _ = _; rw [← HT.out, List.contains_eq_mem, decide_eq_true_eq, ← he]; exact HM.out
        subst he
        go_wp2
        go_ret
        exact ⟨by rw [hv.out]; rfl, rfl⟩
      · have H1 : Hid ((xs.take (k + 1)).contains n = false) := by show _ = _; rw [HS'.out, decide_eq_false_iff_not]; exact he
        go_wp2
        go_roundw
        case rel => exact ⟨k + 1, by omega, by go_num, H1.out, by first | rfl | trivial⟩
        case measure => simp [intOf]; omega
    · have hv : Hid (t = false) := by show _ = _; have := HN.out; rw [List.take_of_length_le (by omega), HT.out] at this; exact this
      go_wp2
      go_ret
      exact ⟨by rw [hv.out]; rfl, rfl⟩
theorem KReads.front {w : World} {b o cap : Nat} {xs : List Int} (h : KReads w (.slice (some ⟨b, o, none⟩) xs.length cap) xs) (k : Nat) (hk : k ≤ xs.length) : KReads w (.slice (some ⟨b, o, none⟩) k cap) (xs.take k) := by
  obtain ⟨a, cap', e, hl, hc⟩ := h
  injection e with e1 e2 e3
  subst e1
  subst e3
  have hlen : (xs.take k).length = k := by rw [List.length_take]; omega
  refine ⟨_, _, by rw [hlen], by rw [hlen]; omega, ?_⟩
  rcases hc with rfl | ⟨b', o', e, hc⟩
  · exact .inl (by simp)
  · cases e
    refine .inr ⟨b, o, rfl, ?_⟩
    intro i hi
    rw [hlen] at hi
    have := hc i (by omega)
    have e2 : (xs.take k).getD i 0 = xs.getD i 0 := by simp [List.getD_eq_getElem?_getD, hi]
    rw [e2]
    exact this
end Go.Proofs.Ytnkpboobfkjibal
