/-
  A point in spans, by the first so many. Plain arithmetic.
  spec.l2Has: whether a point lies in spans. Nothing old is written.
-/
import Derived.Test.YtnkpboobfkjibakSpanMath
import Derived.Test.YtnkpboobfkjibakSpans
namespace Go.Proofs.Ytnkpboobfkjibak

theorem has_take_succ (xs : List Sp) (k : Nat) (n : Int) (h : k < xs.length) : hasL (xs.take (k + 1)) n = (hasL (xs.take k) n || inB (xs.getD k (0, 0)) n) := by
  rw [List.take_succ_eq_append_getElem h, has_append]
  simp [List.getD_eq_getElem?_getD, h, hasL]
theorem has_of_at (xs : List Sp) (k : Nat) (n : Int) (h : k < xs.length) (hi : inB (xs.getD k (0, 0)) n = true) : hasL xs n = true := by
  have e : xs = xs.take k ++ xs.drop k := (List.take_append_drop k xs).symm
  rw [e, has_append, List.drop_eq_getElem_cons h]
  simp only [List.getD_eq_getElem?_getD, List.getElem?_eq_getElem h, Option.getD_some] at hi
  simp [hasL, hi]

end Go.Proofs.Ytnkpboobfkjibak
namespace Go.Proofs.Ytnkpboobfkjibak
open Go.RowKit

set_option maxHeartbeats 1000000 in
theorem shas_any (v : Value) (xs : List Sp) (n : Int) (w : World) (hr : SReads w v xs) :
    Calls Try.prog 51 #[v, .int .i64 n] w fun e w' => e = .returned (.bool (hasL xs n)) ∧ Below w.heap.size w w' := by
  obtain ⟨a, cap, rfl, hl, hx⟩ := hr
  have HC := hid hx
  clear hx
  go_enter Try.func51, Try.ntmps51
  go_wp2
  go_loopw [9] (fun i wr => ∃ k : Nat, k ≤ xs.length ∧ i = .int .i64 k ∧ hasL (xs.take k) n = false ∧ Below w.heap.size w wr) (fun i _ => xs.length - (intOf i).toNat)
  case atStart => exact ⟨0, Nat.zero_le _, rfl, rfl, Below.refl _ _⟩
  case round =>
    obtain ⟨k, hk, rfl, hno, hal⟩ := hrel
    have HN := hid hno
    clear hno
    by_cases hlt : k < xs.length
    · obtain ⟨ga, oa, rfl, hca⟩ : ∃ b off, a = some ⟨b, off, none⟩ ∧ ∀ i, i < xs.length → w.cell? ⟨b, off + i * 2, none⟩ = some (.int .i64 (xs.getD i (0, 0)).1) ∧ w.cell? ⟨b, off + i * 2 + 1, none⟩ = some (.int .i64 (xs.getD i (0, 0)).2) := by
        rcases HC.out with h | h
        · subst h; simp at hlt
        · exact h
      have h1 := (hal.cell (p := ⟨ga, oa + k * 2, none⟩) (lt_of_cell (hca k hlt).1)).trans (hca k hlt).1
      have h2 := (hal.cell (p := ⟨ga, oa + k * 2 + 1, none⟩) (lt_of_cell (hca k hlt).2)).trans (hca k hlt).2
      have HL := hid hal
      have hy := hid (has_of_at xs k n hlt)
      have hs := hid (has_take_succ xs k n hlt)
      obtain ⟨p, hp⟩ : ∃ p, p = (xs.getD k (0, 0)).1 := ⟨_, rfl⟩
      obtain ⟨q, hq⟩ : ∃ q, q = (xs.getD k (0, 0)).2 := ⟨_, rfl⟩
      rw [← hp] at h1
      rw [← hq] at h2
      have hin : Hid (inB (xs.getD k (0, 0)) n = true ↔ p ≤ n ∧ n < q) := by
        show _ ↔ _
        rw [inB_iff, hp, hq]
      clear hca hal hp hq
      by_cases c1 : p ≤ n
      · by_cases c2 : n < q
        · go_wp2
          go_ret
          refine ⟨by rw [hy.out (hin.out.2 ⟨c1, c2⟩)]; rfl, ?_⟩
          exact HL.out.alloc HL.out.size _
        · have hf : Hid (hasL (xs.take (k + 1)) n = false) := by
            show _ = _
            rw [hs.out, HN.out, Bool.false_or]
            cases e : inB (xs.getD k (0, 0)) n with
            | false => rfl
            | true => exact absurd (hin.out.1 e).2 c2
          go_wp2
          go_roundw
          case rel => exact ⟨k + 1, by omega, by go_num, hf.out, HL.out.alloc HL.out.size _⟩
          case measure => simp [intOf]; omega
      · have hf : Hid (hasL (xs.take (k + 1)) n = false) := by
          show _ = _
          rw [hs.out, HN.out, Bool.false_or]
          cases e : inB (xs.getD k (0, 0)) n with
          | false => rfl
          | true => exact absurd (hin.out.1 e).1 c1
        go_wp2
        go_roundw
        case rel => exact ⟨k + 1, by omega, by go_num, hf.out, HL.out.alloc HL.out.size _⟩
        case measure => simp [intOf]; omega
    · obtain rfl : k = xs.length := by omega
      have hn := HN.out
      rw [List.take_length] at hn
      go_wp2
      go_ret
      exact ⟨by rw [hn]; rfl, hal⟩

end Go.Proofs.Ytnkpboobfkjibak
