/-
  When a list of spans is as the document says, place by place. Plain facts.
  spec.l2Span: whether a span is as the document says; when a list of spans is, place by place; nothing old is written.
-/
import Derived.Test.YtnkpboobfkjibalSpans
import Derived.Deep.RegionWith
namespace Go.Proofs.Ytnkpboobfkjibal
open Go.RowKit
set_option maxRecDepth 100000

/-- Span i is a span, behind the one ahead of it. -/
def okAt (xs : List Sp) (i : Nat) : Prop := spB (xs.getD i (0, 0)) = true ∧ (0 < i → (xs.getD (i - 1) (0, 0)).2 < (xs.getD i (0, 0)).1)
theorem chain_ok_aux : ∀ (xs : List Sp) (p : Int), chainB p xs = true ↔ (∀ x ∈ xs.head?, p < x.1) ∧ ∀ i, i < xs.length → okAt xs i
  | [], p => by simp [chainB]
  | x :: xs, p => by
    rw [chain_cons, chain_ok_aux xs x.2]
    constructor
    · rintro ⟨h1, h2, h3, h4⟩
      refine ⟨by simpa using h1, fun i hi => ?_⟩
      cases i with
      | zero => exact ⟨by simpa using h2, by simp⟩
      | succ i =>
        have hi' : i < xs.length := by simpa using hi
        refine ⟨by simpa using (h4 i hi').1, fun _ => ?_⟩
        cases i with
        | zero =>
          cases xs with
          | nil => simp at hi'
          | cons y ys => simpa using h3 y (by simp)
        | succ i => simpa using (h4 (i + 1) hi').2 (by omega)
    · rintro ⟨h1, h2⟩
      refine ⟨by simpa using h1, by simpa using (h2 0 (by simp)).1, ?_, fun i hi => ?_⟩
      · intro y hy
        cases xs with
        | nil => simp at hy
        | cons z zs =>
          simp only [List.head?_cons, Option.mem_def, Option.some.injEq] at hy
          subst hy
          simpa using (h2 1 (by simp)).2 (by omega)
      · have := h2 (i + 1) (by simpa using hi)
        refine ⟨by simpa using this.1, fun h0 => ?_⟩
        obtain ⟨j, rfl⟩ : ∃ j, i = j + 1 := ⟨i - 1, by omega⟩
        simpa using this.2 (by omega)
theorem chain_ok (xs : List Sp) : chainB (-1) xs = true ↔ ∀ i, i < xs.length → okAt xs i := by
  rw [chain_ok_aux]
  constructor
  · exact fun h => h.2
  · intro h
    refine ⟨fun x hx => ?_, h⟩
    cases xs with
    | nil => simp at hx
    | cons y ys =>
      simp only [List.head?_cons, Option.mem_def, Option.some.injEq] at hx
      subst hx
      have := (h 0 (by simp)).1
      rw [spB_iff] at this
      simp at this
      omega
end Go.Proofs.Ytnkpboobfkjibal
namespace Go.Proofs.Ytnkpboobfkjibal
open Go.RowKit
set_option maxRecDepth 100000

theorem l2Span_yes (p q : Int) (w : World) (h : spB (p, q) = true) : Calls Try.prog 45 #[.agg #[.int .i64 p, .int .i64 q]] w fun e w' => e = .returned (.bool true) ∧ Below w.heap.size w w' := by
  rw [spB_iff] at h
  simp only at h
  obtain ⟨h1, h2, h3⟩ := h
  go_enter Try.func45, Try.ntmps45
  go_wp2
  go_ret
  refine ⟨rfl, ?_⟩
  go_grown
theorem l2Span_no (p q : Int) (w : World) (h : spB (p, q) = false) : Calls Try.prog 45 #[.agg #[.int .i64 p, .int .i64 q]] w fun e w' => e = .returned (.bool false) ∧ Below w.heap.size w w' := by
  have h' : ¬ (0 ≤ p ∧ p < q ∧ q ≤ 1000000) := fun hh => by rw [(spB_iff (p, q)).2 hh] at h; cases h
  clear h
  by_cases h1 : 0 ≤ p
  · by_cases h2 : p < q
    · have h3 : ¬ q ≤ 1000000 := by omega
      clear h'
      go_enter Try.func45, Try.ntmps45
      go_wp2
      go_ret
      refine ⟨rfl, ?_⟩
      go_grown
    · clear h'
      go_enter Try.func45, Try.ntmps45
      go_wp2
      go_ret
      refine ⟨rfl, ?_⟩
      go_grown
  · clear h'
    go_enter Try.func45, Try.ntmps45
    go_wp2
    go_ret
    refine ⟨rfl, ?_⟩
    go_grown
end Go.Proofs.Ytnkpboobfkjibal
