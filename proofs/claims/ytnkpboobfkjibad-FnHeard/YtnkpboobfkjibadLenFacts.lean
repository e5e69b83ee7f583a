/-
  Plain facts on good spans. No program.
  Where the places of good spans below a bound lie. Plain facts.
  Good spans below many: where they lie. Plain arithmetic.
  The first of good spans. Plain arithmetic, no program.
  impl's length of spans: how many numbers are in them; nothing old is written.
  (impl alone)   spec.LengthOf, impl.LengthOf: how many numbers are in good spans, and whether they are good; nothing old is written.
-/
import Derived.Test.YtnkpboobfkjibadSpanMath
import Derived.Test.YtnkpboobfkjibadFlowFns
import Derived.Test.YtnkpboobfkjibadSpans
import Derived.Test.YtnkpboobfkjibadGoodSpan
namespace Go.Proofs.Ytnkpboobfkjibad

theorem good_chain {xs : List Sp} (h : goodL xs = true) : chainB (-1) xs = true := by
  unfold goodL at h
  rw [Bool.and_eq_true] at h
  exact h.1
theorem good_len {xs : List Sp} (h : goodL xs = true) : xs.length ≤ 20 := by
  unfold goodL at h
  rw [Bool.and_eq_true] at h
  simpa using h.2
end Go.Proofs.Ytnkpboobfkjibad
namespace Go.Proofs.Ytnkpboobfkjibad

theorem chain_spot : ∀ {p : Int} {l : List Sp}, chainB p l = true → ∀ k, k < l.length → (p < (l.getD k (0, 0)).1 ∧ spB (l.getD k (0, 0)) = true) ∧ (l.getD k (0, 0)).2 ≤ (l.getD (l.length - 1) (0, 0)).2
  | p, [], _, k, hk => by simp at hk
  | p, x :: l, h, k, hk => by
    rw [chain_cons] at h
    have hx := (spB_iff x).1 h.2.1
    rcases k with _ | k
    · refine ⟨⟨h.1, h.2.1⟩, ?_⟩
      rcases l with _ | ⟨y, l⟩
      · simp
      · have h2 := chain_spot h.2.2 ((y :: l).length - 1) (by simp)
        have h3 := (spB_iff _).1 h2.1.2
        have e : (x :: y :: l).getD ((x :: y :: l).length - 1) (0, 0) = (y :: l).getD ((y :: l).length - 1) (0, 0) := by simp
        rw [e]
        show x.2 ≤ _
        omega
    · have hk' : k < l.length := by simpa using hk
      have h2 := chain_spot h.2.2 k hk'
      have e : (x :: l).getD ((x :: l).length - 1) (0, 0) = l.getD (l.length - 1) (0, 0) := by
        rcases l with _ | ⟨y, l⟩
        · simp at hk'
        · simp
      rw [e]
      refine ⟨⟨?_, h2.1.2⟩, h2.2⟩
      show p < (l.getD k (0, 0)).1
      omega
/-- Where the letters of good spans below many lie. -/
theorem bel_has {l : List Sp} {z : Int} (h : belB l z = true) {x : Int} (hx : hasL l x = true) : 0 ≤ x ∧ x < z := by
  unfold belB at h
  rw [Bool.and_eq_true, Bool.or_eq_true, decide_eq_true_eq, decide_eq_true_eq] at h
  have key : ∀ m : List Sp, hasL m x = true → ∃ k, k < m.length ∧ inB (m.getD k (0, 0)) x = true := by
    intro m
    induction m with
    | nil => intro h; cases h
    | cons y m ih =>
      intro h
      have h' : (inB y x || hasL m x) = true := h
      rw [Bool.or_eq_true] at h'
      rcases h' with h' | h'
      · exact ⟨0, by simp, h'⟩
      · obtain ⟨k, hk, e⟩ := ih h'
        exact ⟨k + 1, by simpa using hk, e⟩
  obtain ⟨k, hk, e⟩ := key l hx
  rw [inB_iff] at e
  have h1 := chain_spot (good_chain h.1) k hk
  have h2 := (spB_iff _).1 h1.1.2
  have h3 : lastTo l ≤ z := h.2.resolve_left (by omega)
  unfold lastTo at h3
  omega
theorem chain_last {p : Int} {l : List Sp} (h : chainB p l = true) (h0 : l.length ≠ 0) : hasL l (lastTo l - 1) = true := by
  have h1 := chain_spot h (l.length - 1) (by omega)
  have h2 := (spB_iff _).1 h1.1.2
  have key : ∀ (m : List Sp) k, k < m.length → ∀ x, inB (m.getD k (0, 0)) x = true → hasL m x = true := by
    intro m
    induction m with
    | nil => intro k hk; simp at hk
    | cons y m ih =>
      intro k hk x hx
      show (inB y x || hasL m x) = true
      rcases k with _ | k
      · rw [Bool.or_eq_true]; exact .inl hx
      · rw [Bool.or_eq_true]; exact .inr (ih k (by simpa using hk) x hx)
  refine key l (l.length - 1) (by omega) _ ?_
  rw [inB_iff]
  unfold lastTo
  omega
end Go.Proofs.Ytnkpboobfkjibad
namespace Go.Proofs.Ytnkpboobfkjibad

theorem bel_in {l : List Sp} {z : Int} (h : belB l z = true) (hz : 0 ≤ z ∧ z ≤ 60) : ∀ k, k < l.length → 0 ≤ (l.getD k (0, 0)).1 ∧ (l.getD k (0, 0)).2 ≤ 60 := by
  intro k hk
  unfold belB at h
  rw [Bool.and_eq_true, Bool.or_eq_true, decide_eq_true_eq, decide_eq_true_eq] at h
  have h1 := chain_spot (good_chain h.1) k hk
  have h2 := (spB_iff _).1 h1.1.2
  have h3 : lastTo l ≤ z := h.2.resolve_left (by omega)
  unfold lastTo at h3
  omega
end Go.Proofs.Ytnkpboobfkjibad
namespace Go.Proofs.Ytnkpboobfkjibad

theorem take_snoc' (xs : List Sp) (k : Nat) (hk : k < xs.length) : xs.take (k + 1) = xs.take k ++ [xs.getD k (0, 0)] := by
  rw [List.take_succ_eq_append_getElem hk]
  simp [List.getD_eq_getElem?_getD, hk]
theorem len_take_succ (xs : List Sp) (k : Nat) (h : k < xs.length) : lenL (xs.take (k + 1)) = lenL (xs.take k) + ((xs.getD k (0, 0)).2 - (xs.getD k (0, 0)).1) := by
  have ap : ∀ (l : List Sp) (x : Sp), lenL (l ++ [x]) = lenL l + (x.2 - x.1) := fun l x => by
    induction l with
    | nil => simp [lenL]
    | cons y l ih => simp only [List.cons_append, lenL, ih]; omega
  rw [List.take_succ_eq_append_getElem h, ap]
  simp [List.getD_eq_getElem?_getD, h]
theorem chain_take {p : Int} {xs : List Sp} (h : chainB p xs = true) (k : Nat) : chainB p (xs.take k) = true := by
  induction xs generalizing p k with
  | nil => simpa using h
  | cons x xs ih =>
    cases k with
    | zero => rfl
    | succ k =>
      rw [chain_cons] at h
      rw [List.take_succ_cons, chain_cons]
      exact ⟨h.1, h.2.1, ih h.2.2 k⟩
theorem chain_mem {p : Int} {xs : List Sp} (h : chainB p xs = true) : ∀ x ∈ xs, spB x = true := by
  induction xs generalizing p with
  | nil => simp
  | cons x xs ih =>
    rw [chain_cons] at h
    intro y hy
    rcases List.mem_cons.1 hy with rfl | hy
    · exact h.2.1
    · exact ih h.2.2 y hy
theorem chain_at {p : Int} {xs : List Sp} (h : chainB p xs = true) (k : Nat) (hk : k < xs.length) : 0 ≤ (xs.getD k (0, 0)).1 ∧ (xs.getD k (0, 0)).1 < (xs.getD k (0, 0)).2 ∧ (xs.getD k (0, 0)).2 ≤ 1000000 :=
  (spB_iff _).1 (chain_mem h _ (by simp [List.getD_eq_getElem?_getD, hk]))
end Go.Proofs.Ytnkpboobfkjibad
namespace Go.Proofs.Ytnkpboobfkjibad
open Go.RowKit
set_option maxRecDepth 100000

set_option maxHeartbeats 1000000 in
theorem ilen_any (v : Value) (xs : List Sp) (w : World) (hr : SReads w v xs) (hc : chainB (-1) xs = true) :
    Calls Try.prog 132 #[v] w fun e w' => e = .returned (.int .i64 (lenL xs)) ∧ Below w.heap.size w w' := by
  obtain ⟨a, cap, rfl, hl, hx⟩ := hr
  have HC := hid hx
  have HG := hid hc
  clear hx hc
  go_enter Try.func132, Try.ntmps132
  go_wp2
  go_loopw [3, 8] (fun m i wr => ∃ k : Nat, k ≤ xs.length ∧ i = .int .i64 k ∧ m = .int .i64 (lenL (xs.take k)) ∧ Below w.heap.size w wr) (fun _ i _ => xs.length - (intOf i).toNat)
  case atStart => exact ⟨0, Nat.zero_le _, rfl, rfl, Below.refl _ _⟩
  case round =>
    obtain ⟨k, hk, rfl, rfl, hal⟩ := hrel
    by_cases hlt : k < xs.length
    · obtain ⟨ga, oa, rfl, hca⟩ : ∃ b off, a = some ⟨b, off, none⟩ ∧ ∀ i, i < xs.length → w.cell? ⟨b, off + i * 2, none⟩ = some (.int .i64 (xs.getD i (0, 0)).1) ∧ w.cell? ⟨b, off + i * 2 + 1, none⟩ = some (.int .i64 (xs.getD i (0, 0)).2) := by
        rcases HC.out with h | h
        · subst h; simp at hlt
        · exact h
      have h1 := (hal.cell (p := ⟨ga, oa + k * 2, none⟩) (lt_of_cell (hca k hlt).1)).trans (hca k hlt).1
      have h2 := (hal.cell (p := ⟨ga, oa + k * 2 + 1, none⟩) (lt_of_cell (hca k hlt).2)).trans (hca k hlt).2
      have HL := hid hal
      have hs := hid (len_take_succ xs k hlt)
      have hb := chain_at HG.out k hlt
      have hn := len_bounds (chain_take HG.out k) (Int.le_refl _)
      have hn2 := len_bounds (chain_take HG.out (k + 1)) (Int.le_refl _)
      rw [len_take_succ xs k hlt] at hn2
      obtain ⟨p, hp⟩ : ∃ p, p = (xs.getD k (0, 0)).1 := ⟨_, rfl⟩
      obtain ⟨q, hq⟩ : ∃ q, q = (xs.getD k (0, 0)).2 := ⟨_, rfl⟩
      obtain ⟨n, hnn⟩ : ∃ n, n = lenL (xs.take k) := ⟨_, rfl⟩
      rw [← hp, ← hq] at hb
      rw [← hp] at h1
      rw [← hq] at h2
      rw [← hp, ← hq, ← hnn] at hn2
      rw [← hnn] at hn
      rw [← hnn]
      have hs2 : Hid (lenL (xs.take (k + 1)) = n + (q - p)) := by
        show _ = _
        rw [hs.out, hp, hq, hnn]
      have w1 : IntKind.i64.wrap (q - p) = q - p := by rw [IntKind.wrap_i64]; omega
      have w2 : IntKind.i64.wrap (n + (q - p)) = n + (q - p) := by rw [IntKind.wrap_i64]; omega
      clear hca hal hp hq hnn hn hn2 hs
      go_wp2
      go_roundw
      case rel => exact ⟨k + 1, by omega, by go_num, by rw [hs2.out], HL.out.alloc HL.out.size _⟩
      case measure => simp [intOf]; omega
    · obtain rfl : k = xs.length := by omega
      rw [List.take_length]
      go_wp2
      go_ret
      exact ⟨rfl, hal⟩
end Go.Proofs.Ytnkpboobfkjibad
namespace Go.Proofs.Ytnkpboobfkjibad
open Go.RowKit
set_option maxRecDepth 100000

theorem ilengthOf_yes (v : Value) (xs : List Sp) (w : World) (hr : SReads w v xs) (hg : goodL xs = true) :
    Calls Try.prog 38 #[v] w fun e w' => e = .returned (.tuple #[.int .i64 (lenL xs), .bool true]) ∧ Below w.heap.size w w' := by
  have HR := hid hr
  clear hr
  go_enter Try.func38, Try.ntmps38
  go_wp2_with fail
  refine (igood_any v xs w HR.out).mono ?_
  rintro e w1 ⟨rfl, b1⟩
  have B1 := hid b1
  clear b1
  rw [hg]
  go_wp2_with fail
  refine (ilen_any v xs w1 (HR.out.below B1.out) (good_chain hg)).mono ?_
  rintro e w2 ⟨rfl, b2⟩
  have B2 : Hid (Below w.heap.size w w2) := B1.out.trans (b2.mono B1.out.size)
  clear b2
  go_wp2
  go_ret2
  exact ⟨rfl, B2.out⟩
theorem ilengthOf_no (v : Value) (xs : List Sp) (w : World) (hr : SReads w v xs) (hg : goodL xs = false) :
    Calls Try.prog 38 #[v] w fun e w' => e = .returned (.tuple #[.int .i64 0, .bool false]) ∧ Below w.heap.size w w' := by
  have HR := hid hr
  clear hr
  go_enter Try.func38, Try.ntmps38
  go_wp2_with fail
  refine (igood_any v xs w HR.out).mono ?_
  rintro e w1 ⟨rfl, b1⟩
  have B1 := hid b1
  clear b1
  rw [hg]
  go_wp2
  go_ret2
  exact ⟨rfl, B1.out⟩
end Go.Proofs.Ytnkpboobfkjibad
