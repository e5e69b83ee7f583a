/-
  Rows of spans, their cells one behind the other. Plain facts.
  slices.Clone over spans: a new row that reads alike; of none an empty slice without room. Nothing old is written.
-/
import Derived.Test.YtnkpboobfkjibalSpans
import Derived.ArgAppend
import Derived.Deep.Upon
import Derived.Lib.SlFresh
import Derived.Lib.SliceRun
namespace Go.Proofs.Ytnkpboobfkjibal
open Go.RowKit
set_option maxRecDepth 100000

theorem owns_mono {w : World} {base base' : Nat} {t : TypeId} {size n : Nat} {v : Value} {cs : List Value} (h : w.ownsRow base t size v n cs) (hb : base' ≤ base) : w.ownsRow base' t size v n cs := by
  obtain ⟨h1, h2⟩ := h
  refine ⟨h1, ?_⟩
  rcases h2 with h | ⟨g, cap, cur, hv, hg, h⟩
  · exact .inl h
  · exact .inr ⟨g, cap, cur, hv, by omega, h⟩
theorem flat_one (xs : List Sp) : ∀ u ∈ flat xs, u.oneCell' = true := by
  intro u hu
  obtain ⟨x, _, hx⟩ := List.mem_flatMap.1 hu
  simp at hx
  rcases hx with rfl | rfl <;> rfl
/-- The cells of what is read, one behind the other. -/
theorem flat_cells {w : World} {b off : Nat} {xs : List Sp} (hc : ∀ i, i < xs.length → w.cell? ⟨b, off + i * 2, none⟩ = some (.int .i64 (xs.getD i (0, 0)).1) ∧ w.cell? ⟨b, off + i * 2 + 1, none⟩ = some (.int .i64 (xs.getD i (0, 0)).2)) :
    ∀ j u, (flat xs)[j]? = some u → w.cell? ((⟨b, off, none⟩ : Addr).add j) = some u := by
  intro j u hj
  have hlt : j < xs.length * 2 := by
    have := (List.getElem?_eq_some_iff.1 hj).1
    rwa [length_flat] at this
  have h1 := flat_get xs (j / 2) (by omega)
  have h2 := hc (j / 2) (by omega)
  rw [show (⟨b, off, none⟩ : Addr).add j = ⟨b, off + j, none⟩ by rcases j with _ | j <;> simp [Addr.add]]
  rcases (by omega : j % 2 = 0 ∨ j % 2 = 1) with e | e
  · rw [show j / 2 * 2 = j by omega] at h1 h2
    rw [h1.1] at hj
    rw [h2.1, ← hj]
  · rw [show j / 2 * 2 + 1 = j by omega, show off + j / 2 * 2 + 1 = off + j by omega] at *
    rw [h1.2] at hj
    rw [h2.2, ← hj]

end Go.Proofs.Ytnkpboobfkjibal
namespace Go.Proofs.Ytnkpboobfkjibal
open Go.RowKit
set_option maxRecDepth 100000

set_option maxHeartbeats 1000000 in
theorem clone_any (v : Value) (xs : List Sp) (w : World) (hr : SReads w v xs) (hx : xs.length ≤ 1048576) :
    Calls Try.prog 51 #[v] w fun e w' => ∃ v', e = .returned v' ∧ Below w.heap.size w w' ∧ ((xs = [] ∧ ∃ a, v' = .slice a 0 0) ∨ (xs ≠ [] ∧ w'.ownsRow w.heap.size 65 2 v' xs.length (flat xs))) := by
  obtain ⟨a, cap, rfl, hl, hxa⟩ := hr
  obtain ⟨i0, hi, hz0, hz1, hz2⟩ := info_parts info_span
  have hE : ∀ (a : Option Addr) (n c : Nat) (w' : World), (binOp .eql 36 (.slice a n c) (.slice none 0 0)).run Try.prog w' = .ok (.bool a.isNone) w' := fun a n c w' => Lib.run_eql_slice_nil w' 36 _ a n c 0 0 Try.underlying36
  by_cases h0 : xs = []
  · subst h0
    cases a with
    | none =>
      clear hxa
      have hE1 := hE none 0 cap
      simp only [Option.isNone_none] at hE1
      clear hE
      go_enter Try.func51, Try.ntmps51
      go_wp2
      go_ret
      exact ⟨_, rfl, Below.refl _ _, .inl ⟨trivial, none, rfl⟩⟩
    | some a =>
      clear hxa
      have hE1 := hE (some a) 0 cap
      simp only [Option.isNone_some] at hE1
      clear hE
      have hsz : i0.size = 2 := hz1
      go_enter Try.func51, Try.ntmps51
      go_wp2_with (at_builtin; refine Lib.wpList_append_run_sl _ rfl _ _ 36 rfl _ _ rfl rfl (run_append_nothing _ _ _ _ _ i0 Try.underlying36 hi _ _ _ (Nat.le_refl _) _ (by rw [hsz]; exact Src.ofSlice _ Try.underlying36 a 0 cap [] rfl (by intro j u h; simp at h) (by intro u h; simp at h))) ?_)
      go_ret
      refine ⟨_, rfl, ?_, .inl ⟨trivial, _, rfl⟩⟩
      go_grown
  · obtain ⟨b, off, rfl, hc⟩ : ∃ b off, a = some ⟨b, off, none⟩ ∧ ∀ i, i < xs.length → w.cell? ⟨b, off + i * 2, none⟩ = some (.int .i64 (xs.getD i (0, 0)).1) ∧ w.cell? ⟨b, off + i * 2 + 1, none⟩ = some (.int .i64 (xs.getD i (0, 0)).2) := hxa.resolve_left h0
    have hpos : 0 < xs.length := List.length_pos_iff.2 h0
    have hlt : b < w.heap.size := lt_of_cell (hc 0 hpos).1
    have hfc := hid (flat_cells hc)
    have H0 := hid h0
    have hE1 := hE (some ⟨b, off, none⟩) xs.length cap
    simp only [Option.isNone_some] at hE1
    clear hE hxa hc h0
    go_enter Try.func51, Try.ntmps51
    go_wp2_with (at_builtin; refine wpList_append_grows _ rfl _ _ 36 rfl 65 i0 (.agg #[.int .i64 0, .int .i64 0]) 2 16 Try.underlying36 hi hz0 hz1 hz2 rfl (by decide) (some ⟨w.heap.size, 0, none⟩) 0 0 [] rfl (by intro h; cases h) rfl (by intro b0 _ j u h; simp at h) ⟨b, off, none⟩ xs.length cap (flat xs) rfl (length_flat xs) ?c1 (flat_one xs) (by omega) (by unfold maxLen; omega) (by omega) ?_)
    case c1 =>
      intro j u hj
      have := hfc.out j u hj
      rw [show (⟨b, off, none⟩ : Addr).add j = ⟨b, off + j, none⟩ by rcases j with _ | j <;> simp [Addr.add]] at this ⊢
      rw [World.cell?_alloc_lt _ _ _ (by simpa using hlt)]
      exact this
    intro v' w1 hown hgr
    have B1 : Hid (Below w.heap.size w w1) := ((Below.refl _ _).alloc (Nat.le_refl _) _).grown hgr (by simp) (by intro k hk; cases hk)
    have O1 := hid (owns_mono hown (show w.heap.size ≤ _ by simp))
    clear hown hgr
    go_wp2
    go_ret
    exact ⟨_, rfl, B1.out, .inr ⟨H0.out, O1.out⟩⟩
end Go.Proofs.Ytnkpboobfkjibal
