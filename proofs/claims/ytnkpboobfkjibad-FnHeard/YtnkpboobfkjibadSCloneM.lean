/-
  Rows of spans, their cells one behind the other. Plain facts.
  Parts of a row of spans. Plain facts.
  slices.Clone over spans: a new row that reads alike; of none an empty slice without room. Nothing old is written.
-/
import Derived.Test.YtnkpboobfkjibadSpans
import Derived.ArgAppend
import Derived.Deep.Upon
import Derived.Lib.SlFresh
import Derived.Lib.SliceRun
namespace Go.Proofs.Ytnkpboobfkjibad
open Go.RowKit
set_option maxRecDepth 100000

theorem owns_mono {w : World} {base base' : Nat} {t : TypeId} {size n : Nat} {v : Value} {cs : List Value} (h : w.ownsRow base t size v n cs) (hb : base' ≤ base) : w.ownsRow base' t size v n cs := by
  obtain ⟨h1, h2⟩ := h
  refine ⟨h1, ?_⟩
  rcases h2 with h | ⟨g, cap, cur, hv, hg, h⟩
  · exact .inl h
  · exact .inr ⟨g, cap, cur, hv, by omega, h⟩
theorem flat_one (xs : List Sp) : ∀ u ∈ flat xs, u.oneCell' = true := by
  intro u hu
  obtain ⟨x, _, hx⟩ := List.mem_flatMap.1 hu
  simp at hx
  rcases hx with rfl | rfl <;> rfl
/-- The cells of what is read, one behind the other. -/
theorem flat_cells {w : World} {b off : Nat} {xs : List Sp} (hc : ∀ i, i < xs.length → w.cell? ⟨b, off + i * 2, none⟩ = some (.int .i64 (xs.getD i (0, 0)).1) ∧ w.cell? ⟨b, off + i * 2 + 1, none⟩ = some (.int .i64 (xs.getD i (0, 0)).2)) :
    ∀ j u, (flat xs)[j]? = some u → w.cell? ((⟨b, off, none⟩ : Addr).add j) = some u := by
  intro j u hj
  have hlt : j < xs.length * 2 := by
    have := (List.getElem?_eq_some_iff.1 hj).1
    rwa [length_flat] at this
  have h1 := flat_get xs (j / 2) (by omega)
  have h2 := hc (j / 2) (by omega)
  rw [show (⟨b, off, none⟩ : Addr).add j = ⟨b, off + j, none⟩ by rcases j with _ | j <;> simp [Addr.add]]
  rcases (by omega : j % 2 = 0 ∨ j % 2 = 1) with e | e
  · rw [show j / 2 * 2 = j by omega] at h1 h2
    rw [h1.1] at hj
    rw [h2.1, ← hj]
  · rw [show j / 2 * 2 + 1 = j by omega, show off + j / 2 * 2 + 1 = off + j by omega] at *
    rw [h1.2] at hj
    rw [h2.2, ← hj]

end Go.Proofs.Ytnkpboobfkjibad
namespace Go.Proofs.Ytnkpboobfkjibad
open Go.RowKit
set_option maxRecDepth 100000

theorem flat_append (xs ys : List Sp) : flat (xs ++ ys) = flat xs ++ flat ys := by simp [flat]
theorem sreads_addr {w : World} {a : Option Addr} {n cap : Nat} {ys : List Sp} (h : SReads w (.slice a n cap) ys) : n = ys.length ∧ (ys = [] ∨ ∃ b off, a = some ⟨b, off, none⟩ ∧ ∀ j u, (flat ys)[j]? = some u → w.cell? ((⟨b, off, none⟩ : Addr).add j) = some u) := by
  obtain ⟨a', cap', e, _, h⟩ := h
  cases e
  refine ⟨rfl, ?_⟩
  rcases h with h | ⟨b, off, rfl, hc⟩
  · exact .inl h
  · exact .inr ⟨b, off, rfl, flat_cells hc⟩
/-- Nothing is appended. -/
theorem nothing_run {w : World} {i0 : TypeInfo} (hi : Try.prog.info? 133 = some i0) (hsz : i0.size = 2) (ty : TypeId) (ao : Option Addr) (n c : Nat) (hle : n ≤ c) (a : Option Addr) (cy : Nat) :
    (Builtin.append_ #[47, 47] ty #[.slice ao n c, .slice a 0 cy]).run Try.prog w = .ok (.slice ao n c) w := by
  refine run_append_nothing _ _ _ _ _ i0 Try.underlying47 hi _ _ _ hle _ ?_
  rw [hsz]
  cases a with
  | none => exact Src.ofNil _ Try.underlying47 cy
  | some ad => exact Src.ofSlice _ Try.underlying47 ad 0 cy [] rfl (by intro j u h; simp at h) (by intro u h; simp at h)

theorem flat_drop (xs : List Sp) (k : Nat) : flat (xs.drop k) = (flat xs).drop (k * 2) := by
  induction xs generalizing k with
  | nil => simp [flat]
  | cons x xs ih =>
    cases k with
    | zero => rfl
    | succ k =>
      rw [List.drop_succ_cons, ih, show (k + 1) * 2 = k * 2 + 1 + 1 by omega]
      rfl
theorem flat_take (xs : List Sp) (k : Nat) : flat (xs.take k) = (flat xs).take (k * 2) := by
  induction xs generalizing k with
  | nil => simp [flat]
  | cons x xs ih =>
    cases k with
    | zero => rfl
    | succ k =>
      rw [List.take_succ_cons, show (k + 1) * 2 = k * 2 + 1 + 1 by omega]
      show _ :: _ :: flat (xs.take k) = _ :: _ :: (flat xs).take (k * 2)
      rw [ih]
theorem add_lit' (g o j : Nat) : (⟨g, o, none⟩ : Addr).add j = ⟨g, o + j, none⟩ := by rcases j with _ | j <;> simp [Addr.add]
theorem cells_drop {w : World} {g : Nat} {xs : List Sp} (h : ∀ j u, (flat xs)[j]? = some u → w.cell? ⟨g, j, none⟩ = some u) (k : Nat) : ∀ j u, (flat (xs.drop k))[j]? = some u → w.cell? ((⟨g, k * 2, none⟩ : Addr).add j) = some u := by
  intro j u hj
  rw [flat_drop, List.getElem?_drop] at hj
  rw [add_lit']
  exact h _ _ hj
theorem cells_take {w : World} {g : Nat} {xs : List Sp} (h : ∀ j u, (flat xs)[j]? = some u → w.cell? ⟨g, j, none⟩ = some u) (k : Nat) : ∀ j u, (flat (xs.take k))[j]? = some u → w.cell? ((⟨g, 0, none⟩ : Addr).add j) = some u := by
  intro j u hj
  rw [flat_take, List.getElem?_take] at hj
  rw [add_lit', Nat.zero_add]
  split at hj
  · exact h _ _ hj
  · cases hj
theorem cells_grown {w w' : World} {g : Nat} {cs : List Value} (h : ∀ j u, cs[j]? = some u → w.cell? ⟨g, j, none⟩ = some u) (hb : Below w.heap.size w w') : ∀ j u, cs[j]? = some u → w'.cell? ⟨g, j, none⟩ = some u := fun j u hj =>
  (hb.cell (p := ⟨g, j, none⟩) (lt_of_cell (h j u hj))).trans (h j u hj)
/-- A part of a row of one's own, without room behind it. -/
theorem sown_part {base g : Nat} {w : World} {xs : List Sp} {cur : Array Value} {t : TypeId} (hh : w.heap[g]? = some (.cells cur t (0, 0))) (ht : cur.toList.take (xs.length * 2) = flat xs) (hg : base ≤ g) (k c : Nat) (hk : k ≤ xs.length) (hkc : k ≤ c) (hl : xs.length ≤ 1048576) : SOwn base w (.slice (some ⟨g, 0, none⟩) k c) (xs.take k) := by
  have e : (xs.take k).length = k := by simp; omega
  refine ⟨by omega, .inr ⟨g, c, by rw [e], ⟨hg, by omega⟩, fun i hi => ?_⟩⟩
  rw [e] at hi
  have hi' : i < xs.length := by omega
  have := own_cells hh ht (Nat.le_refl _) i hi'
  rw [show (xs.take k).getD i (0, 0) = xs.getD i (0, 0) by rw [List.getD_eq_getElem?_getD, List.getD_eq_getElem?_getD, List.getElem?_take, if_pos hi]]
  exact this

end Go.Proofs.Ytnkpboobfkjibad
namespace Go.Proofs.Ytnkpboobfkjibad
open Go.RowKit
set_option maxRecDepth 100000

set_option maxHeartbeats 1000000 in
theorem clone_any (v : Value) (xs : List Sp) (w : World) (hr : SReads w v xs) (hx : xs.length ≤ 1048576) :
    Calls Try.prog 133 #[v] w fun e w' => ∃ v', e = .returned v' ∧ Below w.heap.size w w' ∧ ((xs = [] ∧ ∃ a, v' = .slice a 0 0) ∨ (xs ≠ [] ∧ w'.ownsRow w.heap.size 133 2 v' xs.length (flat xs))) := by
  obtain ⟨a, cap, rfl, hl, hxa⟩ := hr
  obtain ⟨i0, hi, hz0, hz1, hz2⟩ := info_parts info_span
  have hE : ∀ (a : Option Addr) (n c : Nat) (w' : World), (binOp .eql 47 (.slice a n c) (.slice none 0 0)).run Try.prog w' = .ok (.bool a.isNone) w' := fun a n c w' => Lib.run_eql_slice_nil w' 47 _ a n c 0 0 Try.underlying47
  by_cases h0 : xs = []
  · subst h0
    cases a with
    | none =>
      clear hxa
      have hE1 := hE none 0 cap
      simp only [Option.isNone_none] at hE1
      clear hE
      go_enter Try.func133, Try.ntmps133
      go_wp2
      go_ret
      exact ⟨_, rfl, Below.refl _ _, .inl ⟨trivial, none, rfl⟩⟩
    | some a =>
      clear hxa
      have hE1 := hE (some a) 0 cap
      simp only [Option.isNone_some] at hE1
      clear hE
      have hsz : i0.size = 2 := hz1
      go_enter Try.func133, Try.ntmps133
      go_wp2_with (at_builtin; refine Lib.wpList_append_run_sl _ rfl _ _ 47 rfl _ _ rfl rfl (run_append_nothing _ _ _ _ _ i0 Try.underlying47 hi _ _ _ (Nat.le_refl _) _ (by rw [hsz]; exact Src.ofSlice _ Try.underlying47 a 0 cap [] rfl (by intro j u h; simp at h) (by intro u h; simp at h))) ?_)
      go_ret
      refine ⟨_, rfl, ?_, .inl ⟨trivial, _, rfl⟩⟩
      go_grown
  · obtain ⟨b, off, rfl, hc⟩ : ∃ b off, a = some ⟨b, off, none⟩ ∧ ∀ i, i < xs.length → w.cell? ⟨b, off + i * 2, none⟩ = some (.int .i64 (xs.getD i (0, 0)).1) ∧ w.cell? ⟨b, off + i * 2 + 1, none⟩ = some (.int .i64 (xs.getD i (0, 0)).2) := hxa.resolve_left h0
    have hpos : 0 < xs.length := List.length_pos_iff.2 h0
    have hlt : b < w.heap.size := lt_of_cell (hc 0 hpos).1
    have hfc := hid (flat_cells hc)
    have H0 := hid h0
    have hE1 := hE (some ⟨b, off, none⟩) xs.length cap
    simp only [Option.isNone_some] at hE1
    clear hE hxa hc h0
    go_enter Try.func133, Try.ntmps133
    go_wp2_with (at_builtin; refine wpList_append_grows _ rfl _ _ 47 rfl 133 i0 (.agg #[.int .i64 0, .int .i64 0]) 2 16 Try.underlying47 hi hz0 hz1 hz2 rfl (by decide) (some ⟨w.heap.size, 0, none⟩) 0 0 [] rfl (by intro h; cases h) rfl (by intro b0 _ j u h; simp at h) ⟨b, off, none⟩ xs.length cap (flat xs) rfl (length_flat xs) ?c1 (flat_one xs) (by omega) (by unfold maxLen; omega) (by omega) ?_)
    case c1 =>
      intro j u hj
      have := hfc.out j u hj
      rw [show (⟨b, off, none⟩ : Addr).add j = ⟨b, off + j, none⟩ by rcases j with _ | j <;> simp [Addr.add]] at this ⊢
      rw [World.cell?_alloc_lt _ _ _ (by simpa using hlt)]
      exact this
    intro v' w1 hown hgr
    have B1 : Hid (Below w.heap.size w w1) := ((Below.refl _ _).alloc (Nat.le_refl _) _).grown hgr (by simp) (by intro k hk; cases hk)
    have O1 := hid (owns_mono hown (show w.heap.size ≤ _ by simp))
    clear hown hgr
    go_wp2
    go_ret
    exact ⟨_, rfl, B1.out, .inr ⟨H0.out, O1.out⟩⟩
end Go.Proofs.Ytnkpboobfkjibad
