/-
  Rows of letters cut and put together again: more laws. Plain facts on the memory.
  slices.Delete over letters, one of them: what is left lies where it lay, a cleared place behind it. Nothing else is written.
-/
import Derived.Test.YtdlkilacnnjglaaPut11
import Derived.Test.YtdlkilacnnjglaaKIntRows
import Derived.Deep.RegionLawGrows
import Derived.Lib.SliceRun
namespace Go.Proofs.Ytdlkilacnnjglaa
open Go.RowKit

/-- The same, the lengths and the row told by letters. -/
theorem wpList_append_hem (w : World) {ops : Array Oper} {rest : List Oper} {o : Oper} {a : Act} {Q : Exit → Act → World → Prop} (hgd : o.guard = none) (s x : Operand)
    (ho : o.op = .call { callee := .builtin .append, args := #[s, x], argTypes := #[47, 47] }) (base : Nat) (v : Value) (n : Nat) (xs : List HeEl) (hs : a.eval s = v) (hown : w.ownsRow base 116 3 v n (heflat xs)) (vx : Value) (ys : List HeEl) (hx : a.eval x = vx)
    (hr : HeReads w vx ys) (r : Nat) (zs : List HeEl) (hz : xs ++ ys = zs) (hrn : n + ys.length = r) (hl : r ≤ 1000000) (hbase : base ≤ w.heap.size)
    (h : ∀ v' w', w'.ownsRow base 116 3 v' r (heflat zs) → w.grownBy w' v.ownBlock → (v'.ownBlock = v.ownBlock ∨ v'.ownBlock = some w.heap.size) → wpList Try.prog ops Q rest (a.put o.dst v') w') : wpList Try.prog ops Q (o :: rest) a w := by
  subst hz hrn
  exact wpList_append_he w hgd s x ho base v n xs hs hown vx ys hx hr hl hbase h
theorem hereads_take {w : World} {g cap : Nat} {xs : List HeEl} (h : HeReads w (.slice (some ⟨g, 0, none⟩) xs.length cap) xs) (j : Nat) (hj : j ≤ xs.length) (c : Nat) (hc : j ≤ c) : HeReads w (.slice (some ⟨g, 0, none⟩) j c) (xs.take j) := by
  obtain ⟨a, c', e, hl, hx⟩ := h
  cases e
  have hlt : (xs.take j).length = j := by rw [List.length_take]; omega
  refine ⟨_, c, by rw [hlt], by rw [hlt]; omega, ?_⟩
  rcases hx with rfl | ⟨b, off, e, hc⟩
  · exact .inl (by simp)
  · refine .inr ⟨b, off, e, fun i hi => ?_⟩
    rw [hlt] at hi
    have := hc i (by omega)
    rw [show (xs.take j).getD i (0, 0, 0) = xs.getD i (0, 0, 0) by simp [List.getD_eq_getElem?_getD, hi]]
    exact this
theorem hereads_drop {w : World} {g cap : Nat} {xs : List HeEl} (h : HeReads w (.slice (some ⟨g, 0, none⟩) xs.length cap) xs) (j : Nat) (hj : j < xs.length) (c : Nat) (hc : xs.length - j ≤ c) : HeReads w (.slice (some ⟨g, j * 3, none⟩) (xs.length - j) c) (xs.drop j) := by
  obtain ⟨a, c', e, hl, hx⟩ := h
  cases e
  have hlt : (xs.drop j).length = xs.length - j := by rw [List.length_drop]
  refine ⟨_, c, by rw [hlt], by rw [hlt]; omega, ?_⟩
  rcases hx with rfl | ⟨b, off, e, hc⟩
  · simp at hj
  · cases e
    refine .inr ⟨g, j * 3, rfl, fun i hi => ?_⟩
    rw [hlt] at hi
    have := hc (j + i) (by omega)
    rw [show (xs.drop j).getD i (0, 0, 0) = xs.getD (j + i) (0, 0, 0) by simp [List.getD_eq_getElem?_getD, List.getElem?_drop]]
    rw [show j * 3 + i * 3 = 0 + (j + i) * 3 by omega]
    exact this
theorem erase_parts (xs : List HeEl) (j : Nat) : xs.take j ++ xs.drop (j + 1) = xs.eraseIdx j := by rw [List.eraseIdx_eq_take_drop_succ]
theorem RowsU.formJ {L j : Nat} {w : World} {v8 v9 v10 : Value} {l8 l9 l10 : List HeEl} (h : RowsU L w v8 v9 v10 l8 l9 l10) (hj : j < l8.length) : ∃ g c8 a9 c9 a10 c10, v8 = .slice (some ⟨g, 0, none⟩) l8.length c8 ∧ v9 = .slice a9 l9.length c9 ∧ v10 = .slice a10 l10.length c10 ∧ l8.length ≤ c8 := by
  obtain ⟨a9, c9, e9, _⟩ := heowns_form h.r9
  obtain ⟨a10, c10, e10, _⟩ := heowns_form h.r10
  rcases h.r8.2 with ⟨_, h0⟩ | ⟨g, cap, cur, e8, _, _, hc, _⟩
  · omega
  · exact ⟨g, cap, a9, c9, a10, c10, e8, e9, e10, hc⟩
theorem RowsU.cells8 {L j g c : Nat} {w : World} {v9 v10 : Value} {l8 l9 l10 : List HeEl} (h : RowsU L w (.slice (some ⟨g, 0, none⟩) l8.length c) v9 v10 l8 l9 l10) (hj : j < l8.length) : HeCells w g (j * 3) (l8.getD j (0, 0, 0)) := by
  obtain ⟨b, off, cap, e, hc⟩ := h.rows.1.cells j hj
  cases e
  have := hc j hj
  rwa [Nat.zero_add] at this
theorem Mv.new8 {w w' : World} {v8 v9 v10 u8 : Value} (h : Mv w w' v8 v9 v10 v8 v9 v10) (hu : ∀ k, u8.ownBlock = some k → w.heap.size ≤ k) : Mv w w' v8 v9 v10 u8 v9 v10 :=
  ⟨h.but, fun k hk => hk.elim (fun h1 => .inr (hu k h1)) fun h1 => .inl (.inr h1)⟩
theorem But.above {B : Nat} {w w' : World} (h : Below B w w') : But (fun k => B ≤ k) w w' := ⟨h.mono (Nat.zero_le _), fun k _ hp => h.block k (Nat.lt_of_not_le hp)⟩
theorem bk_new8 {B b : Nat} {v8 v9 v10 u8 : Value} (h : ¬ Bk v8 v9 v10 b) (hu : ∀ k, u8.ownBlock = some k → B ≤ k) (hb : b < B) : ¬ Bk u8 v9 v10 b := fun hk => hk.elim (fun h1 => by have := hu b h1; omega) fun h1 => h (.inr h1)
theorem reads_far {w : World} {g c8 j1 : Nat} {L8 : List HeEl} (h : HeReads w (.slice (some ⟨g, 0, none⟩) L8.length c8) L8) (hj : j1 ≤ L8.length) (hc : L8.length ≤ c8) : HeReads w (.slice (some ⟨g, j1 * 3, none⟩) (L8.length - j1) (c8 - j1)) (L8.drop j1) := by
  by_cases he : j1 < L8.length
  · exact hereads_drop h j1 he _ (by omega)
  · have e : L8.length - j1 = 0 := by omega
    rw [e, List.drop_eq_nil_of_le (by omega)]
    exact hereads_nil _ _ _
theorem reads_end {w : World} {j1 c8 : Nat} {L8 : List HeEl} (hj : j1 = c8) (hc : L8.length ≤ c8) (a : Option Addr) (c : Nat) : HeReads w (.slice a (L8.length - j1) c) (L8.drop j1) := by
  have e : L8.length - j1 = 0 := by omega
  rw [e, List.drop_eq_nil_of_le (by omega)]
  exact hereads_nil _ _ _
end Go.Proofs.Ytdlkilacnnjglaa
namespace Go.Proofs.Ytdlkilacnnjglaa
open Go.RowKit

theorem frozen_of_heap {w : World} {g : Nat} {cur : Array Value} {t : TypeId} (h : w.heap[g]? = some (.cells cur t (0, 0))) (i : Nat) : w.frozen? ⟨g, i, none⟩ = false := by simp [World.frozen?, h]
theorem heap_set (w : World) (g i : Nat) (u : Value) (cur : Array Value) (t : TypeId) (fz : Nat × Nat) (h : w.heap[g]? = some (.cells cur t fz)) : (w.setCell ⟨g, i, none⟩ u).heap[g]? = some (.cells (cur.setIfInBounds i u) t fz) := by
  simp [World.setCell, Array.getElem?_modify, h]
theorem take_set (cur : Array Value) (i k : Nat) (u : Value) (h : k ≤ i) : (cur.setIfInBounds i u).toList.take k = cur.toList.take k := by
  rw [Array.toList_setIfInBounds, List.take_set_of_le h]
/-- A letter is put over a place behind a row of one's own. -/
theorem owns_cut {w : World} {L g cap n : Nat} {xs : List HeEl} (h : w.ownsRow L 116 3 (.slice (some ⟨g, 0, none⟩) n cap) n (heflat xs)) (i : Nat) (u0 u1 u2 : Value) (hi : n * 3 ≤ i) :
    (((w.setCell ⟨g, i, none⟩ u0).setCell ⟨g, i + 1, none⟩ u1).setCell ⟨g, i + 2, none⟩ u2).ownsRow L 116 3 (.slice (some ⟨g, 0, none⟩) n cap) n (heflat xs) := by
  obtain ⟨h1, h2⟩ := h
  rcases h2 with ⟨e, _⟩ | ⟨g', cap', cur, e, hg, hh, hc, hm, hs, ht⟩
  · cases e
  · cases e
    have hx := h1
    refine ⟨h1, .inr ⟨g, cap, _, rfl, hg, heap_set _ _ _ _ _ _ _ (heap_set _ _ _ _ _ _ _ (heap_set _ _ _ _ _ _ _ hh)), hc, hm, by simpa using hs, ?_⟩⟩
    rw [take_set _ _ _ _ (by omega), take_set _ _ _ _ (by omega), take_set _ _ _ _ (by omega)]
    exact ht
set_option maxRecDepth 100000 in
/-- All but one, put together again where they lie. -/
theorem append_cut {w : World} {L g cap j : Nat} {xs : List HeEl} (h : w.ownsRow L 116 3 (.slice (some ⟨g, 0, none⟩) xs.length cap) xs.length (heflat xs)) (hj : j < xs.length) (hl : xs.length ≤ 1000) (a2 : Option Addr) (c2 : Nat) (ha : a2 = some ⟨g, (j + 1) * 3, none⟩ ∨ j + 1 = xs.length) :
    ∃ w', (∀ ty, (Builtin.append_ #[47, 47] ty #[.slice (some ⟨g, 0, none⟩) j cap, .slice a2 (xs.length - (j + 1)) c2]).run Try.prog w = .ok (.slice (some ⟨g, 0, none⟩) (xs.length - 1) cap) w') ∧ w'.ownsRow L 116 3 (.slice (some ⟨g, 0, none⟩) (xs.length - 1) cap) (xs.length - 1) (heflat (xs.eraseIdx j)) ∧ But (fun k => k = g) w w' ∧ (∀ i, i < xs.length * 3 → (∃ u, w'.cell? ⟨g, i, none⟩ = some u) ∧ w'.frozen? ⟨g, i, none⟩ = false) := by
  obtain ⟨i0, hi, hz0, hz1, hz2⟩ := info_parts info_hello
  have hrd := HeReads.of_owns h (by omega)
  obtain ⟨h1, h2⟩ := h
  rcases h2 with ⟨e, _⟩ | ⟨g', cap', cur, e, hg, hh, hc, hm, hs, ht⟩
  · cases e
  cases e
  by_cases hend : j + 1 = xs.length
  · -- nothing behind it
    have he : xs.length - (j + 1) = 0 := by omega
    have hn1 : xs.length - 1 = j := by omega
    refine ⟨w, fun ty => ?_, ⟨?_, .inr ⟨g, cap, cur, rfl, hg, hh, by omega, hm, hs, ?_⟩⟩, But.refl _ _, fun i hlt => ?_⟩
    · rw [he, hn1]
      exact henothing_run hi hz1 ty _ j cap (by omega) a2 c2
    · rw [length_heflat, List.length_eraseIdx_of_lt hj]
    · rw [← erase_parts, List.drop_eq_nil_of_le (by omega), List.append_nil, heflat_take, ← ht, List.take_take]
      congr 1
      omega
    · refine ⟨⟨cur[i]'(by rw [hs]; have := Nat.mul_le_mul_right 3 hc; omega), ?_⟩, ?_⟩
      · simp [World.cell?, hh]
      · simp [World.frozen?, hh]
  · obtain rfl : a2 = some ⟨g, (j + 1) * 3, none⟩ := ha.resolve_right hend
    have hjn : j + 1 < xs.length := by omega
    obtain ⟨ad, cd, ed, hld, hxd⟩ := hereads_drop hrd (j + 1) hjn (xs.length - (j + 1)) (Nat.le_refl _)
    have hdl : (xs.drop (j + 1)).length = xs.length - (j + 1) := List.length_drop
    have hcells : ∀ k u, (heflat (xs.drop (j + 1)))[k]? = some u → w.cell? ((⟨g, (j + 1) * 3, none⟩ : Addr).add k) = some u := by
      rcases hxd with hxd | ⟨b, off, eb, hcc⟩
      · have := congrArg List.length hxd; rw [hdl] at this; simp at this; omega
      · have e2 : ad = some ⟨g, (j + 1) * 3, none⟩ := by injection ed with e _ _; exact e.symm
        rw [e2] at eb
        cases eb
        exact heflat_cells hcc
    have hnl : (heflat (xs.drop (j + 1))).length = (xs.length - (j + 1)) * 3 := by rw [length_heflat, hdl]
    have hcs : xs.length * 3 ≤ cur.size := by rw [hs]; exact Nat.mul_le_mul_right 3 hc
    have hnew : (cur.toList.take (j * 3) ++ heflat (xs.drop (j + 1)) ++ cur.toList.drop (j * 3 + (heflat (xs.drop (j + 1))).length)).length = cap * 3 := by
      simp only [List.length_append, List.length_take, List.length_drop, Array.length_toList, hnl]
      rw [← hs]; omega
    have hlen : (xs.eraseIdx j).length = xs.length - 1 := List.length_eraseIdx_of_lt hj
    have hh2 := setRow_heap w g cur (cur.toList.take (j * 3) ++ heflat (xs.drop (j + 1)) ++ cur.toList.drop (j * 3 + (heflat (xs.drop (j + 1))).length)).toArray _ _ hh
    refine ⟨_, fun ty => ?_, ⟨by rw [length_heflat, hlen], .inr ⟨g, cap, _, rfl, hg, hh2, by omega, hm, by rw [List.size_toArray]; exact hnew, ?_⟩⟩, ⟨⟨rfl, rfl, rfl, by simp, fun k hk => by omega⟩, fun k _ hne => setRow_other w g k _ hne⟩, fun i hlt => ?_⟩
    · have hr := run_append_room (P := Try.prog) w 47 ty 116 i0 Try.underlying47 hi g j cap cur hh ⟨g, (j + 1) * 3, none⟩ (xs.length - (j + 1)) c2 (heflat (xs.drop (j + 1))) (by rw [hnl, hz1]) hcells (heflat_one _) (by omega) (by rw [hnl, hz1]; omega)
      rw [hz1] at hr
      rw [hr]
      congr 2
      omega
    · show List.take _ (cur.toList.take (j * 3) ++ heflat (xs.drop (j + 1)) ++ _) = _
      have h3 : (cur.toList.take (j * 3) ++ heflat (xs.drop (j + 1))).length = (xs.length - 1) * 3 := by
        simp only [List.length_append, List.length_take, Array.length_toList, hnl]; omega
      rw [← h3, List.take_left, ← erase_parts, heflat_append, heflat_take, ← ht, List.take_take]
      congr 2
      omega
    · have hsz : i < (cur.toList.take (j * 3) ++ heflat (xs.drop (j + 1)) ++ cur.toList.drop (j * 3 + (heflat (xs.drop (j + 1))).length)).length := by rw [hnew]; rw [hs] at hcs; omega
      have hget := List.getElem?_eq_getElem hsz
      refine ⟨⟨_, (cell_of_row _ g i _ _ (0, 0) hh2).trans ((by simp : _ = _).trans hget)⟩, ?_⟩
      · exact frozen_of_heap hh2 i
end Go.Proofs.Ytdlkilacnnjglaa
