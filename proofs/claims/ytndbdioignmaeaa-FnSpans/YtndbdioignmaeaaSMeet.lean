/-
  spec.l2Meet, spec.l2Missing, spec.l2Join: in memory of their own; nothing old is written.
-/
import Derived.Test.YtndbdioignmaeaaSpanTake
import Derived.Test.YtndbdioignmaeaaRows2
import Derived.Test.YtndbdioignmaeaaLeast
import Derived.Test.YtndbdioignmaeaaHeapSet
import Derived.Deep.RegionHeld3
import Derived.Deep.DrawnRows
import Derived.Maps.AppendAt
namespace Go.Proofs.Ytndbdioignmaeaa
open Go.RowKit
set_option maxRecDepth 100000

/-- The one end of a region: all went well, this state, this world. -/
def onlyN (A : Act) (W : World) : Exit → Act → World → Prop
  | .normal, a, w => a = A ∧ w = W
  | _, _, _ => False
theorem onlyN_out {A : Act} {W : World} {e : Exit} {a : Act} {w : World} (h : onlyN A W e a w) : e = .normal ∧ a = A ∧ w = W := by
  cases e <;> first | exact ⟨rfl, h⟩ | exact h.elim
theorem pair_at {W : World} {b : Nat} {y : Sp} (h0 : W.cell? ⟨b, 0, none⟩ = some (.int .i64 y.1)) (h1 : W.cell? ⟨b, 1, none⟩ = some (.int .i64 y.2)) : ∀ j u, (flat [y])[j]? = some u → W.cell? ((⟨b, 0, none⟩ : Addr).add j) = some u := by
  intro j u hj
  rcases j with _ | _ | j
  · simp [flat] at hj; subst hj; simpa [Addr.add] using h0
  · simp [flat] at hj; subst hj; simpa [Addr.add] using h1
  · simp [flat] at hj
theorem meetOne_snoc (x : Sp) (b : List Sp) (y : Sp) : meetOne x (b ++ [y]) = meetOne x b ++ (if max x.1 y.1 < min x.2 y.2 then [(max x.1 y.1, min x.2 y.2)] else []) := by
  induction b with
  | nil => rfl
  | cons z b ih =>
    simp only [List.cons_append, meetOne, ih]
    split <;> rfl
theorem meetL_snoc (a b : List Sp) (x : Sp) : meetL (a ++ [x]) b = meetL a b ++ meetOne x b := by
  induction a with
  | nil => simp [meetL]
  | cons y a ih => simp [meetL, ih]
theorem meetOne_length (x : Sp) (b : List Sp) : (meetOne x b).length ≤ b.length := by
  induction b with
  | nil => simp [meetOne]
  | cons y b ih =>
    simp only [meetOne]
    split
    · simp; exact ih
    · simp; omega
theorem meetL_length (a b : List Sp) : (meetL a b).length ≤ a.length * b.length := by
  induction a with
  | nil => simp [meetL]
  | cons x a ih =>
    have := meetOne_length x b
    simp only [meetL, List.length_append, List.length_cons, Nat.succ_mul]
    omega

set_option maxHeartbeats 8000000 in
theorem smeet_any (va vb : Value) (xs ys : List Sp) (w : World) (ha : SReads w va xs) (hb : SReads w vb ys) (lx : xs.length ≤ 1000) (ly : ys.length ≤ 1000) :
    Calls Try.prog 57 #[va, vb] w fun e w' => ∃ v', e = .returned v' ∧ SOwn w.heap.size w' v' (meetL xs ys) ∧ Below w.heap.size w w' := by
  obtain ⟨i0, hi, hz0, hz1, hz2⟩ := info_parts info_span
  have HA := hid ha
  have HB := hid hb
  obtain ⟨a, ca, rfl, _, _⟩ := ha
  obtain ⟨b, cb, rfl, _, _⟩ := hb
  go_enter Try.func57, Try.ntmps57
  go_wp2
  go_loopw [5, 13] (fun o i wr => ∃ k n : Nat, k ≤ xs.length ∧ i = .int .i64 k ∧ wr.ownsRow w.heap.size 39 2 o n (flat (meetL (xs.take k) ys)) ∧ Below w.heap.size w wr) (fun _ i _ => xs.length - (intOf i).toNat)
  case atStart => exact ⟨0, 0, Nat.zero_le _, rfl, owns_nil _ _ _, Below.refl _ _⟩
  case round =>
    obtain ⟨k, n, hk, rfl, hown, hbel⟩ := hrel
    have HO := hid hown
    have HL := hid hbel
    clear hown hbel
    by_cases hlt : k < xs.length
    · obtain ⟨ga, oa, cap', e, hca⟩ := sreads_cells (HA.out.below HL.out) k hlt
      cases e
      obtain ⟨c1, c2⟩ := hca k hlt
      have HX : Hid (meetL (xs.take (k + 1)) ys = meetL (xs.take k) ys ++ meetOne ((xs.getD k (0, 0)).1, (xs.getD k (0, 0)).2) ys) := by
        show _ = _
        rw [take_snoc' xs k hlt, meetL_snoc]
      have hml : (meetL (xs.take k) ys).length ≤ 1000000 := by
        have h1 := meetL_length (xs.take k) ys
        have h2 : (xs.take k).length * ys.length ≤ 1000 * 1000 := Nat.mul_le_mul (by simp; omega) ly
        omega
      clear hca
      generalize (xs.getD k (0, 0)).1 = p at c1 HX
      generalize (xs.getD k (0, 0)).2 = q at c2 HX
      obtain ⟨wo, hwo⟩ : ∃ wo, wo = wr := ⟨_, rfl⟩
      subst hwo
      go_wp2
      go_loopw [5, 19] (fun o i wz => ∃ j n : Nat, j ≤ ys.length ∧ i = .int .i64 j ∧ wz.ownsRow w.heap.size 39 2 o n (flat (meetL (xs.take k) ys ++ meetOne (p, q) (ys.take j))) ∧ (wz.cell? ⟨wo.heap.size, 0, none⟩ = some (.int .i64 p) ∧ wz.cell? ⟨wo.heap.size, 1, none⟩ = some (.int .i64 q)) ∧ (w.heap.size ≤ wo.heap.size ∧ wo.heap.size < wz.heap.size ∧ o.ownBlock ≠ some wo.heap.size) ∧ Below w.heap.size w wz) (fun _ i _ => ys.length - (intOf i).toNat)
      case atStart =>
        refine ⟨0, n, Nat.zero_le _, rfl, ?_, ⟨by simp, by simp⟩, ⟨HL.out.size, by simp, fun h => by have := (HO.out.lt _ h).2; omega⟩, HL.out.alloc HL.out.size _⟩
        have := HO.out.alloc (.cells #[.int .i64 p, .int .i64 q] 39)
        simpa [meetOne] using this
      case round =>
        obtain ⟨j, n2, hj, rfl, hown2, ⟨d0, d1⟩, ⟨hsz0, hsz1, hapart⟩, hbel2⟩ := hrel
        have HP := hid hapart
        clear hapart
        have HO2 := hid hown2
        have HL2 := hid hbel2
        clear hown2 hbel2
        by_cases hlt2 : j < ys.length
        · obtain ⟨gb, ob, cap2, e, hcb⟩ := sreads_cells (HB.out.below HL2.out) j hlt2
          cases e
          obtain ⟨c3, c4⟩ := hcb j hlt2
          have hgb : gb < wr.heap.size := lt_of_cell c3
          have HX2 : Hid (meetOne (p, q) (ys.take (j + 1)) = meetOne (p, q) (ys.take j) ++ if max p (ys.getD j (0, 0)).1 < min q (ys.getD j (0, 0)).2 then [(max p (ys.getD j (0, 0)).1, min q (ys.getD j (0, 0)).2)] else []) := by
            show _ = _
            rw [take_snoc' ys j hlt2, meetOne_snoc]
          have hol := meetOne_length (p, q) (ys.take j)
          have hn2 : n2 = (meetL (xs.take k) ys ++ meetOne (p, q) (ys.take j)).length := by have := HO2.out.1; rw [length_flat] at this; omega
          have hn3 : n2 ≤ 1002000 := by rw [hn2, List.length_append]; rw [List.length_take] at hol; omega
          clear hcb hol hn2
          generalize (ys.getD j (0, 0)).1 = r at c3 HX2
          generalize (ys.getD j (0, 0)).2 = s at c4 HX2
          obtain ⟨mx, hmx⟩ : ∃ m, m = max p r := ⟨_, rfl⟩
          obtain ⟨mn, hmn⟩ : ∃ m, m = min q s := ⟨_, rfl⟩
          have HMX := hid hmx
          have HMN := hid hmn
          have MM : Hid (∀ wq, Calls Try.prog 96 #[.int .i64 p, .int .i64 r] wq fun e w' => e = .returned (.int .i64 mx) ∧ w' = wq) := fun wq => by rw [HMX.out]; exact most_any p r wq
          have ML : Hid (∀ wq, Calls Try.prog 97 #[.int .i64 q, .int .i64 s] wq fun e w' => e = .returned (.int .i64 mn) ∧ w' = wq) := fun wq => by rw [HMN.out]; exact least_any q s wq
          rw [← HMX.out, ← HMN.out] at HX2
          clear hmx hmn
          have hne : wo.heap.size ≠ wr.heap.size := by omega
          go_wp2_with fail
          apply Code.wp_mono (Q := onlyN _ _)
          case h =>
            go_region_held3 (fun w' => w'.cell? ⟨wo.heap.size, 0, none⟩ = some (.int .i64 p) ∧ w'.cell? ⟨wo.heap.size, 1, none⟩ = some (.int .i64 q) ∧ w'.cell? ⟨wr.heap.size, 0, none⟩ = some (.int .i64 r) ∧ w'.cell? ⟨wr.heap.size, 1, none⟩ = some (.int .i64 s)) (go_keep) (first | (go_at_call 97; refine (ML.out _).mono ?_; rintro e w' ⟨rfl, rfl⟩) | (go_at_call 96; refine (MM.out _).mono ?_; rintro e w' ⟨rfl, rfl⟩))
            all_goals exact ⟨rfl, rfl⟩
          case hq =>
            intro e a' w' h
            obtain ⟨rfl, rfl, rfl⟩ := onlyN_out h
            clear h
            by_cases hc : mx < mn
            · have HE : Hid (meetOne (p, q) (ys.take (j + 1)) = meetOne (p, q) (ys.take j) ++ [(mx, mn)]) := by
                show _ = _
                rw [HX2.out, if_pos hc]
              go_wp2_with (at_builtin; refine wpList_append_own_at _ rfl _ _ 23 rfl w.heap.size 39 i0 (.agg #[.int .i64 0, .int .i64 0]) 2 16 Try.underlying23 hi hz0 hz1 hz2 rfl (by decide) _ n2 (flat (meetL (xs.take k) ys ++ meetOne (p, q) (ys.take j))) rfl ?own ⟨wr.heap.size + 1 + 1, 0, none⟩ 1 1 (flat [(mx, mn)]) rfl rfl (pair_at ?p0 ?p1) (flat_one _) (by unfold maxLen; omega) (by omega) ?c5 ?_)
              case own => exact ((HO2.out.alloc _).drew.alloc _).alloc _
              case c5 => have := HL2.out.size; simp; omega
              intro v3 w3 hown3 hgr3 _ hat
              have B3 : Hid (Below w.heap.size w w3) := ((((HL2.out.alloc HL2.out.size _).drew).alloc (by have := HL2.out.size; simp; omega) _).alloc (by have := HL2.out.size; simp; omega) _).grown hgr3 (by have := HL2.out.size; simp; omega) (owns_block HO2.out)
              have O3 : Hid (w3.ownsRow w.heap.size 39 2 v3 (n2 + 1) (flat (meetL (xs.take k) ys ++ meetOne (p, q) (ys.take (j + 1))))) := by
                have := hown3
                rw [← flat_append, List.append_assoc, ← HE.out] at this
                exact this
              have e0 := hgr3.cell (a := ⟨wo.heap.size, 0, none⟩) (v := .int .i64 p) ((((((Below.refl wr.heap.size wr).alloc (Nat.le_refl _) _).drew).alloc (by simp) _).alloc (by simp; omega) _).cell (p := ⟨wo.heap.size, 0, none⟩) hsz1 |>.trans d0) (fun h => HP.out h.symm)
              have e1 := hgr3.cell (a := ⟨wo.heap.size, 1, none⟩) (v := .int .i64 q) ((((((Below.refl wr.heap.size wr).alloc (Nat.le_refl _) _).drew).alloc (by simp) _).alloc (by simp; omega) _).cell (p := ⟨wo.heap.size, 1, none⟩) hsz1 |>.trans d1) (fun h => HP.out h.symm)
              have hs3 : wr.heap.size ≤ w3.heap.size := by have := hgr3.size; simp at this; omega
              have P3 : Hid (v3.ownBlock ≠ some wo.heap.size) := fun h => by
                rcases hat with h' | h'
                · exact HP.out (h'.symm.trans h)
                · rw [h'] at h; simp at h; omega
              clear hown3 hgr3 hat
              go_wp2
              go_roundw
              case rel => exact ⟨j + 1, n2 + 1, by omega, by go_num, O3.out, ⟨e0, e1⟩, ⟨hsz0, by omega, P3.out⟩, B3.out⟩
              case measure => simp [intOf]; omega
            · have HE : Hid (meetOne (p, q) (ys.take (j + 1)) = meetOne (p, q) (ys.take j)) := by
                show _ = _
                rw [HX2.out, if_neg hc, List.append_nil]
              go_wp2
              go_roundw
              case rel =>
                refine ⟨j + 1, n2, by omega, by go_num, ?_, ⟨((((Below.refl wr.heap.size wr).alloc (Nat.le_refl _) _).drew).alloc (by simp) _).cell (p := ⟨wo.heap.size, 0, none⟩) hsz1 |>.trans d0, ((((Below.refl wr.heap.size wr).alloc (Nat.le_refl _) _).drew).alloc (by simp) _).cell (p := ⟨wo.heap.size, 1, none⟩) hsz1 |>.trans d1⟩, ⟨hsz0, by simp; omega, HP.out⟩, ((HL2.out.alloc HL2.out.size _).drew).alloc (by have := HL2.out.size; simp; omega) _⟩
                rw [HE.out]
                exact (HO2.out.alloc _).drew.alloc _
              case measure => simp [intOf]; omega
        · go_wp2
          go_roundw
          case rel =>
            refine ⟨k + 1, n2, by omega, by go_num, ?_, HL2.out⟩
            rw [HX.out]
            have := HO2.out
            rw [List.take_of_length_le (l := ys) (by omega)] at this
            exact this
          case measure => simp [intOf]; omega
    · go_wp2
      go_ret
      refine ⟨_, rfl, ?_, HL.out⟩
      have := HO.out
      rw [List.take_of_length_le (by omega)] at this
      exact SOwn.of_owns this (by have h1 := meetL_length xs ys; have h2 : xs.length * ys.length ≤ 1000 * 1000 := Nat.mul_le_mul lx ly; omega)
end Go.Proofs.Ytndbdioignmaeaa
