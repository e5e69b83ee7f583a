/-
  spec.l2Join: in memory of its own; nothing old is written.
-/
import Derived.Test.YtijojdempijhbaiSpanTake
import Derived.Deep.RegionHeld3
import Derived.Deep.DrawnRows
import Derived.Maps.AppendAt
import Derived.Test.YtijojdempijhbaiSAdd
import Derived.Test.YtijojdempijhbaiITell2
namespace Go.Proofs.Ytijojdempijhbai
open Go.RowKit
set_option maxRecDepth 100000

set_option maxHeartbeats 1000000 in
theorem sjoin_aux (va vb : Value) (xs ys zs : List Sp) (hzs : zs = xs) (w : World) (ha : SReads w va xs) (hb : SReads w vb ys) (ga : chainB (-1) xs = true) (gb : chainB (-1) ys = true) :
    Calls Try.prog 63 #[va, vb] w fun e w' => ∃ v', e = .returned v' ∧ SOwn w.heap.size w' v' (joinL zs ys) ∧ Below w.heap.size w w' := by
  obtain ⟨i0, hi, hz0, hz1, hz2⟩ := info_parts info_span
  have HB := hid hb
  have CA := hid ga
  have CB := hid gb
  have la := chain_len' ga
  obtain ⟨b, cb, rfl, _, _⟩ := hb
  obtain ⟨a, ca, rfl, _, hxa⟩ := ha
  clear ga gb
  rw [← hzs] at CA
  have HZ := hid hzs
  clear hzs
  go_enter Try.func63, Try.ntmps63
  by_cases h0 : xs = []
  case' pos =>
    subst h0
    clear hxa
    cases a
    all_goals
      go_wp2_with (at_builtin; refine Lib.wpList_append_run_sl _ rfl _ _ 23 rfl _ _ rfl rfl (nothing_run hi hz1 _ _ _ _ (Nat.le_refl _) _ _) ?_)
      have O1 : Hid (SOwn w.heap.size (w.alloc (.cells #[] 51)) (.slice (some ⟨w.heap.size, 0, none⟩) 0 0) zs) := by show SOwn _ _ _ _; rw [HZ.out]; exact sown_nil _ _ _
      have B1 : Hid (Below w.heap.size w (w.alloc (.cells #[] 51))) := (Below.refl _ _).alloc (Nat.le_refl _) _
  case' neg =>
    obtain ⟨ga, oa, rfl, hca⟩ := hxa.resolve_left h0
    have hlt : ga < w.heap.size := lt_of_cell (hca 0 (List.length_pos_iff.2 h0)).1
    have hpos : 0 < xs.length := List.length_pos_iff.2 h0
    have hfc := hid (flat_cells hca)
    clear hxa hca h0
    go_wp2_with (at_builtin; refine wpList_append_grows _ rfl _ _ 23 rfl 51 i0 (.agg #[.int .i64 0, .int .i64 0]) 2 16 Try.underlying23 hi hz0 hz1 hz2 rfl (by decide) (some ⟨w.heap.size, 0, none⟩) 0 0 [] rfl (by intro h; cases h) rfl (by intro b0 _ j u h; simp at h) ⟨ga, oa, none⟩ xs.length ca (flat xs) rfl (length_flat xs) ?c1 (flat_one xs) (by omega) (by unfold maxLen; omega) (by omega) ?_)
    case c1 =>
      intro j u hj
      have := hfc.out j u hj
      rw [show (⟨ga, oa, none⟩ : Addr).add j = ⟨ga, oa + j, none⟩ by rcases j with _ | j <;> simp [Addr.add]] at this ⊢
      rw [World.cell?_alloc_lt _ _ _ (by simpa using hlt)]
      exact this
    intro v' w1 hown hgr
    have B1 : Hid (Below w.heap.size w w1) := ((Below.refl _ _).alloc (Nat.le_refl _) _).grown hgr (by simp) (by intro k hk; cases hk)
    have O1 : Hid (SOwn w.heap.size w1 v' zs) := by show SOwn _ _ _ _; rw [HZ.out]; exact SOwn.of_owns (owns_mono hown (show w.heap.size ≤ _ by simp)) (by omega)
    clear hown hgr
    go_wp2
  all_goals
    clear HZ
    go_loopw [5, 13] (fun o i wr => ∃ k : Nat, k ≤ ys.length ∧ i = .int .i64 k ∧ SOwn w.heap.size wr o (joinL zs (ys.take k)) ∧ Below w.heap.size w wr) (fun _ i _ => ys.length - (intOf i).toNat)
    case atStart => exact ⟨0, Nat.zero_le _, rfl, O1.out, B1.out⟩
    case round =>
      obtain ⟨k, hk, rfl, hown, hbel⟩ := hrel
      have HO := hid hown
      have HB' := hid hbel
      clear hown hbel
      by_cases hlt : k < ys.length
      · obtain ⟨ga, oa, cap', e, hca⟩ := sreads_cells (HB.out.below HB'.out) k hlt
        cases e
        have c1 := (hca k hlt).1
        have c2 := (hca k hlt).2
        have HX : Hid (addL (joinL zs (ys.take k)) ((ys.getD k (0, 0)).1, (ys.getD k (0, 0)).2) = joinL zs (ys.take (k + 1))) := (joinL_take zs ys k hlt).symm
        have HCJ := hid (joinL_chain CA.out (chain_take CB.out k))
        clear hca
        generalize (ys.getD k (0, 0)).1 = p at c1 HX
        generalize (ys.getD k (0, 0)).2 = q at c2 HX
        go_wp2_with fail
        refine (sadd_any _ (joinL zs (ys.take k)) p q _ (HO.out.below ?_).reads (chain_len' HCJ.out)).mono ?_
        · go_grown
        rintro e w4 ⟨v4, rfl, o4, b4⟩
        rw [HX.out] at o4
        have O4 := hid (o4.mono (base' := w.heap.size) (by have := HB'.out.size; simp; omega))
        have B4 : Hid (Below w.heap.size w w4) := (HB'.out.alloc HB'.out.size _).trans (b4.mono (by have := HB'.out.size; simp; omega))
        clear o4 b4
        go_wp2
        go_roundw
        case rel => exact ⟨k + 1, by omega, by go_num, O4.out, B4.out⟩
        case measure => simp [intOf]; omega
      · have HO' : Hid (SOwn w.heap.size wr u5 (joinL zs ys)) := by
          have := HO.out
          rw [List.take_of_length_le (by omega)] at this
          exact this
        go_wp2
        go_ret
        exact ⟨_, rfl, HO'.out, HB'.out⟩
theorem sjoin_chain (va vb : Value) (xs ys : List Sp) (w : World) (ha : SReads w va xs) (hb : SReads w vb ys) (ga : chainB (-1) xs = true) (gb : chainB (-1) ys = true) :
    Calls Try.prog 63 #[va, vb] w fun e w' => ∃ v', e = .returned v' ∧ SOwn w.heap.size w' v' (joinL xs ys) ∧ Below w.heap.size w w' := sjoin_aux va vb xs ys xs rfl w ha hb ga gb
end Go.Proofs.Ytijojdempijhbai
