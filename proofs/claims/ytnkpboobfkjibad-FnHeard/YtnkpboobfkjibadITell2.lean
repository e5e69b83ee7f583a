/-
  impl.ifNotTooMany: spans, where they are not too many; the world stays. Both ways in one form too.
  impl.JoinSpans: what is told of good spans, in memory of its own; nothing old is written.
  spec.l2Join: in memory of its own; nothing old is written.
-/
import Derived.Test.YtnkpboobfkjibadSpans
import Derived.Test.YtnkpboobfkjibadSCloneM
import Derived.Test.YtnkpboobfkjibadReaching
import Derived.Test.YtnkpboobfkjibadLenFacts
import Derived.Test.YtnkpboobfkjibadGoodSpan
import Derived.Test.YtnkpboobfkjibadCutMath
import Derived.Test.YtnkpboobfkjibadRows2
import Derived.Deep.RegionHeld3
import Derived.Deep.DrawnRows
import Derived.Maps.AppendAt
import Derived.Test.YtnkpboobfkjibadSAdd
namespace Go.Proofs.Ytnkpboobfkjibad
open Go.RowKit
set_option maxRecDepth 100000

theorem itell_yes (v : Value) (xs : List Sp) (w : World) (hr : SReads w v xs) (h : xs.length ≤ 20) : Calls Try.prog 139 #[v] w fun e w' => e = .returned (.tuple #[v, .bool true]) ∧ w' = w := by
  obtain ⟨a, cap, rfl, _, _⟩ := hr
  go_enter Try.func139, Try.ntmps139
  go_wp2
  go_ret2
  exact ⟨rfl, rfl⟩
theorem itell_no (v : Value) (xs : List Sp) (w : World) (hr : SReads w v xs) (h : ¬ xs.length ≤ 20) : Calls Try.prog 139 #[v] w fun e w' => e = .returned (.tuple #[.slice none 0 0, .bool false]) ∧ w' = w := by
  obtain ⟨a, cap, rfl, _, _⟩ := hr
  go_enter Try.func139, Try.ntmps139
  go_wp2
  go_ret2
  exact ⟨rfl, rfl⟩
def tellY (l : List Sp) : List Sp := if l.length ≤ 20 then l else []
def tellB (l : List Sp) : Bool := decide (l.length ≤ 20)
theorem tellY_len (l : List Sp) : (tellY l).length ≤ 20 := by
  unfold tellY
  split
  · assumption
  · simp
theorem itell_own (base : Nat) (v : Value) (xs : List Sp) (w : World) (ho : SOwn base w v xs) : Calls Try.prog 139 #[v] w fun e w' => ∃ v', e = .returned (.tuple #[v', .bool (tellB xs)]) ∧ SOwn base w v' (tellY xs) ∧ w' = w := by
  by_cases h : xs.length ≤ 20
  · refine (itell_yes v xs w ho.reads h).mono fun e w' he => ⟨v, ?_, ?_, he.2⟩
    · rw [he.1]; simp [tellB, h]
    · unfold tellY; rw [if_pos h]; exact ho
  · refine (itell_no v xs w ho.reads h).mono fun e w' he => ⟨.slice none 0 0, ?_, ?_, he.2⟩
    · rw [he.1]; simp [tellB, h]
    · unfold tellY; rw [if_neg h]; exact sown_nil _ _ _
end Go.Proofs.Ytnkpboobfkjibad
namespace Go.Proofs.Ytnkpboobfkjibad
open Go.RowKit
set_option maxRecDepth 100000

theorem joinL_snoc (a b : List Sp) (x : Sp) : joinL a (b ++ [x]) = addL (joinL a b) x := by
  induction b generalizing a with
  | nil => rfl
  | cons y b ih => exact ih _
theorem joinL_take (a b : List Sp) (k : Nat) (hk : k < b.length) : joinL a (b.take (k + 1)) = addL (joinL a (b.take k)) (b.getD k (0, 0)) := by
  rw [List.take_succ_eq_append_getElem hk, joinL_snoc]
  simp [List.getD_eq_getElem?_getD, hk]
theorem sown_of_clone {w w' : World} {v : Value} {xs : List Sp} (h : (xs = [] ∧ ∃ a, v = .slice a 0 0) ∨ (xs ≠ [] ∧ w'.ownsRow w.heap.size 133 2 v xs.length (flat xs))) (hx : xs.length ≤ 1048576) : SOwn w.heap.size w' v xs := by
  rcases h with ⟨rfl, a, rfl⟩ | ⟨_, h⟩
  · exact sown_nil _ _ _
  · exact SOwn.of_owns h (by omega)

set_option maxHeartbeats 2000000 in
theorem ijoin_good (va vb : Value) (xs ys : List Sp) (w : World) (ha : SReads w va xs) (hb : SReads w vb ys) (ga : goodL xs = true) (gb : goodL ys = true) :
    Calls Try.prog 116 #[va, vb] w fun e w' => ∃ v', e = .returned (.tuple #[v', .bool (tellB (joinL xs ys))]) ∧ SOwn w.heap.size w' v' (tellY (joinL xs ys)) ∧ Below w.heap.size w w' := by
  have HA := hid ha
  have HB := hid hb
  have CA := hid (good_chain ga)
  have CB := hid (good_chain gb)
  have la := good_len ga
  have lb := good_len gb
  obtain ⟨b, cap, rfl, _, _⟩ := hb
  clear ha
  go_enter Try.func116, Try.ntmps116
  go_wp2_with fail
  refine (igood_any va xs _ HA.out).mono ?_
  rintro e w1 ⟨rfl, b1⟩
  have B1 := hid b1
  clear b1
  rw [ga]
  go_wp2_with fail
  refine (igood_any _ ys _ (HB.out.below B1.out)).mono ?_
  rintro e w2 ⟨rfl, b2⟩
  have B2 : Hid (Below w.heap.size w w2) := B1.out.trans (b2.mono B1.out.size)
  clear b2 B1
  rw [gb]
  go_wp2_with fail
  refine (clone_any va xs w2 (HA.out.below B2.out) (by omega)).mono ?_
  rintro e w3 ⟨v3, rfl, b3, h3⟩
  have O3 := hid ((sown_of_clone h3 (by omega)).mono B2.out.size)
  have B3 : Hid (Below w.heap.size w w3) := B2.out.trans (b3.mono B2.out.size)
  clear b3 h3 B2
  go_wp2
  go_loopw [6, 21] (fun o i wr => ∃ k : Nat, k ≤ ys.length ∧ i = .int .i64 k ∧ SOwn w.heap.size wr o (joinL xs (ys.take k)) ∧ Below w.heap.size w wr) (fun _ i _ => ys.length - (intOf i).toNat)
  case atStart => exact ⟨0, Nat.zero_le _, rfl, O3.out, B3.out⟩
  case round =>
    obtain ⟨k, hk, rfl, hown, hbel⟩ := hrel
    have HO := hid hown
    have HB' := hid hbel
    clear hown hbel
    by_cases hlt : k < ys.length
    · obtain ⟨ga, oa, cap', e, hca⟩ := sreads_cells (HB.out.below HB'.out) k hlt
      cases e
      have c1 := (hca k hlt).1
      have c2 := (hca k hlt).2
      have HX : Hid (addL (joinL xs (ys.take k)) ((ys.getD k (0, 0)).1, (ys.getD k (0, 0)).2) = joinL xs (ys.take (k + 1))) := (joinL_take xs ys k hlt).symm
      have HCJ := hid (joinL_chain CA.out (chain_take CB.out k))
      clear hca
      generalize (ys.getD k (0, 0)).1 = p at c1 HX
      generalize (ys.getD k (0, 0)).2 = q at c2 HX
      go_wp2_with fail
      refine (joined_any _ (joinL xs (ys.take k)) p q _ (HO.out.below ?hb).reads HCJ.out (chain_len' HCJ.out)).mono ?_
      case hb => go_grown
      rintro e w4 ⟨v4, rfl, o4, b4⟩
      rw [HX.out] at o4
      have O4 := hid (o4.mono (base' := w.heap.size) (by have := HB'.out.size; simp; omega))
      have B4 : Hid (Below w.heap.size w w4) := (HB'.out.alloc HB'.out.size _).trans (b4.mono (by have := HB'.out.size; simp; omega))
      clear o4 b4
      go_wp2
      go_roundw
      case rel => exact ⟨k + 1, by omega, by go_num, O4.out, B4.out⟩
      case measure => simp [intOf]; omega
    · have HO' : Hid (SOwn w.heap.size wr u6 (joinL xs ys)) := by
        have := HO.out
        rw [List.take_of_length_le (by omega)] at this
        exact this
      go_wp2_with fail
      refine (itell_own _ _ _ _ HO'.out).mono ?_
      rintro e w' ⟨v6, rfl, o6, hw⟩; obtain rfl := hw.symm
      have O6 := hid o6
      clear o6
      go_wp2
      go_ret2
      exact ⟨_, rfl, O6.out, HB'.out⟩

set_option maxHeartbeats 1000000 in
theorem ijoin_bad (va vb : Value) (xs ys : List Sp) (w : World) (ha : SReads w va xs) (hb : SReads w vb ys) (h : (goodL xs && goodL ys) = false) :
    Calls Try.prog 116 #[va, vb] w fun e w' => e = .returned (.tuple #[.slice none 0 0, .bool false]) ∧ Below w.heap.size w w' := by
  have HA := hid ha
  have HB := hid hb
  clear ha hb
  cases hg : goodL xs with
  | false =>
    clear h
    go_enter Try.func116, Try.ntmps116
    go_wp2_with fail
    refine (igood_any va xs _ HA.out).mono ?_
    rintro e w1 ⟨rfl, b1⟩
    have B1 := hid b1
    clear b1
    rw [hg]
    go_wp2
    go_ret2
    exact ⟨rfl, B1.out⟩
  | true =>
    have hx : goodL ys = false := by rw [hg, Bool.true_and] at h; exact h
    clear h
    go_enter Try.func116, Try.ntmps116
    go_wp2_with fail
    refine (igood_any va xs _ HA.out).mono ?_
    rintro e w1 ⟨rfl, b1⟩
    have B1 := hid b1
    clear b1
    rw [hg]
    go_wp2_with fail
    refine (igood_any _ ys _ (HB.out.below B1.out)).mono ?_
    rintro e w2 ⟨rfl, b2⟩
    have B2 : Hid (Below w.heap.size w w2) := B1.out.trans (b2.mono B1.out.size)
    clear b2 B1
    rw [hx]
    go_wp2
    go_ret2
    exact ⟨rfl, B2.out⟩

def joinY (xs ys : List Sp) : List Sp := if (goodL xs && goodL ys) = true then tellY (joinL xs ys) else []
def joinB (xs ys : List Sp) : Bool := (goodL xs && goodL ys) && tellB (joinL xs ys)
theorem ijoin_any (va vb : Value) (xs ys : List Sp) (w : World) (ha : SReads w va xs) (hb : SReads w vb ys) :
    Calls Try.prog 116 #[va, vb] w fun e w' => ∃ v', e = .returned (.tuple #[v', .bool (joinB xs ys)]) ∧ SOwn w.heap.size w' v' (joinY xs ys) ∧ Below w.heap.size w w' := by
  unfold joinY joinB
  cases h : (goodL xs && goodL ys) with
  | false => exact (ijoin_bad va vb xs ys w ha hb h).mono fun _ _ ⟨a, b⟩ => ⟨_, a, sown_nil _ _ _, b⟩
  | true =>
    have h' := h
    rw [Bool.and_eq_true] at h'
    exact ijoin_good va vb xs ys w ha hb h'.1 h'.2
end Go.Proofs.Ytnkpboobfkjibad
namespace Go.Proofs.Ytnkpboobfkjibad
open Go.RowKit
set_option maxRecDepth 100000

set_option maxHeartbeats 1000000 in
theorem sjoin_aux (va vb : Value) (xs ys zs : List Sp) (hzs : zs = xs) (w : World) (ha : SReads w va xs) (hb : SReads w vb ys) (ga : chainB (-1) xs = true) (gb : chainB (-1) ys = true) :
    Calls Try.prog 173 #[va, vb] w fun e w' => ∃ v', e = .returned v' ∧ SOwn w.heap.size w' v' (joinL zs ys) ∧ Below w.heap.size w w' := by
  obtain ⟨i0, hi, hz0, hz1, hz2⟩ := info_parts info_span
  have HB := hid hb
  have CA := hid ga
  have CB := hid gb
  have la := chain_len' ga
  obtain ⟨b, cb, rfl, _, _⟩ := hb
  obtain ⟨a, ca, rfl, _, hxa⟩ := ha
  clear ga gb
  rw [← hzs] at CA
  have HZ := hid hzs
  clear hzs
  go_enter Try.func173, Try.ntmps173
  by_cases h0 : xs = []
  case' pos =>
    subst h0
    clear hxa
    cases a
    all_goals
      go_wp2_with (at_builtin; refine Lib.wpList_append_run_sl _ rfl _ _ 47 rfl _ _ rfl rfl (nothing_run hi hz1 _ _ _ _ (Nat.le_refl _) _ _) ?_)
      have O1 : Hid (SOwn w.heap.size (w.alloc (.cells #[] 133)) (.slice (some ⟨w.heap.size, 0, none⟩) 0 0) zs) := by show SOwn _ _ _ _; rw [HZ.out]; exact sown_nil _ _ _
      have B1 : Hid (Below w.heap.size w (w.alloc (.cells #[] 133))) := (Below.refl _ _).alloc (Nat.le_refl _) _
  case' neg =>
    obtain ⟨ga, oa, rfl, hca⟩ := hxa.resolve_left h0
    have hlt : ga < w.heap.size := lt_of_cell (hca 0 (List.length_pos_iff.2 h0)).1
    have hpos : 0 < xs.length := List.length_pos_iff.2 h0
    have hfc := hid (flat_cells hca)
    clear hxa hca h0
    go_wp2_with (at_builtin; refine wpList_append_grows _ rfl _ _ 47 rfl 133 i0 (.agg #[.int .i64 0, .int .i64 0]) 2 16 Try.underlying47 hi hz0 hz1 hz2 rfl (by decide) (some ⟨w.heap.size, 0, none⟩) 0 0 [] rfl (by intro h; cases h) rfl (by intro b0 _ j u h; simp at h) ⟨ga, oa, none⟩ xs.length ca (flat xs) rfl (length_flat xs) ?c1 (flat_one xs) (by omega) (by unfold maxLen; omega) (by omega) ?_)
    case c1 =>
      intro j u hj
      have := hfc.out j u hj
      rw [show (⟨ga, oa, none⟩ : Addr).add j = ⟨ga, oa + j, none⟩ by rcases j with _ | j <;> simp [Addr.add]] at this ⊢
      rw [World.cell?_alloc_lt _ _ _ (by simpa using hlt)]
      exact this
    intro v' w1 hown hgr
    have B1 : Hid (Below w.heap.size w w1) := ((Below.refl _ _).alloc (Nat.le_refl _) _).grown hgr (by simp) (by intro k hk; cases hk)
    have O1 : Hid (SOwn w.heap.size w1 v' zs) := by show SOwn _ _ _ _; rw [HZ.out]; exact SOwn.of_owns (owns_mono hown (show w.heap.size ≤ _ by simp)) (by omega)
    clear hown hgr
    go_wp2
  all_goals
    clear HZ
    go_loopw [5, 13] (fun o i wr => ∃ k : Nat, k ≤ ys.length ∧ i = .int .i64 k ∧ SOwn w.heap.size wr o (joinL zs (ys.take k)) ∧ Below w.heap.size w wr) (fun _ i _ => ys.length - (intOf i).toNat)
    case atStart => exact ⟨0, Nat.zero_le _, rfl, O1.out, B1.out⟩
    case round =>
      obtain ⟨k, hk, rfl, hown, hbel⟩ := hrel
      have HO := hid hown
      have HB' := hid hbel
      clear hown hbel
      by_cases hlt : k < ys.length
      · obtain ⟨ga, oa, cap', e, hca⟩ := sreads_cells (HB.out.below HB'.out) k hlt
        cases e
        have c1 := (hca k hlt).1
        have c2 := (hca k hlt).2
        have HX : Hid (addL (joinL zs (ys.take k)) ((ys.getD k (0, 0)).1, (ys.getD k (0, 0)).2) = joinL zs (ys.take (k + 1))) := (joinL_take zs ys k hlt).symm
        have HCJ := hid (joinL_chain CA.out (chain_take CB.out k))
        clear hca
        generalize (ys.getD k (0, 0)).1 = p at c1 HX
        generalize (ys.getD k (0, 0)).2 = q at c2 HX
        go_wp2_with fail
        refine (sadd_any _ (joinL zs (ys.take k)) p q _ (HO.out.below ?_).reads (chain_len' HCJ.out)).mono ?_
        · go_grown
        rintro e w4 ⟨v4, rfl, o4, b4⟩
        rw [HX.out] at o4
        have O4 := hid (o4.mono (base' := w.heap.size) (by have := HB'.out.size; simp; omega))
        have B4 : Hid (Below w.heap.size w w4) := (HB'.out.alloc HB'.out.size _).trans (b4.mono (by have := HB'.out.size; simp; omega))
        clear o4 b4
        go_wp2
        go_roundw
        case rel => exact ⟨k + 1, by omega, by go_num, O4.out, B4.out⟩
        case measure => simp [intOf]; omega
      · have HO' : Hid (SOwn w.heap.size wr u5 (joinL zs ys)) := by
          have := HO.out
          rw [List.take_of_length_le (by omega)] at this
          exact this
        go_wp2
        go_ret
        exact ⟨_, rfl, HO'.out, HB'.out⟩
theorem sjoin_chain (va vb : Value) (xs ys : List Sp) (w : World) (ha : SReads w va xs) (hb : SReads w vb ys) (ga : chainB (-1) xs = true) (gb : chainB (-1) ys = true) :
    Calls Try.prog 173 #[va, vb] w fun e w' => ∃ v', e = .returned v' ∧ SOwn w.heap.size w' v' (joinL xs ys) ∧ Below w.heap.size w w' := sjoin_aux va vb xs ys xs rfl w ha hb ga gb
end Go.Proofs.Ytnkpboobfkjibad
