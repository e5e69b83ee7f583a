/-
  impl.bestMany: the most tasks that some order has in time. Nothing old is written.
  impl.BestMany: the most tasks that some order has in time. Nothing old is written.
-/
import Derived.Test.YtpkngcamaahhdabBestMath
import Derived.Test.YtpkngcamaahhdabINums
import Derived.Test.YtpkngcamaahhdabIDelB
import Derived.Test.YtpkngcamaahhdabINeed
import Derived.Deep.QuietTactic
import Derived.BigQuiet
import Derived.Test.YtpkngcamaahhdabITask
namespace Go.Proofs.Ytpkngcamaahhdab
open Go.RowKit

set_option maxHeartbeats 1000000 in
theorem best1_any (bx s k : Nat) (w : World) (cx : w.cell? ⟨bx, 0, none⟩ = some (.int .i64 (s : Nat))) (hs : s ≤ 1024) (hk : k < 10) : Calls Try.prog 87 #[.int .i64 (k : Nat), .pointer (some ⟨bx, 0, none⟩)] w fun e w' => e = .returned (.bool (!s.testBit k)) ∧ w' = w := by
  have HB := hid (bit_no s k hs)
  have hmin : min k 64 = k := by omega
  go_enter Try.func87, Try.ntmps87
  go_wp2
  go_ret
  exact ⟨by rw [← HB.out]; rfl, rfl⟩
def maxQ (p q : Nat) : Nat := if p < q then q else p
theorem maxQ_run (p q : Nat) : ∀ (ts : Array TypeId) (ty : TypeId) (w : World), (Builtin.max_ ts ty #[.int .i64 (p : Nat), .int .i64 (q : Nat)]).run Try.prog w = .ok (.int .i64 (maxQ p q : Nat)) w := fun ts ty w => by
  have e : ((maxQ p q : Nat) : Int) = if (p : Int) < (q : Int) then (q : Int) else (p : Int) := by
    unfold maxQ
    by_cases h : p < q
    · rw [if_pos h, if_pos (by omega)]
    · rw [if_neg h, if_neg (by omega)]
  rw [e]
  simp [Builtin.max_, Builtin.max2]
theorem maxQ_le (p q : Nat) : p ≤ maxQ p q ∧ q ≤ maxQ p q := by
  unfold maxQ
  split <;> omega
theorem maxQ_is (p q : Nat) : maxQ p q = p ∨ maxQ p q = q := by
  unfold maxQ
  split
  · exact .inr rfl
  · exact .inl rfl
/-- All sets below s are told, the others are nought yet. -/
def TbOk (xs : List TkEl) (s : Nat) (T : List Int) : Prop := (∀ m, m < s → ∃ v : Nat, T.getD m 0 = (v : Int) ∧ IsBest (needT xs) (endT xs) xs.length m v) ∧ ∀ m, s ≤ m → T.getD m 0 = 0
/-- What a set tells with k as its last. -/
def valB (xs : List TkEl) (T : List Int) (s k : Nat) : Nat := (T.getD (clr s k) 0).toNat + (if sumL (needT xs) (memb xs.length s) ≤ endT xs k then 1 else 0)
structure InOk (xs : List TkEl) (T : List Int) (s i r : Nat) : Prop where
  zero : i = 0 → r = 0
  ge : ∀ j, j < i → valB xs T s ((memb xs.length s).getD j 0) ≤ r
  eq : 0 < i → ∃ j, j < i ∧ valB xs T s ((memb xs.length s).getD j 0) = r
theorem inOk_start (xs : List TkEl) (T : List Int) (s : Nat) : InOk xs T s 0 0 := ⟨fun _ => rfl, fun j h => absurd h (by omega), fun h => absurd h (by omega)⟩
theorem inOk_succ {xs : List TkEl} {T : List Int} {s i r : Nat} (h : InOk xs T s i r) : InOk xs T s (i + 1) (maxQ r (valB xs T s ((memb xs.length s).getD i 0))) := by
  have hm := maxQ_le r (valB xs T s ((memb xs.length s).getD i 0))
  refine ⟨fun h => absurd h (by omega), fun j hj => ?_, fun _ => ?_⟩
  · by_cases e : j = i
    · rw [e]; exact hm.2
    · exact Nat.le_trans (h.ge j (by omega)) hm.1
  · rcases maxQ_is r (valB xs T s ((memb xs.length s).getD i 0)) with e | e
    · rcases Nat.eq_zero_or_pos i with h0 | h0
      · refine ⟨i, by omega, ?_⟩
        have := h.zero h0
        omega
      · obtain ⟨j, hj, hv⟩ := h.eq h0
        exact ⟨j, by omega, by rw [e]; exact hv⟩
    · exact ⟨i, by omega, e.symm⟩
theorem inOk_done {xs : List TkEl} {T : List Int} {s r : Nat} (h : InOk xs T s (memb xs.length s).length r) (ht : TbOk xs s T) (hl : s < T.length) : TbOk xs (s + 1) (T.set s (r : Int)) := by
  have hb : IsBest (needT xs) (endT xs) xs.length s r := by
    by_cases hz : memb xs.length s = []
    · have h0 := h.zero (by rw [hz]; rfl)
      rw [h0]
      constructor
      · exact ⟨[], by rw [hz], rfl⟩
      · intro o ho
        rw [hz] at ho
        rw [ho.eq_nil]
        exact Nat.le_refl _
    · have hv : ∀ k, k ∈ memb xs.length s → IsBest (needT xs) (endT xs) xs.length (clr s k) (T.getD (clr s k) 0).toNat := fun k hk => by
        obtain ⟨v, e, hb⟩ := ht.1 _ (clr_lt (memb_mem.1 hk).2)
        rw [e]
        exact hb
      have hpos : 0 < (memb xs.length s).length := List.length_pos_iff.2 hz
      refine best_step _ hv ?_ ?_
      · obtain ⟨j, hj, hv⟩ := h.eq hpos
        exact ⟨_, getD_mem hj, hv⟩
      · intro k hk
        obtain ⟨j, hj, rfl⟩ := List.getElem_of_mem hk
        have := h.ge j hj
        rw [List.getD_eq_getElem?_getD, List.getElem?_eq_getElem hj, Option.getD_some] at this
        exact this
  refine ⟨fun m hm => ?_, fun m hm => ?_⟩
  · by_cases e : m = s
    · subst e
      exact ⟨r, by simp [List.getD_eq_getElem?_getD, hl], hb⟩
    · obtain ⟨v, e1, e2⟩ := ht.1 m (by omega)
      refine ⟨v, ?_, e2⟩
      rw [← e1]
      simp [List.getD_eq_getElem?_getD, List.getElem?_set_ne (show s ≠ m by omega)]
  · have e : (T.set s (r : Int)).getD m 0 = T.getD m 0 := by simp [List.getD_eq_getElem?_getD, List.getElem?_set_ne (show s ≠ m by omega)]
    rw [e]
    exact ht.2 m (by omega)
theorem left_memb (n s : Nat) : leftL (fun k => !s.testBit k) (List.range n) = memb n s := by
  unfold leftL memb
  refine List.filter_congr fun k _ => ?_
  rw [Bool.not_not]
theorem tb_start (xs : List TkEl) (N : Nat) : TbOk xs 0 (List.replicate N 0) := by
  refine ⟨fun m h => absurd h (by omega), fun m _ => ?_⟩
  by_cases h : m < N
  · simp [List.getD_eq_getElem?_getD, h]
  · simp [List.getD_eq_getElem?_getD, h]
set_option maxRecDepth 100000 in
set_option maxHeartbeats 16000000 in
theorem ibest_any (v : Value) (xs : List TkEl) (w : World) (hr : TkReads w v xs) (hg : goodT xs = true) :
    Calls Try.prog 56 #[v] w fun e w' => e = .returned (.int .i64 ((mooreL xs).1.length : Nat)) ∧ Below w.heap.size w w' := by
  have HR := hid hr
  have HG := hid hg
  have hlen := goodT_len hg
  obtain ⟨a, cap, rfl, _, _⟩ := hr
  obtain ⟨i0, hi, hz0, hz1, hz2⟩ := info_parts info_int
  clear hg
  obtain ⟨N, hN⟩ : ∃ N : Nat, N = 2 ^ xs.length := ⟨_, rfl⟩
  have hN2 : N ≤ 1024 := by rw [hN]; exact Nat.le_trans (Nat.pow_le_pow_right (by omega) hlen) (by decide)
  have hN1 : 1 ≤ N := by rw [hN]; exact Nat.one_le_two_pow
  have hsh : wrap64 ((2 : Int) ^ xs.length) = (N : Int) := by
    have e : ((2 : Int) ^ xs.length) = (N : Int) := by rw [hN]; simp
    rw [e]
    unfold wrap64
    omega
  have hmin : min xs.length 64 = xs.length := by omega
  have HN := hid hN
  clear hN
  go_enter Try.func56, Try.ntmps56
  go_wp2_with (at_make; refine wpList_make_row _ rfl _ _ 42 rfl 3 i0 (.int .i64 0) Try.underlying42 hi hz0 hz1 rfl .i64 .i64 N (congrArg (Value.int .i64) hsh) (congrArg (Value.int .i64) hsh) (by rw [hz2]; omega) (by omega) ?_)
  have O0 : Hid (IRow (w.alloc (.cells (madeCells #[.int .i64 0] N) 3)) w.heap.size N N (List.replicate N 0)) := IRow.made w _ (by omega)
  go_loopw [16] (fun i wr => ∃ (s : Nat) (T : List Int), s ≤ N ∧ i = .int .i64 s ∧ IRow wr w.heap.size N N T ∧ TbOk xs s T ∧ Below w.heap.size w wr) (fun i _ => N - (intOf i).toNat)
  case atStart => exact ⟨0, _, Nat.zero_le _, rfl, O0.out, tb_start xs N, (Below.refl _ _).alloc (Nat.le_refl _) _⟩
  case round =>
    obtain ⟨s, T, hs, rfl, hrow, htb, hbel⟩ := hrel
    have HT := hid hrow
    have HTB := hid htb
    have HB := hid hbel
    have hgw := hrow.caps.2.2
    clear hrow htb hbel O0
    by_cases hlt : s < N
    · have BA : Hid (Below w.heap.size w (wr.alloc (.cells #[.int .i64 (s : Nat)] 3))) := HB.out.alloc HB.out.size _
      have CA : Hid ((wr.alloc (.cells #[.int .i64 (s : Nat)] 3)).cell? ⟨wr.heap.size, 0, none⟩ = some (.int .i64 (s : Nat))) := cell_of_row _ _ _ _ _ (0, 0) (heap_alloc_new wr _)
      have TA : Hid (IRow (wr.alloc (.cells #[.int .i64 (s : Nat)] 3)) w.heap.size N N T) := HT.out.whole ((Below.refl _ _).alloc (Nat.le_refl _) _)
      go_wp2_with fail
      refine (inums_any xs.length _ (by omega)).mono ?_
      rintro e w3 ⟨rfl, hr3, hz3, hb3⟩
      rw [World.size_alloc] at hr3 hz3 hb3 ⊢
      have R3 := hid hr3
      have B3 : Hid (Below w.heap.size w w3) := BA.out.trans (hb3.mono (by omega))
      have C3 : Hid (w3.cell? ⟨wr.heap.size, 0, none⟩ = some (.int .i64 (s : Nat))) := (hb3.cell (p := ⟨wr.heap.size, 0, none⟩) (by show wr.heap.size < wr.heap.size + 1; omega)).trans CA.out
      have T3 : Hid (IRow w3 w.heap.size N N T) := TA.out.below hb3 (by omega)
      have Z3 := hid hz3
      clear hr3 hz3 hb3
      have HDel : Hid (DelBIn (wr.heap.size + 1) w3 wr.heap.size xs.length (fun k => !s.testBit k)) := fun w' hb k hk =>
        best1_any wr.heap.size s k w' ((hb.cell (p := ⟨wr.heap.size, 0, none⟩) (by show ¬ wr.heap.size = wr.heap.size + 1; omega) (by show wr.heap.size < _; have := Z3.out; omega)).trans C3.out) (by omega) (by omega)
      go_wp2_with fail
      refine (deleteB_any (wr.heap.size + 1) xs.length xs.length wr.heap.size xs.length (fun k => !s.testBit k) (List.range xs.length) _ (by omega) R3.out HDel.out (fun i hi => by simp [List.getD_eq_getElem?_getD, hi])).mono ?_
      rintro e w4 ⟨M, rfl, hr4, hb4⟩
      rw [left_memb] at hr4
      have R4 := hid hr4
      have hM : (memb xs.length s).length = M := by have := hr4.len; rw [ofN, List.length_map] at this; exact this
      have HM := hid hM
      have hMx : M ≤ xs.length := by rw [← hM]; have := List.length_filter_le s.testBit (List.range xs.length); rw [List.length_range] at this; exact this
      have B4 : Hid (Below w.heap.size w w4) := B3.out.trans (hb4.to (by have := Z3.out; omega) (fun k hk => by omega))
      have C4 : Hid (w4.cell? ⟨wr.heap.size, 0, none⟩ = some (.int .i64 (s : Nat))) := (hb4.cell (p := ⟨wr.heap.size, 0, none⟩) (by show ¬ wr.heap.size = wr.heap.size + 1; omega) (by show wr.heap.size < _; have := Z3.out; omega)).trans C3.out
      have T4 : Hid (IRow w4 w.heap.size N N T) := T3.out.but hb4 (by omega)
      have TR4 : Hid (TkReads w4 (.slice a xs.length cap) xs) := HR.out.below B4.out
      have KR4 : Hid (KReads w4 (.slice (some ⟨wr.heap.size + 1, 0, none⟩) M xs.length) (ofN (memb xs.length s))) := hr4.reads (by omega)
      clear hr4 hb4 hM
      go_wp2_with fail
      refine (ineed_any _ _ xs (memb xs.length s) _ TR4.out KR4.out HG.out (fun k hk => (memb_mem.1 hk).1) (by rw [HM.out]; omega)).mono ?_
      rintro e w' ⟨rfl, hw⟩; obtain rfl := hw.symm
      obtain ⟨dn, hdn⟩ : ∃ dn, dn = sumL (needT xs) (memb xs.length s) := ⟨_, rfl⟩
      rw [← hdn]
      have HDN := hid hdn
      clear hdn
      obtain ⟨wo, hwo⟩ : ∃ wo, wo = wr := ⟨_, rfl⟩
      subst hwo
      go_wp2
      go_loopw [29] (fun i wz => ∃ (k r : Nat), k ≤ M ∧ i = .int .i64 k ∧ IRow wz w.heap.size N N (T.set s (r : Nat)) ∧ InOk xs T s k r ∧ But (fun k => k = w.heap.size) w4 wz) (fun i _ => M - (intOf i).toNat)
      case atStart =>
        refine ⟨0, 0, Nat.zero_le _, rfl, ?_, inOk_start _ _ _, But.refl _ _⟩
        have e : T.set s ((0 : Nat) : Int) = T := by
          apply List.ext_getElem
          · simp
          · intro j h1 h2
            rw [List.getElem_set]
            split
            · rename_i h
              subst h
              have := HTB.out.2 s (Nat.le_refl _)
              rw [List.getD_eq_getElem?_getD, List.getElem?_eq_getElem h2, Option.getD_some] at this
              exact this.symm
            · rfl
        rw [e]
        exact T4.out
      case round =>
        obtain ⟨k, r, hk, rfl, hrow, hin, hbut⟩ := hrel
        have HZ := hid hrow
        have HI := hid hin
        have HBZ := hid hbut
        clear hrow hin hbut
        by_cases hkM : k < M
        · obtain ⟨x, hx⟩ : ∃ x, x = (memb xs.length s).getD k 0 := ⟨_, rfl⟩
          have hxm : x ∈ memb xs.length s := by rw [hx]; exact getD_mem (by rw [HM.out]; exact hkM)
          have hxl : x < xs.length := (memb_mem.1 hxm).1
          have hxb : s.testBit x = true := (memb_mem.1 hxm).2
          have cx : wr.cell? ⟨wo.heap.size + 1, k, none⟩ = some (.int .i64 (x : Nat)) := by
            have := (R4.out.but HBZ.out (by omega)).cell hkM
            rw [ofN_get (by rw [HM.out]; exact hkM), ← hx] at this
            exact this
          have cs : wr.cell? ⟨wo.heap.size, 0, none⟩ = some (.int .i64 (s : Nat)) := (HBZ.out.cell (p := ⟨wo.heap.size, 0, none⟩) (by show ¬ wo.heap.size = w.heap.size; omega) (lt_of_cell C4.out)).trans C4.out
          obtain ⟨c, hc⟩ : ∃ c, c = clr s x := ⟨_, rfl⟩
          have hcs : c < s := by rw [hc]; exact clr_lt hxb
          obtain ⟨P2, hP2⟩ : ∃ P2 : Nat, P2 = 2 ^ x := ⟨_, rfl⟩
          have hPl : P2 ≤ 1024 := by rw [hP2]; exact Nat.le_trans (Nat.pow_le_pow_right (by omega) (by omega : x ≤ 10)) (by decide)
          have hsh2 : wrap64 ((2 : Int) ^ x) = (P2 : Int) := by
            have e : ((2 : Int) ^ x) = (P2 : Int) := by rw [hP2]; simp
            rw [e]
            unfold wrap64
            omega
          have hbn : bits .andNot .i64 (s : Int) (P2 : Int) = (c : Int) := by rw [hP2, hc]; exact bits_clr s x (by omega) hxb
          have hmin2 : min x 64 = x := by omega
          obtain ⟨vc, hvc, hbc⟩ := HTB.out.1 c hcs
          have hvc10 := best_le hbc
          have cc : wr.cell? ⟨w.heap.size, c, none⟩ = some (.int .i64 (vc : Nat)) := by
            have := HZ.out.cell (i := c) (by omega)
            rw [show (T.set s (r : Nat)).getD c 0 = T.getD c 0 by simp [List.getD_eq_getElem?_getD, List.getElem?_set_ne (show s ≠ c by omega)], hvc] at this
            exact this
          have ct : wr.cell? ⟨w.heap.size, s, none⟩ = some (.int .i64 (r : Nat)) := by
            have := HZ.out.cell (i := s) (by omega)
            rw [show (T.set s (r : Nat)).getD s 0 = (r : Nat) by simp [List.getD_eq_getElem?_getD, show s < T.length by have := HT.out.len; omega]] at this
            exact this
          have ft : wr.frozen? ⟨w.heap.size, s, none⟩ = false := HZ.out.free s
          obtain ⟨g, o, cap', e, hcl⟩ := (HR.out.below (B4.out.trans (HBZ.out.to (by have := B4.out.size; omega) (fun k hk => by omega)))).cells x hxl
          cases e
          obtain ⟨q, hq⟩ : ∃ q, q = endT xs x := ⟨_, rfl⟩
          have ce : wr.cell? ⟨g, o + x * 2 + 1, none⟩ = some (.int .i64 q) := by rw [hq]; exact (hcl x hxl).2
          have HVal : Hid (valB xs T s x = vc + if dn ≤ q then 1 else 0) := by show _ = _; unfold valB; rw [← hc, hvc, ← HDN.out, ← hq]; rfl
          have HNext := hid (inOk_succ HI.out)
          rw [← hx] at HNext
          have n0 : (0 : Int) ≤ (x : Int) := by omega
          have n1 : (x : Int) < (xs.length : Int) := by omega
          have n2 : (0 : Int) ≤ (c : Int) := by omega
          have n3 : (c : Int) < (N : Int) := by omega
          have n4 : (0 : Int) ≤ (s : Int) := by omega
          have n5 : (s : Int) < (N : Int) := by omega
          have n6 : (0 : Int) ≤ (k : Int) := by omega
          have n7 : (k : Int) < (M : Int) := by omega
          have HStore : Hid (∀ (u : Nat), IRow (wr.setCell ⟨w.heap.size, s, none⟩ (.int .i64 (u : Nat))) w.heap.size N N (T.set s (u : Nat))) := fun u => by
            have := HZ.out.set s (u : Nat)
            rw [List.set_set] at this
            exact this
          have HButS : Hid (∀ (u : Nat), But (fun k => k = w.heap.size) w4 (wr.setCell ⟨w.heap.size, s, none⟩ (.int .i64 (u : Nat)))) := fun u => HBZ.out.setCell (p := ⟨w.heap.size, s, none⟩) rfl _
          clear hx hc hP2 hq hcl hbc hvc hxm hxb hcs
          by_cases hle : dn ≤ q
          · have hdl : decide (dn ≤ q) = true := by simpa using hle
            have HVal2 : Hid (valB xs T s x = vc + 1) := by show _ = _; rw [HVal.out, if_pos hle]
            rw [HVal2.out] at HNext
            have hmx := maxQ_run r (vc + 1)
            obtain ⟨r2, hr2⟩ : ∃ r2, r2 = maxQ r (vc + 1) := ⟨_, rfl⟩
            rw [← hr2] at hmx HNext
            have v1 : ((vc + 1 : Nat) : Int) = (vc : Int) + 1 := by omega
            rw [v1] at hmx
            have v2 : IntKind.i64.wrap ((vc : Int) + 1) = (vc : Int) + 1 := by rw [IntKind.wrap_i64]; omega
            clear hr2 hle v1
            go_wp2_with fail
            go_big_region
            go_wp2_with fail
            go_big_region
            go_wp2
            go_roundw
            case rel => exact ⟨k + 1, r2, by omega, by go_num, (HStore.out r2).at rfl, HNext.out, (HButS.out r2).drew.drew⟩
            case measure => simp [intOf]; omega
          · have hdl : decide (dn ≤ q) = false := by simpa using hle
            have HVal2 : Hid (valB xs T s x = vc) := by show _ = _; rw [HVal.out, if_neg hle, Nat.add_zero]
            rw [HVal2.out] at HNext
            have hmx := maxQ_run r vc
            obtain ⟨r2, hr2⟩ : ∃ r2, r2 = maxQ r vc := ⟨_, rfl⟩
            rw [← hr2] at hmx HNext
            clear hr2 hle
            go_wp2_with fail
            go_big_region
            go_wp2_with fail
            go_big_region
            go_wp2
            go_roundw
            case rel => exact ⟨k + 1, r2, by omega, by go_num, (HStore.out r2).at rfl, HNext.out, (HButS.out r2).drew.drew⟩
            case measure => simp [intOf]; omega
        · obtain rfl : k = M := by omega
          have HD : Hid (TbOk xs (s + 1) (T.set s (r : Nat))) := inOk_done (by rw [HM.out]; exact HI.out) HTB.out (by have := HT.out.len; omega)
          have BZ : Hid (Below w.heap.size w wr) := B4.out.trans (HBZ.out.to (by have := B4.out.size; omega) (fun k hk => by omega))
          go_wp2
          go_roundw
          case rel => exact ⟨s + 1, _, by omega, by go_num, HZ.out, HD.out, BZ.out⟩
          case measure => simp [intOf]; omega
    · obtain rfl : s = N := by omega
      obtain ⟨N1, hN1'⟩ : ∃ N1, N1 = s - 1 := ⟨_, rfl⟩
      obtain ⟨vf, hvf, hbf⟩ := HTB.out.1 N1 (by omega)
      have HF : Hid ((mooreL xs).1.length = vf) := by
        show _ = _
        refine (best_full HG.out ?_).symm
        rw [← HN.out, ← hN1']
        exact hbf
      have cf : wr.cell? ⟨w.heap.size, N1, none⟩ = some (.int .i64 (vf : Nat)) := by
        have := HT.out.cell (i := N1) (by omega)
        rw [hvf] at this
        exact this
      have hw1 : IntKind.i64.wrap ((s : Int) - 1) = (N1 : Int) := by rw [IntKind.wrap_i64]; omega
      have hw2 : (s : Int) - 1 = (N1 : Int) := by omega
      have hw3 : IntKind.i64.wrap (N1 : Int) = (N1 : Int) := by rw [IntKind.wrap_i64]; omega
      have n0 : (0 : Int) ≤ (N1 : Int) := by omega
      have n1 : (N1 : Int) < (s : Int) := by omega
      clear hN1' hvf hbf
      go_wp2
      go_ret
      exact ⟨by rw [HF.out]; rfl, HB.out⟩
end Go.Proofs.Ytpkngcamaahhdab
namespace Go.Proofs.Ytpkngcamaahhdab
open Go.RowKit

set_option maxHeartbeats 1000000 in
theorem ibestfn_no (v : Value) (xs : List TkEl) (w : World) (hr : TkReads w v xs) (hg : goodT xs = false) :
    Calls Try.prog 22 #[v] w fun e w' => e = .returned (.tuple #[.int .i64 0, .bool false]) ∧ Below w.heap.size w w' := by
  have HR := hid hr
  clear hr
  go_enter Try.func22, Try.ntmps22
  go_wp2_with fail
  refine (igoodTasks_eq _ xs false hg _ HR.out).mono ?_
  rintro e w1 ⟨rfl, b1⟩
  have B1 := hid b1
  clear b1
  go_wp2
  go_ret2
  exact ⟨rfl, B1.out⟩
set_option maxHeartbeats 1000000 in
theorem ibestfn_yes (v : Value) (xs : List TkEl) (w : World) (hr : TkReads w v xs) (hg : goodT xs = true) :
    Calls Try.prog 22 #[v] w fun e w' => e = .returned (.tuple #[.int .i64 (bestL xs : Nat), .bool true]) ∧ Below w.heap.size w w' := by
  rw [bestL_eq hg]
  have HR := hid hr
  have HG := hid hg
  clear hr hg
  obtain ⟨m, hm⟩ : ∃ m, m = (mooreL xs).1.length := ⟨_, rfl⟩
  rw [← hm]
  have HM := hid hm
  clear hm
  go_enter Try.func22, Try.ntmps22
  go_wp2_with fail
  refine (igoodTasks_eq _ xs true HG.out _ HR.out).mono ?_
  rintro e w1 ⟨rfl, b1⟩
  have B1 := hid b1
  clear b1
  go_wp2_with fail
  refine (ibest_any _ xs _ (HR.out.below B1.out) HG.out).mono ?_
  rintro e w2 ⟨rfl, b2⟩
  rw [← HM.out]
  have B2 : Hid (Below w.heap.size w w2) := B1.out.trans (b2.mono B1.out.size)
  clear b2
  go_wp2
  go_ret2
  exact ⟨rfl, B2.out⟩
end Go.Proofs.Ytpkngcamaahhdab
