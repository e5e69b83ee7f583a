/-
  impl.completions: when each task is done, in memory of its own. Nothing old is written.
-/
import Derived.Test.YtpkngcamaahhdabDoneMath
import Derived.Test.YtpkngcamaahhdabIRows
namespace Go.Proofs.Ytpkngcamaahhdab
open Go.RowKit

set_option maxRecDepth 100000 in
set_option maxHeartbeats 8000000 in
theorem idone_any (v vo : Value) (xs : List TkEl) (os : List Nat) (w : World) (hr : TkReads w v xs) (hs : KReads w vo (ofN os)) (hg : goodT xs = true) (ho : os.Perm (List.range xs.length)) :
    Calls Try.prog 66 #[v, vo] w fun e w' => e = .returned (.slice (some ⟨w.heap.size, 0, none⟩) xs.length xs.length) ∧ IRow w' w.heap.size xs.length xs.length (doneL xs os) ∧ Below w.heap.size w w' := by
  have HR := hid hr
  have HS := hid hs
  have HG := hid hg
  have hlen := goodT_len hg
  obtain ⟨hn, hl, hk⟩ := perm_facts ho
  have HN := hid hn
  have HK := hid hk
  have HL := hid hl
  have HLO : Hid ((ofN os).length = xs.length) := by show _ = _; rw [ofN, List.length_map]; exact hl
  obtain ⟨a, cap, rfl, _, _⟩ := hr
  obtain ⟨ao, capo, rfl, _, _⟩ := hs
  rw [HLO.out]
  obtain ⟨i0, hi, hz0, hz1, hz2⟩ := info_parts info_int
  clear hg hn hk hl ho
  go_enter Try.func66, Try.ntmps66
  go_wp2_with (at_make; refine wpList_make_row _ rfl _ _ 42 rfl 3 i0 (.int .i64 0) Try.underlying42 hi hz0 hz1 rfl .i64 .i64 xs.length rfl rfl (by rw [hz2]; omega) (by omega) ?_)
  have O0 : Hid (IRow (w.alloc (.cells (madeCells #[.int .i64 0] xs.length) 3)) w.heap.size xs.length xs.length (doneU xs os 0)) := by
    show IRow _ _ _ _ _
    rw [doneU_zero]
    exact IRow.made w _ (by omega)
  go_loopw [6, 14] (fun t i wr => ∃ k : Nat, k ≤ xs.length ∧ i = .int .i64 k ∧ t = .int .i64 (sumL (needT xs) (os.take k)) ∧ IRow wr w.heap.size xs.length xs.length (doneU xs os k) ∧ Below w.heap.size w wr) (fun _ i _ => xs.length - (intOf i).toNat)
  case atStart => exact ⟨0, by omega, rfl, rfl, O0.out, (Below.refl _ _).alloc (Nat.le_refl _) _⟩
  case round =>
    obtain ⟨k, hk, rfl, rfl, hown, hbel⟩ := hrel
    have HO := hid hown
    have HB := hid hbel
    clear hown hbel O0
    by_cases hlt : k < xs.length
    · have hko : k < os.length := by rw [HL.out]; exact hlt
      obtain ⟨go, oo, capo', e, hco⟩ := (HS.out.below HB.out).cells k (by rw [HLO.out]; exact hlt)
      rw [HLO.out] at e
      cases e
      obtain ⟨j, hj⟩ : ∃ j, j = os.getD k 0 := ⟨_, rfl⟩
      have hjx : j < xs.length := by rw [hj]; exact HK.out _ (getD_mem hko)
      have cj : wr.cell? ⟨go, oo + k, none⟩ = some (.int .i64 (j : Nat)) := by
        have := hco k (by rw [HLO.out]; exact hlt)
        rw [ofN_get hko, ← hj] at this
        exact this
      obtain ⟨g, o, cap', e, hc⟩ := (HR.out.below HB.out).cells j hjx
      cases e
      have HSum := hid (sum_next (needT xs) hko)
      have HNext := hid (doneU_succ (xs := xs) HN.out hko)
      rw [← hj] at HSum HNext
      obtain ⟨c0, c1⟩ := hc j hjx
      have hb := sumL_in HG.out (os.take k) fun x hx => HK.out x (List.mem_of_mem_take hx)
      have hlt2 : (os.take k).length ≤ 10 := by rw [List.length_take]; omega
      have hnd := goodT_at HG.out j hjx
      obtain ⟨p, hp⟩ : ∃ p, p = needT xs j := ⟨_, rfl⟩
      have c0' : wr.cell? ⟨g, o + j * 2, none⟩ = some (.int .i64 p) := by rw [hp]; exact c0
      rw [← hp] at HSum hnd
      obtain ⟨s, hs⟩ : ∃ s, s = sumL (needT xs) (os.take k) := ⟨_, rfl⟩
      rw [← hs] at HSum hb ⊢
      have hw1 : IntKind.i64.wrap (s + p) = s + p := by rw [IntKind.wrap_i64]; omega
      have hfr : wr.frozen? ⟨w.heap.size, j, none⟩ = false := HO.out.free j
      have hcl : wr.cell? ⟨w.heap.size, j, none⟩ = some (.int .i64 ((doneU xs os k).getD j 0)) := HO.out.cell hjx
      have HSet : Hid (IRow (wr.setCell ⟨w.heap.size, j, none⟩ (.int .i64 (s + p))) w.heap.size xs.length xs.length (doneU xs os (k + 1))) := by
        show IRow _ _ _ _ _
        rw [HNext.out, HSum.out]
        exact HO.out.set j _
      have HB2 : Hid (Below w.heap.size w (wr.setCell ⟨w.heap.size, j, none⟩ (.int .i64 (s + p)))) := HB.out.setCell (by simp) _
      have n0 : (0 : Int) ≤ (j : Int) := by omega
      have n1 : (j : Int) < (xs.length : Int) := by omega
      clear hc hco hj hp c0 c1 HNext hnd hlt2 hb hs
      go_wp2
      go_roundw
      case rel => exact ⟨k + 1, by omega, by go_num, by rw [HSum.out], HSet.out, HB2.out⟩
      case measure => simp [intOf]; omega
    · obtain rfl : k = xs.length := by omega
      go_wp2
      go_ret
      refine ⟨rfl, ?_, HB.out⟩
      have := HO.out
      rw [doneU_all xs os (by rw [HL.out]; exact Nat.le_refl _)] at this
      exact this
end Go.Proofs.Ytpkngcamaahhdab
