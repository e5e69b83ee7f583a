/-
  impl.needOf: the Needs of some tasks added up. Nothing is written.
-/
import Derived.Test.YtpkngcamaahhdabDoneMath
import Derived.Test.YtpkngcamaahhdabKIntRows
namespace Go.Proofs.Ytpkngcamaahhdab
open Go.RowKit

set_option maxHeartbeats 4000000 in
theorem ineed_any (v vo : Value) (xs : List TkEl) (us : List Nat) (w : World) (hr : TkReads w v xs) (hs : KReads w vo (ofN us)) (hg : goodT xs = true) (hin : ∀ k, k ∈ us → k < xs.length) (hl : us.length ≤ 10) :
    Calls Try.prog 81 #[v, vo] w fun e w' => e = .returned (.int .i64 (sumL (needT xs) us)) ∧ w' = w := by
  have HR := hid hr
  have HS := hid hs
  have HG := hid hg
  have HK := hid hin
  have HLO : Hid ((ofN us).length = us.length) := by show _ = _; rw [ofN, List.length_map]
  obtain ⟨a, cap, rfl, _, _⟩ := hr
  obtain ⟨ao, capo, rfl, _, _⟩ := hs
  rw [HLO.out]
  clear hg hin
  go_enter Try.func81, Try.ntmps81
  go_wp2
  go_loopw [5, 10] (fun t i wr => ∃ k : Nat, k ≤ us.length ∧ i = .int .i64 k ∧ t = .int .i64 (sumL (needT xs) (us.take k)) ∧ w = wr) (fun _ i _ => us.length - (intOf i).toNat)
  case atStart => exact ⟨0, by omega, rfl, rfl, rfl⟩
  case round =>
    obtain ⟨k, hk, rfl, rfl, rfl⟩ := hrel
    by_cases hlt : k < us.length
    · obtain ⟨go, oo, capo', e, hco⟩ := HS.out.cells k (by rw [HLO.out]; exact hlt)
      rw [HLO.out] at e
      cases e
      obtain ⟨j, hj⟩ : ∃ j, j = us.getD k 0 := ⟨_, rfl⟩
      have hjx : j < xs.length := by rw [hj]; exact HK.out _ (getD_mem hlt)
      have cj : w.cell? ⟨go, oo + k, none⟩ = some (.int .i64 (j : Nat)) := by
        have := hco k (by rw [HLO.out]; exact hlt)
        rw [ofN_get hlt, ← hj] at this
        exact this
      obtain ⟨g, o, cap', e, hc⟩ := HR.out.cells j hjx
      cases e
      have HSum := hid (sum_next (needT xs) hlt)
      rw [← hj] at HSum
      obtain ⟨c0, c1⟩ := hc j hjx
      have hb := sumL_in HG.out (us.take k) fun x hx => HK.out x (List.mem_of_mem_take hx)
      have hlt2 : (us.take k).length ≤ 10 := by rw [List.length_take]; omega
      have hnd := goodT_at HG.out j hjx
      obtain ⟨p, hp⟩ : ∃ p, p = needT xs j := ⟨_, rfl⟩
      have c0' : w.cell? ⟨g, o + j * 2, none⟩ = some (.int .i64 p) := by rw [hp]; exact c0
      rw [← hp] at HSum hnd
      obtain ⟨s, hs⟩ : ∃ s, s = sumL (needT xs) (us.take k) := ⟨_, rfl⟩
      rw [← hs] at HSum hb ⊢
      have hw1 : IntKind.i64.wrap (s + p) = s + p := by rw [IntKind.wrap_i64]; omega
      have n0 : (0 : Int) ≤ (j : Int) := by omega
      have n1 : (j : Int) < (xs.length : Int) := by omega
      clear hc hco hj hp c0 c1 hnd hlt2 hb hs
      go_wp2
      go_roundw
      case rel => exact ⟨k + 1, by omega, by go_num, by rw [HSum.out], by first | rfl | trivial⟩
      case measure => simp [intOf]; omega
    · obtain rfl : k = us.length := by omega
      rw [List.take_length]
      go_wp2
      go_ret
      exact ⟨rfl, rfl⟩
end Go.Proofs.Ytpkngcamaahhdab
