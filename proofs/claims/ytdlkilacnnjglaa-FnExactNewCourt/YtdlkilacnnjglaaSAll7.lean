/-
  spec.l1All: whether all of a list lie between two numbers. Nothing is written.
-/
import Derived.Test.YtdlkilacnnjglaaSIn
import Derived.Test.YtdlkilacnnjglaaKIntRows
namespace Go.Proofs.Ytdlkilacnnjglaa
open Go.RowKit

def sl7 (ss : List Int) (i : Nat) : Int := ss.getD i 0
theorem iall7_take (ss : List Int) (f : Int → Bool) (k : Nat) (hk : k < ss.length) : (ss.take (k + 1)).all f = ((ss.take k).all f && f (sl7 ss k)) := by
  rw [List.take_succ_eq_append_getElem hk, List.all_append]
  simp [sl7, List.getD_eq_getElem?_getD, hk]
theorem iall7_false {ss : List Int} {f : Int → Bool} (k : Nat) (hk : k < ss.length) (h : f (sl7 ss k) = false) : ss.all f = false := by
  rw [← Bool.not_eq_true, List.all_eq_true]
  intro hh
  have := hh (sl7 ss k) (by simp [sl7, List.getD_eq_getElem?_getD, hk])
  rw [h] at this
  cases this
set_option maxHeartbeats 1000000 in
theorem l1All7_eq (v : Value) (ss : List Int) (lo hi : Int) (t : Bool) (h : (ss.all fun k => decide (lo ≤ k ∧ k ≤ hi)) = t) (w : World) (hr : KReads w v ss) :
    Calls Try.prog 40 #[v, .int .i64 lo, .int .i64 hi] w fun e w' => e = .returned (.bool t) ∧ w' = w := by
  have HT := hid h
  clear h
  have HR := hid hr
  obtain ⟨a, cap, rfl, ⟨hlen, _⟩, _⟩ := hr
  go_enter Try.func40, Try.ntmps40
  go_wp2
  go_loopw [11] (fun i wr => ∃ k : Nat, k ≤ ss.length ∧ i = .int .i64 k ∧ (ss.take k).all (fun k => decide (lo ≤ k ∧ k ≤ hi)) = true ∧ w = wr) (fun i _ => ss.length - (intOf i).toNat)
  case atStart => exact ⟨0, Nat.zero_le _, rfl, rfl, rfl⟩
  case round =>
    obtain ⟨k, hk, rfl, hall, rfl⟩ := hrel
    have HA := hid hall
    clear hall
    by_cases hlt : k < ss.length
    · obtain ⟨g, o, cap', e, hc⟩ := HR.out.cells k hlt
      cases e
      obtain ⟨x, hx⟩ : ∃ x, x = sl7 ss k := ⟨_, rfl⟩
      have hck : w.cell? ⟨g, o + k, none⟩ = some (.int .i64 x) := by rw [hx]; exact hc k hlt
      obtain ⟨b, hb⟩ : ∃ b, decide (lo ≤ x ∧ x ≤ hi) = b := ⟨_, rfl⟩
      have HK := hid hb
      have HS : Hid ((ss.take (k + 1)).all (fun k => decide (lo ≤ k ∧ k ≤ hi)) = b) := by show _ = _; rw [iall7_take ss _ k hlt, HA.out, ← hx, hb, Bool.true_and]
      have HF : Hid (b = false → t = false) := fun e => by rw [← HT.out]; exact iall7_false k hlt (by rw [← hx, hb, e])
      have n0 : (0 : Int) ≤ (k : Int) := by omega
      have n1 : (k : Int) < (ss.length : Int) := by omega
      clear hc hb hx
      go_wp2_with fail
      refine (l1In_eq x lo hi b HK.out _).mono ?_
      rintro e w' ⟨rfl, hw⟩; obtain rfl := hw.symm
      cases b
      · have hv := hid (HF.out rfl)
        go_wp2
        go_ret
        exact ⟨by rw [hv.out]; rfl, rfl⟩
      · go_wp2
        go_roundw
        case rel => exact ⟨k + 1, by omega, by go_num, HS.out, trivial⟩
        case measure => simp [intOf]; omega
    · have hv : Hid (t = true) := by show _ = _; rw [← HT.out]; have := HA.out; rw [List.take_of_length_le (by omega)] at this; exact this
      go_wp2
      go_ret
      exact ⟨by rw [hv.out]; rfl, rfl⟩
end Go.Proofs.Ytdlkilacnnjglaa
