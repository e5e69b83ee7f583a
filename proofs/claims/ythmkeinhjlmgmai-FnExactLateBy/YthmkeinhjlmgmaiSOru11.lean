/-
  spec.l11Order: whether letters are unlike and below many. Nothing is written.
-/
import Derived.Test.YthmkeinhjlmgmaiSdFns
import Derived.Test.YthmkeinhjlmgmaiSHas1
import Derived.Test.YthmkeinhjlmgmaiSIn
namespace Go.Proofs.Ythmkeinhjlmgmai
open Go.RowKit

set_option maxRecDepth 100000 in
set_option maxHeartbeats 4000000 in
theorem soru_eq (v : Value) (xs : List Int) (many : Int) (t : Bool) (h : oruB xs many = t) (hm : 0 ≤ many ∧ many ≤ 60) (w : World) (hr : KReads w v xs) :
    Calls Try.prog 30 #[v, .int .i64 many] w fun e w' => e = .returned (.bool t) ∧ w' = w := by
  have HT := hid h
  have HR := hid hr
  obtain ⟨a, cap, rfl, hl, _⟩ := hr
  obtain ⟨m1, hm1⟩ : ∃ m1, m1 = many - 1 := ⟨_, rfl⟩
  have hw1 : IntKind.i64.wrap (many - 1) = m1 := by rw [hm1, IntKind.wrap_i64]; omega
  have HM := hid hm1
  clear h hm1
  go_enter Try.func30, Try.ntmps30
  go_wp2
  go_loopw [9] (fun i wr => ∃ k : Nat, k ≤ xs.length ∧ i = .int .i64 k ∧ oruU xs many k = true ∧ w = wr) (fun i _ => xs.length - (intOf i).toNat)
  case atStart => exact ⟨0, Nat.zero_le _, rfl, rfl, rfl⟩
  case round =>
    obtain ⟨k, hk, rfl, hu, rfl⟩ := hrel
    have HU := hid hu
    clear hu
    by_cases hlt : k < xs.length
    · obtain ⟨g, o, cap', e, hc⟩ := HR.out.cells k hlt
      cases e
      obtain ⟨x, hx⟩ : ∃ x, x = fl xs k := ⟨_, rfl⟩
      have cx : w.cell? ⟨g, o + k, none⟩ = some (.int .i64 x) := by rw [hx]; exact hc k hlt
      obtain ⟨b1, hb1⟩ : ∃ b, decide (0 ≤ x ∧ x ≤ m1) = b := ⟨_, rfl⟩
      obtain ⟨b2, hb2⟩ : ∃ b, (xs.take k).contains x = b := ⟨_, rfl⟩
      have HB1 := hid hb1
      have HB2 := hid hb2
      have HS : Hid (oruU xs many (k + 1) = (b1 && !b2)) := by
        show (oruU xs many k && _) = _
        rw [HU.out, ← hx, ← HM.out, hb1, hb2]; rfl
      have HF : Hid (oruU xs many (k + 1) = false → t = false) := fun h => by rw [← HT.out]; exact oruU_no h _ (by omega)
      have FR := hid (HR.out.front k hk)
      have m0 : (0 : Int) ≤ (k : Int) := by omega
      have n1 : (k : Int) < (xs.length : Int) := by omega
      have n2 : (k : Int) ≤ (cap : Int) := by omega
      have n3 : (k : Int) ≤ (xs.length : Int) := by omega
      clear hx hb1 hb2 hc
      go_wp2_with fail
      refine (l1In_eq x 0 m1 b1 HB1.out _).mono ?_
      rintro e w' ⟨rfl, hw⟩; obtain rfl := hw.symm
      cases b1
      · have HV : Hid (t = false) := HF.out HS.out
        go_wp2
        go_ret
        exact ⟨by rw [HV.out]; rfl, rfl⟩
      go_wp2_with fail
      refine (l1Has_eq _ (xs.take k) x b2 HB2.out _ FR.out).mono ?_
      rintro e w' ⟨rfl, hw⟩; obtain rfl := hw.symm
      cases b2
      · go_wp2
        go_roundw
        case rel => exact ⟨k + 1, by omega, by go_num, HS.out, by first | rfl | trivial⟩
        case measure => simp [intOf]; omega
      · have HV : Hid (t = false) := HF.out HS.out
        go_wp2
        go_ret
        exact ⟨by rw [HV.out]; rfl, rfl⟩
    · have HV : Hid (t = true) := by show _ = _; rw [← HT.out]; have h := HU.out; rw [show k = xs.length by omega] at h; exact h
      go_wp2
      go_ret
      exact ⟨by rw [HV.out]; rfl, rfl⟩
end Go.Proofs.Ythmkeinhjlmgmai
