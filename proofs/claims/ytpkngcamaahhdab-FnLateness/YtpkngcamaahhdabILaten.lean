/-
  impl.LatenessOf: the greatest lateness of an order. Nothing old is written.
-/
import Derived.Test.YtpkngcamaahhdabITask
import Derived.Test.YtpkngcamaahhdabIOrd
import Derived.Test.YtpkngcamaahhdabILats
import Derived.Test.YtpkngcamaahhdabIMax
namespace Go.Proofs.Ytpkngcamaahhdab
open Go.RowKit

set_option maxHeartbeats 2000000 in
theorem ilaten_no (v vo : Value) (xs : List TkEl) (ys : List Int) (w : World) (hr : TkReads w v xs) (hs : KReads w vo ys) (hn : (goodT xs && ordB xs.length ys) = false) :
    Calls Try.prog 27 #[v, vo] w fun e w' => e = .returned (.tuple #[.int .i64 0, .bool false]) ∧ Below w.heap.size w w' := by
  have HR := hid hr
  have HS := hid hs
  have HN := hid hn
  obtain ⟨a, cap, rfl, _, _⟩ := hr
  clear hs hn
  obtain ⟨b, hb⟩ : ∃ b, goodT xs = b := ⟨_, rfl⟩
  have HG := hid hb
  cases b
  · clear hb
    go_enter Try.func27, Try.ntmps27
    go_wp2_with fail
    refine (igoodTasks_eq _ xs false HG.out _ HR.out).mono ?_
    rintro e w1 ⟨rfl, b1⟩
    have B1 := hid b1
    clear b1
    go_wp2
    go_ret2
    exact ⟨rfl, B1.out⟩
  · have hl := goodT_len hb
    have HO : Hid (ordB xs.length ys = false) := by have := HN.out; rw [hb, Bool.true_and] at this; exact this
    clear hb
    go_enter Try.func27, Try.ntmps27
    go_wp2_with fail
    refine (igoodTasks_eq _ xs true HG.out _ HR.out).mono ?_
    rintro e w1 ⟨rfl, b1⟩
    have B1 := hid b1
    clear b1
    go_wp2_with fail
    refine (igoodOrder_eq _ ys xs.length false HO.out (by omega) _ (HS.out.below B1.out)).mono ?_
    rintro e w2 ⟨rfl, b2⟩
    have B2 : Hid (Below w.heap.size w w2) := B1.out.trans (b2.mono B1.out.size)
    clear b2
    go_wp2
    go_ret2
    exact ⟨rfl, B2.out⟩
def latM (xs : List TkEl) (os : List Nat) : Int := if xs.length = 0 then 0 else mostU (latV xs os) xs.length
theorem most_of {xs : List TkEl} {os : List Nat} (h0 : 0 < xs.length) {r : Int} (h : ∀ c : Int, r ≤ c ↔ ∀ i, i < (latL xs os).length → sl5 (latL xs os) i ≤ c) : latM xs os = r := by
  unfold latM
  rw [if_neg (by omega)]
  rw [latL_len] at h
  have h1 : r ≤ mostU (latV xs os) xs.length := (h _).2 fun i hi => by
    show (latL xs os).getD i 0 ≤ _
    rw [latL_get hi]
    exact mostU_ge _ _ _ hi
  have h2 : mostU (latV xs os) xs.length ≤ r := mostU_le _ h0 fun k hk => by
    have := (h r).1 (Int.le_refl _) k hk
    have e : sl5 (latL xs os) k = latV xs os k := latL_get hk
    rw [← e]
    exact this
  omega
set_option maxHeartbeats 4000000 in
theorem ilaten_yes (v vo : Value) (xs : List TkEl) (os : List Nat) (w : World) (hr : TkReads w v xs) (hs : KReads w vo (ofN os)) (hg : goodT xs = true) (ho : os.Perm (List.range xs.length)) :
    Calls Try.prog 27 #[v, vo] w fun e w' => e = .returned (.tuple #[.int .i64 (latM xs os), .bool true]) ∧ Below w.heap.size w w' := by
  have HR := hid hr
  have HS := hid hs
  have HG := hid hg
  have HP := hid ho
  have hl := goodT_len hg
  have HO : Hid (ordB xs.length (ofN os) = true) := ordB_map ho
  obtain ⟨a, cap, rfl, _, _⟩ := hr
  clear hs hg ho
  rcases Nat.eq_zero_or_pos xs.length with hz | hz
  · have HZ : Hid (latM xs os = 0) := by show _ = _; unfold latM; rw [if_pos hz]
    have d0 : ((xs.length : Int) == 0) = true := by rw [hz]; rfl
    clear hz
    go_enter Try.func27, Try.ntmps27
    go_wp2_with fail
    refine (igoodTasks_eq _ xs true HG.out _ HR.out).mono ?_
    rintro e w1 ⟨rfl, b1⟩
    have B1 := hid b1
    clear b1
    go_wp2_with fail
    refine (igoodOrder_eq _ (ofN os) xs.length true HO.out (by omega) _ (HS.out.below B1.out)).mono ?_
    rintro e w2 ⟨rfl, b2⟩
    have B2 : Hid (Below w.heap.size w w2) := B1.out.trans (b2.mono B1.out.size)
    clear b2
    go_wp2
    go_ret2
    exact ⟨by rw [HZ.out]; rfl, B2.out⟩
  · have d0 : ((xs.length : Int) == 0) = false := by rw [beq_eq_false_iff_ne]; omega
    have HZ := hid hz
    clear hz
    go_enter Try.func27, Try.ntmps27
    go_wp2_with fail
    refine (igoodTasks_eq _ xs true HG.out _ HR.out).mono ?_
    rintro e w1 ⟨rfl, b1⟩
    have B1 := hid b1
    clear b1
    go_wp2_with fail
    refine (igoodOrder_eq _ (ofN os) xs.length true HO.out (by omega) _ (HS.out.below B1.out)).mono ?_
    rintro e w2 ⟨rfl, b2⟩
    have B2 : Hid (Below w.heap.size w w2) := B1.out.trans (b2.mono B1.out.size)
    clear b2
    go_wp2_with fail
    refine (ilats_any _ vo xs os _ (HR.out.below B2.out) (HS.out.below B2.out) HG.out HP.out).mono ?_
    rintro e w3 ⟨rfl, hrow, b3⟩
    have R3 : Hid (KReads w3 (.slice (some ⟨w2.heap.size, 0, none⟩) xs.length xs.length) (latL xs os)) := hrow.reads (by omega)
    have B3 : Hid (Below w.heap.size w w3) := B2.out.trans (b3.mono B2.out.size)
    clear hrow b3
    go_wp2_with fail
    refine (slicesMax_any _ (latL xs os) _ R3.out (by rw [latL_len]; exact HZ.out) (by rw [latL_len]; omega)).mono ?_
    rintro e w' ⟨r, rfl, hmax, hw⟩; obtain rfl := hw.symm
    have HM := hid (most_of HZ.out hmax)
    clear hmax
    go_wp2
    go_ret2
    exact ⟨by rw [HM.out]; rfl, B3.out⟩
end Go.Proofs.Ytpkngcamaahhdab
