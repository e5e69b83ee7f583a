/-
  Texts of noughts: plain words.
  impl.isAllZero: whether a text is of noughts alone, read by runes. Nothing old is written.
-/
import Derived.Test.YtnkpboobfkjibalPcMath
import Derived.Laws.RangeAny
import Derived.LoopTactic
namespace Go.Proofs.Ytnkpboobfkjibal

def zeroU (s : ByteArray) (k : Nat) : Bool := (List.range k).all fun i => bt s i == 0
theorem zeroU_succ (s : ByteArray) (k : Nat) : zeroU s (k + 1) = (zeroU s k && bt s k == 0) := by simp [zeroU, List.range_succ]
def zeroB (s : ByteArray) : Bool := zeroU s s.size
theorem zeroB_bad (s : ByteArray) (k : Nat) (h : k < s.size) (hb : bt s k ≠ 0) : zeroB s = false := by
  rw [← Bool.not_eq_true]
  intro hh
  unfold zeroB zeroU at hh
  rw [List.all_eq_true] at hh
  have := hh k (List.mem_range.2 h)
  exact hb (by simpa using this)
theorem zeroB_list (l : List UInt8) : zeroB ⟨l.toArray⟩ = true ↔ l = List.replicate l.length 0 := by
  unfold zeroB zeroU
  rw [List.all_eq_true, List.eq_replicate_iff]
  have hs : (⟨l.toArray⟩ : ByteArray).size = l.length := by simp [ByteArray.size]
  rw [hs]
  constructor
  · intro h
    refine ⟨rfl, fun b hb => ?_⟩
    obtain ⟨i, hi, rfl⟩ := List.mem_iff_getElem.1 hb
    have := h i (List.mem_range.2 hi)
    rw [bt_list] at this
    simpa [List.getD_eq_getElem?_getD, hi] using this
  · rintro ⟨_, h⟩ i hi
    have hi' := List.mem_range.1 hi
    rw [bt_list]
    have := h l[i] (List.getElem_mem hi')
    simpa [List.getD_eq_getElem?_getD, hi'] using this
theorem zrow_get (n j : Nat) : (List.replicate n (0 : UInt8)).getD j 0 = 0 := by
  rw [List.getD_eq_getElem?_getD, List.getElem?_replicate]
  split <;> rfl
end Go.Proofs.Ytnkpboobfkjibal
namespace Go.Proofs.Ytnkpboobfkjibal
open Go.RowKit

set_option maxHeartbeats 2000000 in
theorem izero_any (s : ByteArray) (t : Bool) (h : zeroB s = t) (w : World) :
    Calls Try.prog 36 #[.string s] w fun e w' => e = .returned (.bool t) ∧ Below w.heap.size w w' := by
  have HT := hid h
  clear h
  have HB : Hid (∀ p, Below w.heap.size w (w.iter s p)) := fun p => (Below.refl _ _).alloc (Nat.le_refl _) _
  go_enter Try.func36, Try.ntmps36
  go_wp2
  go_loopw [] (fun wr => ∃ p : Nat, p ≤ s.size ∧ wr = w.iter s p ∧ zeroU s p = true) (fun wr => s.size - wr.iterPos w.heap.size)
  case atStart => exact ⟨0, Nat.zero_le _, rfl, by simp [zeroU]⟩
  case round =>
    obtain ⟨p, hp, rfl, hz⟩ := hrel
    by_cases hlt : p < s.size
    · by_cases h0 : (s[p]'hlt).toNat = 0
      · have hnx : ∀ ty, (Instr.next (.pointer (some ⟨w.heap.size, 0, none⟩)) true ty).run Try.prog (w.iter s p) = .ok (.tuple #[.bool true, .int .i64 p, .int .i32 0]) (w.iter s (p + 1)) := fun ty => by
          rw [run_next_ascii w s p ty hlt (by omega), h0]
          rfl
        have HZ : Hid (zeroU s (p + 1) = true) := by
          show _ = _
          rw [zeroU_succ, hz, ← bt_eq s p hlt]
          have : s[p]'hlt = 0 := UInt8.toNat_inj.1 (by simpa using h0)
          rw [this]
          rfl
        clear hz h0
        go_wp2
        go_roundw
        case rel => exact ⟨p + 1, by omega, rfl, HZ.out⟩
        case measure => simp; omega
      · have HV : Hid (t = false) := by
          show _ = _
          rw [← HT.out]
          refine zeroB_bad s p hlt ?_
          rw [← bt_eq s p hlt]
          intro e
          rw [e] at h0
          exact h0 rfl
        obtain ⟨r, q, hr, hnx⟩ : ∃ (r q : Nat), r ≠ 0 ∧ ∀ ty, (Instr.next (.pointer (some ⟨w.heap.size, 0, none⟩)) true ty).run Try.prog (w.iter s p) = .ok (.tuple #[.bool true, .int .i64 p, .int .i32 (r : Nat)]) (w.iter s q) := by
          refine ⟨(Utf8.decode s p).1, p + (Utf8.decode s p).2, ?_, fun ty => run_next_any w s p ty hlt⟩
          by_cases ha : (s[p]'hlt).toNat < 128
          · rw [decode_ascii s p hlt ha]; exact h0
          · have := (decode_high s p hlt (by omega)).1; omega
        have hr1 : ((r : Int) != 0) = true := by simp; omega
        clear h0 hz
        go_wp2
        go_ret
        exact ⟨by rw [HV.out]; rfl, HB.out _⟩
    · obtain rfl : p = s.size := by omega
      have hnx : ∀ ty, (Instr.next (.pointer (some ⟨w.heap.size, 0, none⟩)) true ty).run Try.prog (w.iter s s.size) = .ok (.tuple #[.bool false]) (w.iter s s.size) := fun ty => run_next_end w s s.size ty hlt
      have HV : Hid (t = true) := by show _ = _; rw [← HT.out]; exact hz
      clear hz
      go_wp2
      go_ret
      exact ⟨by rw [HV.out]; rfl, HB.out _⟩
end Go.Proofs.Ytnkpboobfkjibal
