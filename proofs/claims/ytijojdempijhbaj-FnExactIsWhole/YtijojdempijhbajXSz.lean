/-
  laws.szStringS: what is left of a bound behind a list's length and its texts'. Nothing is written.
-/
import Derived.Test.YtijojdempijhbajXArg
namespace Go.Proofs.Ytijojdempijhbaj
open Go.RowKit

def xtot : List XEl → Nat
  | [] => 0
  | s :: l => s.size + xtot l
theorem xtot_take (xs : List XEl) (k : Nat) (h : k < xs.length) : xtot (xs.take (k + 1)) = xtot (xs.take k) + (xs.getD k xz).size := by
  induction xs generalizing k with
  | nil => simp at h
  | cons x xs ih =>
    rcases k with _ | k
    · simp [xtot]
    · have := ih k (by simpa using h)
      simp only [List.take_succ_cons, xtot, this, List.getD_cons_succ]
      omega
theorem xtot_mem (xs : List XEl) (s : XEl) (h : s ∈ xs) : s.size ≤ xtot xs := by
  induction xs with
  | nil => simp at h
  | cons x xs ih =>
    simp only [xtot]
    rcases List.mem_cons.1 h with rfl | h
    · omega
    · have := ih h; omega

set_option maxHeartbeats 2000000 in
theorem szStringS_any (a : Option Addr) (len cap : Nat) (xs : List XEl) (w : World) (h : XArg w a len cap xs) :
    Calls Try.prog 9 #[.slice a len cap, .int .i64 1048576] w fun e w' => ∃ r : Int, e = .returned (.int .i64 r) ∧ ((r = -1 ∨ 0 ≤ r ∧ xs.length + xtot xs ≤ 1048576) ∧ -1 ≤ r ∧ r ≤ 1048576) ∧ w' = w := by
  obtain ⟨rfl, hc, hm, hx, hs⟩ := h
  unfold maxLen at hm
  have hw : IntKind.i64.wrap (1048576 - (xs.length : Int)) = 1048576 - xs.length := by rw [IntKind.wrap_i64]; omega
  by_cases hl : 1048576 - (xs.length : Int) < 0
  · have hd : decide (1048576 - (xs.length : Int) < 0) = true := by simpa using hl
    clear hx hs
    go_enter Try.func9, Try.ntmps9
    go_wp2
    go_ret
    exact ⟨-1, rfl, ⟨.inl rfl, by omega, by omega⟩, rfl⟩
  · have hd : decide (1048576 - (xs.length : Int) < 0) = false := by simpa using hl
    have HX := hid hx
    have HS := hid hs
    clear hx hs
    go_enter Try.func9, Try.ntmps9
    go_wp2
    go_loopw [1, 5] (fun m i wr => ∃ j : Nat, ∃ t : Int, j ≤ xs.length ∧ i = .int .i64 j ∧ m = .int .i64 t ∧ (0 ≤ t ∧ t = 1048576 - (xs.length : Int) - (xtot (xs.take j) : Nat)) ∧ w = wr) (fun _ i _ => xs.length - (intOf i).toNat)
    case atStart => exact ⟨0, _, Nat.zero_le _, rfl, rfl, ⟨by omega, by simp [xtot]⟩, rfl⟩
    case round =>
      obtain ⟨j, t, hj, rfl, rfl, ht, rfl⟩ := hrel
      by_cases hlt : j < xs.length
      · obtain ⟨b, off, rfl, hcs⟩ : ∃ b off, a = some ⟨b, off, none⟩ ∧ ∀ i, i < xs.length → XCells w b (off + i) (xs.getD i xz) := by
          rcases HX.out with h | h
          · subst h; simp at hlt
          · exact h
        have c0 : _ = _ := hcs j hlt
        have htk := xtot_take xs j hlt
        have hsz : (xs.getD j xz).size ≤ 9223372036854775807 := HS.out _ (by simp [List.getD_eq_getElem?_getD, hlt])
        clear hcs
        obtain ⟨ht0, ht1⟩ := ht
        have HT := hid ht1
        have HK := hid htk
        clear ht1 htk
        generalize xs.getD j xz = s at c0 hsz HK
        have ht2 : t ≤ 1048576 := by have := HT.out; omega
        have hw2 : IntKind.i64.wrap (t - (s.size : Int)) = t - s.size := by rw [IntKind.wrap_i64]; omega
        by_cases hn : t - (s.size : Int) < 0
        · have hd2 : decide (t - (s.size : Int) < 0) = true := by simpa using hn
          go_wp2
          go_ret
          exact ⟨-1, rfl, ⟨.inl rfl, by omega, by omega⟩, rfl⟩
        · have hd2 : decide (t - (s.size : Int) < 0) = false := by simpa using hn
          go_wp2
          go_roundw
          case rel => exact ⟨j + 1, _, by omega, by go_num, rfl, ⟨by omega, by rw [HK.out, HT.out]; omega⟩, trivial⟩
          case measure => simp [intOf]; omega
      · obtain rfl : j = xs.length := by omega
        rw [List.take_length] at ht
        have HT := hid ht
        clear ht
        go_wp2
        go_ret
        exact ⟨_, rfl, ⟨.inr ⟨HT.out.1, by have := HT.out; omega⟩, by have := HT.out; omega, by have := HT.out; omega⟩, rfl⟩
end Go.Proofs.Ytijojdempijhbaj
