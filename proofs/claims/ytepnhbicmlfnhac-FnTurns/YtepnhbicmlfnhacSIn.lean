/-
  spec.l1In: whether a number lies between two. Nothing is written.
  spec.l1All: whether all of a list lie between two numbers. Nothing is written.
  spec.NewTurns where the quanta are not as said: no turns. Nothing old is written.
-/
import Derived.Test.YtepnhbicmlfnhacInts
import Derived.Test.YtepnhbicmlfnhacKIntRows
import Derived.Test.YtepnhbicmlfnhacInfoII
namespace Go.Proofs.Ytepnhbicmlfnhac
open Go.RowKit

theorem l1In_eq (n lo hi : Int) (t : Bool) (h : decide (lo ≤ n ∧ n ≤ hi) = t) (w : World) : Calls Try.prog 75 #[.int .i64 n, .int .i64 lo, .int .i64 hi] w fun e w' => e = .returned (.bool t) ∧ w' = w := by
  by_cases h1 : lo ≤ n
  · by_cases h2 : n ≤ hi
    · have hv : Hid (t = true) := by show _ = _; rw [← h]; simp [h1, h2]
      clear h
      go_enter Try.func75, Try.ntmps75
      go_wp2
      go_ret
      exact ⟨by rw [hv.out]; rfl, rfl⟩
    · have hv : Hid (t = false) := by show _ = _; rw [← h]; simp [h2]
      clear h
      go_enter Try.func75, Try.ntmps75
      go_wp2
      go_ret
      exact ⟨by rw [hv.out]; rfl, rfl⟩
  · have hv : Hid (t = false) := by show _ = _; rw [← h]; simp [h1]
    clear h
    go_enter Try.func75, Try.ntmps75
    go_wp2
    go_ret
    exact ⟨by rw [hv.out]; rfl, rfl⟩
end Go.Proofs.Ytepnhbicmlfnhac
namespace Go.Proofs.Ytepnhbicmlfnhac
open Go.RowKit

def sl7 (ss : List Int) (i : Nat) : Int := ss.getD i 0
theorem iall7_take (ss : List Int) (f : Int → Bool) (k : Nat) (hk : k < ss.length) : (ss.take (k + 1)).all f = ((ss.take k).all f && f (sl7 ss k)) := by
  rw [List.take_succ_eq_append_getElem hk, List.all_append]
  simp [sl7, List.getD_eq_getElem?_getD, hk]
theorem iall7_false {ss : List Int} {f : Int → Bool} (k : Nat) (hk : k < ss.length) (h : f (sl7 ss k) = false) : ss.all f = false := by
  rw [← Bool.not_eq_true, List.all_eq_true]
  intro hh
  have := hh (sl7 ss k) (by simp [sl7, List.getD_eq_getElem?_getD, hk])
  rw [h] at this
  cases this
set_option maxHeartbeats 1000000 in
theorem l1All7_eq (v : Value) (ss : List Int) (lo hi : Int) (t : Bool) (h : (ss.all fun k => decide (lo ≤ k ∧ k ≤ hi)) = t) (w : World) (hr : KReads w v ss) :
    Calls Try.prog 81 #[v, .int .i64 lo, .int .i64 hi] w fun e w' => e = .returned (.bool t) ∧ w' = w := by
  have HT := hid h
  clear h
  have HR := hid hr
  obtain ⟨a, cap, rfl, ⟨hlen, _⟩, _⟩ := hr
  go_enter Try.func81, Try.ntmps81
  go_wp2
  go_loopw [11] (fun i wr => ∃ k : Nat, k ≤ ss.length ∧ i = .int .i64 k ∧ (ss.take k).all (fun k => decide (lo ≤ k ∧ k ≤ hi)) = true ∧ w = wr) (fun i _ => ss.length - (intOf i).toNat)
  case atStart => exact ⟨0, Nat.zero_le _, rfl, rfl, rfl⟩
  case round =>
    obtain ⟨k, hk, rfl, hall, rfl⟩ := hrel
    have HA := hid hall
    clear hall
    by_cases hlt : k < ss.length
    · obtain ⟨g, o, cap', e, hc⟩ := HR.out.cells k hlt
      cases e
      obtain ⟨x, hx⟩ : ∃ x, x = sl7 ss k := ⟨_, rfl⟩
      have hck : w.cell? ⟨g, o + k, none⟩ = some (.int .i64 x) := by rw [hx]; exact hc k hlt
      obtain ⟨b, hb⟩ : ∃ b, decide (lo ≤ x ∧ x ≤ hi) = b := ⟨_, rfl⟩
      have HK := hid hb
      have HS : Hid ((ss.take (k + 1)).all (fun k => decide (lo ≤ k ∧ k ≤ hi)) = b) := by show _ = _; rw [iall7_take ss _ k hlt, HA.out, ← hx, hb, Bool.true_and]
      have HF : Hid (b = false → t = false) := fun e => by rw [← HT.out]; exact iall7_false k hlt (by rw [← hx, hb, e])
      have n0 : (0 : Int) ≤ (k : Int) := by omega
      have n1 : (k : Int) < (ss.length : Int) := by omega
      clear hc hb hx
      go_wp2_with fail
      refine (l1In_eq x lo hi b HK.out _).mono ?_
      rintro e w' ⟨rfl, hw⟩; obtain rfl := hw.symm
      cases b
      · have hv := hid (HF.out rfl)
        go_wp2
        go_ret
        exact ⟨by rw [hv.out]; rfl, rfl⟩
      · go_wp2
        go_roundw
        case rel => exact ⟨k + 1, by omega, by go_num, HS.out, trivial⟩
        case measure => simp [intOf]; omega
    · have hv : Hid (t = true) := by show _ = _; rw [← HT.out]; have := HA.out; rw [List.take_of_length_le (by omega)] at this; exact this
      go_wp2
      go_ret
      exact ⟨by rw [hv.out]; rfl, rfl⟩
end Go.Proofs.Ytepnhbicmlfnhac
namespace Go.Proofs.Ytepnhbicmlfnhac
open Go.RowKit

set_option maxRecDepth 100000 in
set_option maxHeartbeats 16000000 in
theorem snewT_no (v : Value) (xs : List Int) (w : World) (hr : KReads w v xs) (h : newOk xs = false) :
    Calls Try.prog 47 #[v] w fun e w' => ∃ u0, e = .returned (.tuple #[u0, .bool false]) ∧ TuOwn (Iv w.heap.size w'.heap.size) w' u0 noT ∧ Below w.heap.size w w' := by
  have HR := hid hr
  obtain ⟨a, cap, rfl, _, _⟩ := hr
  have PB := hid (boxL_new w [.slice none 0 0, .slice none 0 0, .slice none 0 0, .slice none 0 0, .int .i64 0] 55)
  have B : Hid (Below w.heap.size w (w.alloc (.cells #[.slice none 0 0, .slice none 0 0, .slice none 0 0, .slice none 0 0, .int .i64 0] 55))) := (Below.refl _ _).alloc (Nat.le_refl _) _
  obtain ⟨y0, y1, y2, y3, y4⟩ := PB.out.five
  have x0 := (PB.out.cell 0 (by simp)).2
  have x1 := (PB.out.cell 1 (by simp)).2
  have x2 := (PB.out.cell 2 (by simp)).2
  have x3 := (PB.out.cell 3 (by simp)).2
  have x4 := (PB.out.cell 4 (by simp)).2
  unfold newOk at h
  obtain ⟨b1, h1⟩ : ∃ b, decide (1 ≤ (xs.length : Int) ∧ (xs.length : Int) ≤ 4) = b := ⟨_, rfl⟩
  obtain ⟨b2, h2⟩ : ∃ b, (xs.all fun x => decide (20 ≤ x ∧ x ≤ 100)) = b := ⟨_, rfl⟩
  rw [h1, h2] at h
  have E1 := hid h1
  have E2 := hid h2
  clear h1 h2
  go_enter Try.func47, Try.ntmps47
  go_wp2_with fail
  refine (l1In_eq (xs.length : Int) 1 4 b1 E1.out _).mono ?_
  rintro e w' ⟨rfl, hw⟩; obtain rfl := hw.symm
  cases b1
  · clear h
    go_wp2
    exact bodyPost_ret (v := .tuple #[.agg #[.slice none 0 0, .slice none 0 0, .slice none 0 0, .slice none 0 0, .int .i64 0], .bool false]) (by simp [results, Try.results47, go_sem, y0, y1, y2, y3, y4]) rfl ⟨_, rfl, noT_own _ _ _, B.out⟩
  · rw [Bool.true_and] at h
    subst h
    go_wp2_with fail
    refine (l1All7_eq _ xs 20 100 false E2.out _ (HR.out.below B.out)).mono ?_
    rintro e w' ⟨rfl, hw⟩; obtain rfl := hw.symm
    go_wp2
    exact bodyPost_ret (v := .tuple #[.agg #[.slice none 0 0, .slice none 0 0, .slice none 0 0, .slice none 0 0, .int .i64 0], .bool false]) (by simp [results, Try.results47, go_sem, y0, y1, y2, y3, y4]) rfl ⟨_, rfl, noT_own _ _ _, B.out⟩
end Go.Proofs.Ytepnhbicmlfnhac
