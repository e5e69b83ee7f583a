/-
  (impl.choice).best: the first of the least cost, and that cost, the cost an arrival. Nothing old is written.
-/
import Derived.Test.YtflhlinkolbbiaeLeastAt
import Derived.Test.YtflhlinkolbbiaeBoxL
import Derived.Test.YtflhlinkolbbiaeKIntRows
import Derived.OwnWalk
namespace Go.Proofs.Ytflhlinkolbbiae
open Go.RowKit

/-- What a closure tells of the first m, in every world to come. -/
def CostA (W0 : World) (c1 c2 : Value) (f : Nat → Nat) (m : Nat) : Prop := ∀ w, Below W0.heap.size W0 w → ∀ k, k < m →
  Calls Try.prog 91 #[.int .i64 (k : Nat), c1, c2] w fun e w' => e = .returned (.int .i64 (f k : Nat)) ∧ Below w.heap.size w w'
set_option maxRecDepth 100000 in
set_option maxHeartbeats 8000000 in
theorem ibestA_any (c1 c2 : Value) (f : Nat → Nat) (m : Nat) (hm : 0 < m) (hm2 : m ≤ 1000) (w : World) (hc : CostA w c1 c2 f m) :
    Calls Try.prog 93 #[.agg #[.int .i64 (m : Nat), .func (.func 91) #[] #[c1, c2]]] w fun e w' => e = .returned (.tuple #[.int .i64 (bestN f m : Nat), .int .i64 (f (bestN f m) : Nat)]) ∧ Below w.heap.size w w' := by
  have HC := hid hc
  have HM := hid hm
  have HM2 := hid hm2
  clear hc
  have PB := hid (boxL_new w [.int .i64 (m : Nat), .func (.func 91) #[] #[c1, c2]] 110)
  obtain ⟨q0, q1⟩ := PB.out.two
  have B1 : Hid (Below w.heap.size w (w.alloc (.cells #[.int .i64 (m : Nat), .func (.func 91) #[] #[c1, c2]] 110))) := (Below.refl _ _).alloc (Nat.le_refl _) _
  go_enter Try.func93, Try.ntmps93
  go_wp2_with fail
  refine (HC.out _ B1.out 0 HM.out).mono ?_
  rintro e w1 ⟨rfl, hb⟩
  have P1 := hid (PB.out.below hb (by simp))
  have B2 : Hid (Below w.heap.size w w1) := B1.out.trans (hb.mono (by simp))
  clear q0 q1 PB B1 hb
  have HF0 : Hid (f 0 = f (bestN f 1)) := by show _ = _; rw [bestN_one]
  have HF1 := hid (bestN_one f)
  go_wp2
  go_loopw [4, 5, 6] (fun b c i wr => ∃ k : Nat, 1 ≤ k ∧ k ≤ m ∧ i = .int .i64 k ∧ b = .int .i64 (bestN f k : Nat) ∧ c = .int .i64 (f (bestN f k) : Nat) ∧ BoxL wr w.heap.size [.int .i64 (m : Nat), .func (.func 91) #[] #[c1, c2]] ∧ Below w.heap.size w wr) (fun _ _ i _ => m - (intOf i).toNat)
  case atStart => exact ⟨1, Nat.le_refl _, HM.out, rfl, by rw [HF1.out]; rfl, by rw [HF0.out], P1.out, B2.out⟩
  case round =>
    obtain ⟨k, h1, hk, rfl, rfl, rfl, hbox, hbel⟩ := hrel
    have HP := hid hbox
    have HB := hid hbel
    clear hbox hbel P1 B2
    obtain ⟨q0, q1⟩ := HP.out.two
    have hm2 := HM2.out
    by_cases hlt : k < m
    · have d0 : decide ((k : Int) < (m : Int)) = true := by simpa using hlt
      go_wp2_with fail
      refine (HC.out _ HB.out k hlt).mono ?_
      rintro e w2 ⟨rfl, hb⟩
      have P2 := hid (HP.out.below hb (by have := HP.out.lt; exact this))
      have B3 : Hid (Below w.heap.size w w2) := HB.out.trans (hb.mono HB.out.size)
      clear q0 q1 HP HB hb
      have hs : bestN f (k + 1) = if f k < f (bestN f k) then k else bestN f k := rfl
      have HS := hid hs
      clear hs
      obtain ⟨x, hx⟩ : ∃ x, x = f k := ⟨_, rfl⟩
      obtain ⟨y, hy⟩ : ∃ y, y = f (bestN f k) := ⟨_, rfl⟩
      rw [← hx, ← hy] at HS ⊢
      have HX := hid hx
      have HY := hid hy
      clear hx hy
      by_cases hcc : x < y
      · have d1 : decide ((x : Int) < (y : Int)) = true := by simpa using hcc
        have HN : Hid (bestN f (k + 1) = k) := by show _ = _; rw [HS.out, if_pos hcc]
        go_wp2
        go_roundw
        case rel => exact ⟨k + 1, by omega, by omega, by go_num, by rw [HN.out], by rw [HN.out, ← HX.out], P2.out, B3.out⟩
        case measure => simp [intOf]; omega
      · have d1 : decide ((x : Int) < (y : Int)) = false := by simpa using hcc
        have HN : Hid (bestN f (k + 1) = bestN f k) := by show _ = _; rw [HS.out, if_neg hcc]
        go_wp2
        go_roundw
        case rel => exact ⟨k + 1, by omega, by omega, by go_num, by rw [HN.out], by rw [HN.out, ← HY.out], P2.out, B3.out⟩
        case measure => simp [intOf]; omega
    · have d0 : decide ((k : Int) < (m : Int)) = false := by simpa using hlt
      obtain rfl : k = m := by omega
      go_wp2
      go_ret2
      exact ⟨rfl, HB.out⟩
end Go.Proofs.Ytflhlinkolbbiae
