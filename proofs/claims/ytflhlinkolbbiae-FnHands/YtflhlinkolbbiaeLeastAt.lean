/-
  The first of the least, and a number that is added at a place: plain arithmetic, no program.
  (impl.choice).best: the first of the least cost, and that cost, the cost a hand's sum. Nothing old is written.
-/
import Derived.Test.YtflhlinkolbbiaeRows
import Derived.Test.YtflhlinkolbbiaeBoxL
import Derived.Test.YtflhlinkolbbiaeKIntRows
import Derived.OwnWalk
namespace Go.Proofs.Ytflhlinkolbbiae

/-- The first of the least among the first n. -/
def bestN (f : Nat → Nat) : Nat → Nat
  | 0 => 0
  | n + 1 => if f n < f (bestN f n) then n else bestN f n
theorem bestN_le (f : Nat → Nat) : ∀ n k, k < n → f (bestN f n) ≤ f k
  | 0, _, h => absurd h (Nat.not_lt_zero _)
  | n + 1, k, h => by
    unfold bestN
    by_cases hk : k = n
    · subst hk; split <;> omega
    · have := bestN_le f n k (by omega)
      split <;> omega
theorem bestN_lt (f : Nat → Nat) : ∀ n, 0 < n → bestN f n < n
  | 0, h => absurd h (Nat.lt_irrefl _)
  | n + 1, _ => by
    unfold bestN
    by_cases hn : n = 0
    · subst hn; simp [bestN]
    · have := bestN_lt f n (by omega)
      split <;> omega
theorem bestN_congr {f f' : Nat → Nat} : ∀ {n}, (∀ k, k < n → f k = f' k) → bestN f n = bestN f' n
  | 0, _ => rfl
  | n + 1, h => by
    unfold bestN
    have ih := bestN_congr (n := n) fun k hk => h k (by omega)
    by_cases hn : n = 0
    · subst hn; simp [bestN]
    · have := bestN_lt f' n (by omega)
      rw [ih, h n (by omega), h _ (by omega : bestN f' n < n + 1)]
theorem bestN_one (f : Nat → Nat) : bestN f 1 = 0 := by simp [bestN]

def addAt (s : List Nat) (h p : Nat) : List Nat := s.set h (s.getD h 0 + p)
theorem addAt_len (s : List Nat) (h p : Nat) : (addAt s h p).length = s.length := by simp [addAt]
theorem getD_setH (s : List Nat) (h x j : Nat) : (s.set h x).getD j 0 = if j = h ∧ h < s.length then x else s.getD j 0 := by
  simp only [List.getD_eq_getElem?_getD, List.getElem?_set]
  by_cases e : h = j
  · subst e
    by_cases hl : h < s.length
    · simp [hl]
    · simp [hl]
  · rw [if_neg e, if_neg (by omega)]
theorem addAt_getD (s : List Nat) {h : Nat} (p j : Nat) (hh : h < s.length) : (addAt s h p).getD j 0 = s.getD j 0 + if h = j then p else 0 := by
  unfold addAt
  rw [getD_setH]
  by_cases e : j = h
  · subst e; simp [hh]
  · rw [if_neg (by omega), if_neg (by omega)]; rfl
theorem repl_getD (H h : Nat) : (List.replicate H 0).getD h 0 = 0 := by
  simp only [List.getD_eq_getElem?_getD, List.getElem?_replicate]
  split <;> rfl
theorem addAt_cons (x : Nat) (s : List Nat) (h p : Nat) : addAt (x :: s) (h + 1) p = x :: addAt s h p := by simp [addAt]
theorem sum_addAt : ∀ (s : List Nat) h p, h < s.length → (addAt s h p).sum = s.sum + p
  | [], _, _, h => by simp at h
  | x :: s, 0, p, _ => by simp [addAt]; omega
  | x :: s, h + 1, p, hh => by rw [addAt_cons, List.sum_cons, List.sum_cons, sum_addAt s h p (by simpa using hh)]; omega

end Go.Proofs.Ytflhlinkolbbiae
namespace Go.Proofs.Ytflhlinkolbbiae
open Go.RowKit

/-- What a closure tells of the first m, in every world to come. -/
def CostG (W0 : World) (c1 : Value) (f : Nat → Nat) (m : Nat) : Prop := ∀ w, Below W0.heap.size W0 w → ∀ k, k < m →
  Calls Try.prog 110 #[.int .i64 (k : Nat), c1] w fun e w' => e = .returned (.int .i64 (f k : Nat)) ∧ Below w.heap.size w w'
set_option maxRecDepth 100000 in
set_option maxHeartbeats 8000000 in
theorem ibestG_any (c1 : Value) (f : Nat → Nat) (m : Nat) (hm : 0 < m) (hm2 : m ≤ 1000) (w : World) (hc : CostG w c1 f m) :
    Calls Try.prog 93 #[.agg #[.int .i64 (m : Nat), .func (.func 110) #[] #[c1]]] w fun e w' => e = .returned (.tuple #[.int .i64 (bestN f m : Nat), .int .i64 (f (bestN f m) : Nat)]) ∧ Below w.heap.size w w' := by
  have HC := hid hc
  have HM := hid hm
  have HM2 := hid hm2
  clear hc
  have PB := hid (boxL_new w [.int .i64 (m : Nat), .func (.func 110) #[] #[c1]] 110)
  obtain ⟨q0, q1⟩ := PB.out.two
  have B1 : Hid (Below w.heap.size w (w.alloc (.cells #[.int .i64 (m : Nat), .func (.func 110) #[] #[c1]] 110))) := (Below.refl _ _).alloc (Nat.le_refl _) _
  go_enter Try.func93, Try.ntmps93
  go_wp2_with fail
  refine (HC.out _ B1.out 0 HM.out).mono ?_
  rintro e w1 ⟨rfl, hb⟩
  have P1 := hid (PB.out.below hb (by simp))
  have B2 : Hid (Below w.heap.size w w1) := B1.out.trans (hb.mono (by simp))
  clear q0 q1 PB B1 hb
  have HF0 : Hid (f 0 = f (bestN f 1)) := by show _ = _; rw [bestN_one]
  have HF1 := hid (bestN_one f)
  go_wp2
  go_loopw [4, 5, 6] (fun b c i wr => ∃ k : Nat, 1 ≤ k ∧ k ≤ m ∧ i = .int .i64 k ∧ b = .int .i64 (bestN f k : Nat) ∧ c = .int .i64 (f (bestN f k) : Nat) ∧ BoxL wr w.heap.size [.int .i64 (m : Nat), .func (.func 110) #[] #[c1]] ∧ Below w.heap.size w wr) (fun _ _ i _ => m - (intOf i).toNat)
  case atStart => exact ⟨1, Nat.le_refl _, HM.out, rfl, by rw [HF1.out]; rfl, by rw [HF0.out], P1.out, B2.out⟩
  case round =>
    obtain ⟨k, h1, hk, rfl, rfl, rfl, hbox, hbel⟩ := hrel
    have HP := hid hbox
    have HB := hid hbel
    clear hbox hbel P1 B2
    obtain ⟨q0, q1⟩ := HP.out.two
    have hm2 := HM2.out
    by_cases hlt : k < m
    · have d0 : decide ((k : Int) < (m : Int)) = true := by simpa using hlt
      go_wp2_with fail
      refine (HC.out _ HB.out k hlt).mono ?_
      rintro e w2 ⟨rfl, hb⟩
      have P2 := hid (HP.out.below hb (by have := HP.out.lt; exact this))
      have B3 : Hid (Below w.heap.size w w2) := HB.out.trans (hb.mono HB.out.size)
      clear q0 q1 HP HB hb
      have hs : bestN f (k + 1) = if f k < f (bestN f k) then k else bestN f k := rfl
      have HS := hid hs
      clear hs
      obtain ⟨x, hx⟩ : ∃ x, x = f k := ⟨_, rfl⟩
      obtain ⟨y, hy⟩ : ∃ y, y = f (bestN f k) := ⟨_, rfl⟩
      rw [← hx, ← hy] at HS ⊢
      have HX := hid hx
      have HY := hid hy
      clear hx hy
      by_cases hcc : x < y
      · have d1 : decide ((x : Int) < (y : Int)) = true := by simpa using hcc
        have HN : Hid (bestN f (k + 1) = k) := by show _ = _; rw [HS.out, if_pos hcc]
        go_wp2
        go_roundw
        case rel => exact ⟨k + 1, by omega, by omega, by go_num, by rw [HN.out], by rw [HN.out, ← HX.out], P2.out, B3.out⟩
        case measure => simp [intOf]; omega
      · have d1 : decide ((x : Int) < (y : Int)) = false := by simpa using hcc
        have HN : Hid (bestN f (k + 1) = bestN f k) := by show _ = _; rw [HS.out, if_neg hcc]
        go_wp2
        go_roundw
        case rel => exact ⟨k + 1, by omega, by omega, by go_num, by rw [HN.out], by rw [HN.out, ← HY.out], P2.out, B3.out⟩
        case measure => simp [intOf]; omega
    · have d0 : decide ((k : Int) < (m : Int)) = false := by simpa using hlt
      obtain rfl : k = m := by omega
      go_wp2
      go_ret2
      exact ⟨rfl, HB.out⟩
end Go.Proofs.Ytflhlinkolbbiae
