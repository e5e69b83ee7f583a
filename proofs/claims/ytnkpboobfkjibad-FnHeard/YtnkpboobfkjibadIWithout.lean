/-
  (set).without: those of a set that are not in another. Nothing old is written.
  impl.openBelow: letters below many that are in neither set. Nothing old is written.
  Letters neither heard of nor lost: rising, and which they are. Plain arithmetic.
-/
import Derived.Test.YtnkpboobfkjibadIPutS
import Derived.Test.YtnkpboobfkjibadISet
import Derived.Test.YtnkpboobfkjibadKOne
import Derived.Test.YtnkpboobfkjibadBut5
import Derived.Test.YtnkpboobfkjibadFlowFns
namespace Go.Proofs.Ytnkpboobfkjibad
open Go.RowKit

set_option maxRecDepth 100000 in
set_option maxHeartbeats 4000000 in
theorem iwithout_any (b c n m : Nat) (f g : Int → Bool) (w : World) (hm : MSet w b n f) (ho : MSet w c m g) (hn : n ≤ 100000) :
    Calls Try.prog 118 #[.map (some b), .map (some c)] w fun e w' => e = .returned (.map (some w.heap.size)) ∧ MSet w' w.heap.size n (fun x => f x && !g x) ∧ Below w.heap.size w w' := by
  have hbl := hm.lt
  have HO := hid ho
  obtain ⟨D, hD, hf⟩ := hm
  have hsz := hD.size_le
  have HD := hid hD
  have HF := hid hf
  have hmm := @run_makeMap Try.prog
  have e1 : (w.alloc (.map #[] 0)).heap.size = w.heap.size + 1 := by simp
  have HB : Hid (Below w.heap.size w (w.alloc (.map #[] 0))) := (Below.refl _ _).alloc (Nat.le_refl _) _
  have HM := hid (MSet.made w)
  have E1 := hid e1
  clear hD hf ho e1
  go_enter Try.func118, Try.ntmps118
  go_wp2_with (at_range; refine wpList_range_own _ rfl _ 120 rfl 3 157 setLaw Try.underlying120 _ b n _ rfl (HD.out.alloc _) ?_; intro w0 hrg0 hg0 hs0)
  go_frame
  rw [E1.out] at hrg0 hs0 ⊢
  go_loopw [10] (fun _ wr => ∃ (left : Lit → Bool) (cnt : Nat) (h : Int → Bool), wr.ranges Try.prog 3 uE b (w.heap.size + 1) n D left cnt ∧ cnt ≤ n ∧
      MSet wr w.heap.size (n - cnt) h ∧ (∀ x, h x = (f x && !left (.int .i64 x) && !g x)) ∧ Below w.heap.size w wr)
    (fun _ wr => wr.rangeLeft b (w.heap.size + 1))
  case atStart =>
    refine ⟨_, _, _, hrg0, hsz, ((HM.out.of_block (hg0.block _ (by rw [E1.out]; omega) (by simp))).mono (Nat.zero_le _)), fun x => ?_, HB.out.grown hg0 HB.out.size (fun j hj => by cases hj)⟩
    rw [HF.out]
    cases f x <;> rfl
  case round =>
    obtain ⟨left, cnt, h, hrg, hcs, hs, hh, hb⟩ := hrel
    have HS := hid hs
    have HH := hid hh
    have HBW := hid hb
    have hsz1 := hb.size
    clear hs hh hb
    go_wp2_with (at_next; refine wpList_next_ranges _ rfl _ rfl 3 setLaw uE (Value.int .i64) (fun _ : Unit => Value.agg #[]) (fun key kl hk => by obtain ⟨x, rfl, _⟩ := Maps.keyOf_int_inv Try.underlying3 hk; exact ⟨x, rfl⟩) (fun v y hv => ⟨(), (unitElem_inv hv).1⟩) b (w.heap.size + 1) n _ _ _ rfl hrg ?_ ?_)
    · intro hc0 hl0
      have HE : Hid (MSet wr w.heap.size n (fun x => f x && !g x)) := (HS.out.mono (by omega)).congr (fun x => by rw [HH.out, hl0]; simp)
      clear hl0
      go_wp2
      go_ret
      exact ⟨rfl, HE.out, HBW.out⟩
    · intro x kl yd yp w1 cnt1 hkey hlk hv hat hrg1 hlt hg1 hs1 hen
      obtain ⟨x', ex, rfl, hwx⟩ := Maps.keyOf_int_inv Try.underlying3 hkey
      cases ex
      have HFX : Hid (f x = true) := by show _ = _; rw [← HF.out]; exact Maps.has_true_of_atKey hat
      have HL : Hid (∀ y : Int, (left (.int .i64 y) && !(Lit.int .i64 y).sameKey (.int .i64 x)) = (left (.int .i64 y) && !(x == y))) := fun y => by
        by_cases e : y = x
        · subst e; rw [same_self]; simp
        · rw [same_other e]; simp [Ne.symm e]
      have HRG := hid hrg1
      have HWX := hid hwx
      have HS1 : Hid (MSet w1 w.heap.size (n - cnt) h) := HS.out.grown hg1 (by omega)
      have HB1 : Hid (Below w.heap.size w w1) := HBW.out.grown hg1 hsz1 (fun j hj => by cases hj; omega)
      have hsz2 := HB1.out.size
      have HO1 : Hid (MSet w1 c m g) := HO.out.below HB1.out
      have HLE : Hid (w1.rangeLeft b (w.heap.size + 1) = cnt1) := hrg1.left_eq
      have HLE0 : Hid (wr.rangeLeft b (w.heap.size + 1) = cnt) := hrg.left_eq
      have HLT := hid hlt
      have HS0 := hid hs1
      clear hkey hlk hv hat hrg1 hrg hg1 hs1 HS HO hlt
      obtain ⟨q, hq⟩ : ∃ q, g x = q := ⟨_, rfl⟩
      have HQ := hid hq
      clear hq
      go_wp2_with fail
      refine (ihass_eq c m g x q HQ.out _ HO1.out HWX.out).mono ?_
      rintro e w2 ⟨rfl, b2⟩
      have HS2 : Hid (MSet w2 w.heap.size (n - cnt) h) := HS1.out.below b2
      have HRG2 : Hid (w2.ranges Try.prog 3 uE b (w.heap.size + 1) n D (fun z => left z && !z.sameKey (.int .i64 x)) cnt1) := HRG.out.kept (row := none) ⟨b2.os, b2.tape, b2.output, b2.size, fun i hi _ => b2.block i hi⟩ (by simp) (by simp)
      have HB2 : Hid (Below w.heap.size w w2) := HB1.out.trans (b2.mono hsz2)
      have hsz3 := HB2.out.size
      clear b2 HS1 HRG hen
      have hle := HLT.out
      cases q
      · go_wp2_with fail
        have HB3 : Hid (Below w.heap.size w (w2.alloc (.cells #[.int .i64 x] 3))) := HB2.out.alloc hsz3 _
        have HS3 : Hid (MSet (w2.alloc (.cells #[.int .i64 x] 3)) w.heap.size (n - cnt) h) := HS2.out.below ((Below.refl _ _).alloc (Nat.le_refl _) _)
        refine (iputs_any w.heap.size (n - cnt) h _ [x] _ HS3.out (kreads_int _ _) (fun y hy => by rw [List.mem_singleton] at hy; rw [hy]; exact HWX.out) (by simp; omega)).mono ?_
        rintro e w4 ⟨rfl, hm4, hg4⟩
        have HM4 := hid hm4
        have HG4 := hid hg4
        have HRG4 : Hid (w4.ranges Try.prog 3 uE b (w.heap.size + 1) n D (fun z => left z && !z.sameKey (.int .i64 x)) cnt1) := (HRG2.out.alloc _).kept hg4 (by simp; omega) (by simp)
        clear hm4 hg4
        go_wp2
        go_roundw
        case rel =>
          refine ⟨_, cnt1, _, HRG4.out, by omega, HM4.out.mono (by simp; omega), fun y => ?_, below_put HB3.out HG4.out (Nat.le_refl _)⟩
          show (h y || [x].contains y) = (f y && !(left (.int .i64 y) && !(Lit.int .i64 y).sameKey (.int .i64 x)) && !g y)
          rw [HL.out, HH.out]
          by_cases e : x = y
          · subst e; rw [HFX.out, HQ.out]; simp
          · rw [show [x].contains y = false by simp [Ne.symm e], show (x == y) = false by simpa using e]; simp
        case measure => rw [HRG4.out.left_eq, HLE0.out]; exact HLT.out
      · go_wp2
        go_roundw
        case rel =>
          refine ⟨_, cnt1, _, HRG2.out, by omega, HS2.out.mono (by omega), fun y => ?_, HB2.out⟩
          show h y = (f y && !(left (.int .i64 y) && !(Lit.int .i64 y).sameKey (.int .i64 x)) && !g y)
          rw [HL.out, HH.out]
          by_cases e : x = y
          · subst e; rw [HQ.out]; simp
          · rw [show (x == y) = false by simpa using e]; simp
        case measure => rw [HRG2.out.left_eq, HLE0.out]; exact HLT.out
end Go.Proofs.Ytnkpboobfkjibad
namespace Go.Proofs.Ytnkpboobfkjibad
open Go.RowKit

/-- From nought on, below n. -/
def upTo (n : Nat) (x : Int) : Bool := decide (0 ≤ x ∧ x < (n : Int))
theorem range_has (n : Nat) (x : Int) : (fromN n).contains x = upTo n x := by
  unfold upTo fromN
  rw [List.contains_eq_mem, decide_eq_decide, List.mem_map]
  constructor
  · rintro ⟨i, hi, rfl⟩
    rw [List.mem_range] at hi
    omega
  · intro h
    exact ⟨x.toNat, by rw [List.mem_range]; omega, by omega⟩
set_option maxRecDepth 100000 in
set_option maxHeartbeats 4000000 in
theorem iopenB_any (n : Nat) (b c m k : Nat) (f g : Int → Bool) (w : World) (hn : n ≤ 60) (hf : MSet w b m f) (hg : MSet w c k g) :
    Calls Try.prog 120 #[.int .i64 (n : Nat), .map (some b), .map (some c)] w fun e w' => ∃ d, e = .returned (.map (some d)) ∧ MSet w' d n (fun x => upTo n x && !f x && !g x) ∧ w.heap.size ≤ d ∧ Below w.heap.size w w' := by
  have HF := hid hf
  have HG := hid hg
  clear hf hg
  go_enter Try.func120, Try.ntmps120
  go_wp2_with fail
  refine (inums11_any n _ (by omega)).mono ?_
  rintro e w1 ⟨rfl, r1, s1, b1⟩
  have HR1 := hid (r1.reads (by omega))
  have HB1 := hid b1
  clear r1 s1 b1
  go_wp2_with fail
  refine (isetof_any _ _ _ HR1.out (fun x hx => by unfold fromN at hx; obtain ⟨i, hi, rfl⟩ := List.mem_map.1 hx; rw [List.mem_range] at hi; exact inW_small (by omega) (by omega)) (by simp [fromN]; omega)).mono ?_
  rintro e w2 ⟨rfl, m2, b2⟩
  have HM2 : Hid (MSet w2 w1.heap.size n (fun x => upTo n x)) := (m2.mono (by simp [fromN])).congr (fun x => range_has n x)
  have HB2 := hid (HB1.out.trans (b2.mono HB1.out.size))
  clear m2 b2 HR1
  go_wp2_with fail
  refine (iwithout_any _ b _ _ _ _ _ HM2.out (HF.out.below HB2.out) (by omega)).mono ?_
  rintro e w3 ⟨rfl, m3, b3⟩
  have HM3 := hid m3
  have HB3 := hid (HB2.out.trans (b3.mono HB2.out.size))
  clear m3 b3 HM2
  go_wp2_with fail
  refine (iwithout_any _ c _ _ _ _ _ HM3.out (HG.out.below HB3.out) (by omega)).mono ?_
  rintro e w4 ⟨rfl, m4, b4⟩
  have HM4 := hid m4
  have HB4 := hid (HB3.out.trans (b4.mono HB3.out.size))
  have hs3 := HB3.out.size
  clear m4 b4 HM3
  go_wp2
  go_ret
  exact ⟨_, rfl, HM4.out, hs3, HB4.out⟩
end Go.Proofs.Ytnkpboobfkjibad
namespace Go.Proofs.Ytnkpboobfkjibad

theorem openU_mem (h : List Sp) (l : List Int) : ∀ n x, x ∈ openU h l n ↔ (upTo n x && !hasL h x && !l.contains x) = true
  | 0, x => by
    constructor
    · intro hx; cases hx
    · intro hx
      simp only [Bool.and_eq_true, upTo, decide_eq_true_eq] at hx
      omega
  | n + 1, x => by
    have ih := openU_mem h l n x
    show x ∈ openU h l n ++ _ ↔ _
    rw [List.mem_append, ih]
    simp only [upTo, Bool.and_eq_true, decide_eq_true_eq, Bool.not_eq_true']
    by_cases e : x = (n : Int)
    · subst e
      cases h1 : hasL h (n : Int) <;> cases h2 : l.contains (n : Int) <;> simp <;> omega
    · have hne : ¬ x ∈ (bif hasL h (n : Int) || l.contains (n : Int) then [] else [(n : Int)]) := by
        cases hasL h (n : Int) || l.contains (n : Int)
        · simpa using e
        · simp
      constructor
      · rintro (hx | hx)
        · exact ⟨⟨by omega, hx.1.2⟩, hx.2⟩
        · exact absurd hx hne
      · rintro ⟨⟨h1, h2⟩, h3⟩
        exact .inl ⟨⟨by omega, h2⟩, h3⟩
theorem openU_rising (h : List Sp) (l : List Int) : ∀ n, (openU h l n).Pairwise (· < ·)
  | 0 => List.Pairwise.nil
  | n + 1 => by
    show (openU h l n ++ _).Pairwise _
    rw [List.pairwise_append]
    refine ⟨openU_rising h l n, ?_, fun a ha b hb => ?_⟩
    · cases hasL h (n : Int) || l.contains (n : Int) <;> simp
    · have h1 := (openU_mem h l n a).1 ha
      simp only [upTo, Bool.and_eq_true, decide_eq_true_eq] at h1
      have h2 : b = (n : Int) := by
        revert hb
        cases hasL h (n : Int) || l.contains (n : Int)
        · intro hb; simpa using hb
        · intro hb; simp at hb
      omega
end Go.Proofs.Ytnkpboobfkjibad
