/-
  impl.MeetSpans of good spans, in memory of its own; nothing old is written.
-/
import Derived.Test.YtobkockikpgcoaaDoorTellI
import Derived.Test.YtobkockikpgcoaaDoorMissing
import Derived.Test.YtobkockikpgcoaaDoorIGood
import Derived.Test.YtobkockikpgcoaaDoorSClone
import Derived.Test.YtobkockikpgcoaaDoorLenFacts
namespace Go.Proofs.YtobkockikpgcoaaDoor
open Go.RowKit
set_option maxRecDepth 100000

theorem sown_of_clone {w w' : World} {v : Value} {xs : List Sp} (h : (xs = [] ∧ ∃ a, v = .slice a 0 0) ∨ (xs ≠ [] ∧ w'.ownsRow w.heap.size 47 2 v xs.length (flat xs))) (hx : xs.length ≤ 1048576) : SOwn w.heap.size w' v xs := by
  rcases h with ⟨rfl, a, rfl⟩ | ⟨_, h⟩
  · exact sown_nil _ _ _
  · exact SOwn.of_owns h (by omega)
set_option maxHeartbeats 2000000 in
theorem imeet_good (va vb : Value) (xs ys : List Sp) (w : World) (ha : SReads w va xs) (hb : SReads w vb ys) (ga : goodL xs = true) (gb : goodL ys = true) :
    Calls Tryd.prog 33 #[va, vb] w fun e w' => ∃ v', e = .returned (.tuple #[v', .bool (tellB (meetL xs ys))]) ∧ SOwn w.heap.size w' v' (tellY (meetL xs ys)) ∧ Below w.heap.size w w' := by
  have HA := hid ha
  have HB := hid hb
  have CA := hid (good_chain ga)
  have CB := hid (good_chain gb)
  have la := good_len ga
  have lb := good_len gb
  clear ha hb
  go_enter Tryd.func33, Tryd.ntmps33
  go_wp2_with fail
  refine (igood_any va xs _ HA.out).mono ?_
  rintro e w1 ⟨rfl, b1⟩
  have B1 := hid b1
  clear b1
  rw [ga]
  go_wp2_with fail
  refine (igood_any _ ys _ (HB.out.below B1.out)).mono ?_
  rintro e w2 ⟨rfl, b2⟩
  have B2 : Hid (Below w.heap.size w w2) := B1.out.trans (b2.mono B1.out.size)
  clear b2 B1
  rw [gb]
  go_wp2_with fail
  refine (clone_any va xs w2 (HA.out.below B2.out) (by omega)).mono ?_
  rintro e w3 ⟨v3, rfl, b3, h3⟩
  have O3 := hid ((sown_of_clone h3 (by omega)).mono B2.out.size)
  have B3 : Hid (Below w.heap.size w w3) := B2.out.trans (b3.mono B2.out.size)
  clear b3 h3 B2
  go_wp2_with fail
  refine (missing_any vb ys 1000000 w3 (HB.out.below B3.out) CB.out (by omega) (by omega)).mono ?_
  rintro e w4 ⟨v4, rfl, o4, b4⟩
  have CM := hid (missL_chain (u := 1000000) CB.out (Int.le_refl _))
  have HE := hid (cut_meet CA.out CB.out)
  generalize missL ys 1000000 = ms at o4 CM HE
  have O3 := hid (O3.out.below b4)
  have B4 : Hid (Below w.heap.size w w4) := B3.out.trans (b4.mono B3.out.size)
  have O4 := hid o4.reads
  obtain ⟨am, cm, e, _, _⟩ := o4.reads
  clear b4 o4 B3
  subst e
  go_wp2
  go_loopw [6, 22] (fun o i wr => ∃ k : Nat, k ≤ ms.length ∧ i = .int .i64 k ∧ SOwn w.heap.size wr o (cutAll xs (ms.take k)) ∧ Below w.heap.size w wr ∧ Below w4.heap.size w4 wr) (fun _ i _ => ms.length - (intOf i).toNat)
  case atStart => exact ⟨0, Nat.zero_le _, rfl, O3.out, B4.out, Below.refl _ _⟩
  case round =>
    obtain ⟨k, hk, rfl, hown, hbel, hbel4⟩ := hrel
    have HO := hid hown
    have HL := hid hbel
    have HL4 := hid hbel4
    clear hown hbel hbel4
    by_cases hlt : k < ms.length
    · obtain ⟨ga, oa, cap', e, hca⟩ := sreads_cells (O4.out.below HL4.out) k hlt
      cases e
      have c1 := (hca k hlt).1
      have c2 := (hca k hlt).2
      have HX : Hid (cutL (cutAll xs (ms.take k)) ((ms.getD k (0, 0)).1, (ms.getD k (0, 0)).2) = cutAll xs (ms.take (k + 1))) := cutAll_take CA.out CM.out k hlt
      have hl' := chain_len' (cutAll_chain CA.out (chain_take CM.out k))
      clear hca
      generalize (ms.getD k (0, 0)).1 = p at c1 HX
      generalize (ms.getD k (0, 0)).2 = q at c2 HX
      go_wp2_with fail
      refine (without_any _ (cutAll xs (ms.take k)) p q _ (HO.out.below ?_).reads hl').mono ?_
      · go_grown
      rintro e w5 ⟨v5, rfl, o5, b5⟩
      rw [HX.out] at o5
      have O5 := hid (o5.mono (base' := w.heap.size) (by have := HL.out.size; simp; omega))
      have B5 : Hid (Below w.heap.size w w5) := (HL.out.alloc HL.out.size _).trans (b5.mono (by have := HL.out.size; simp; omega))
      have B54 : Hid (Below w4.heap.size w4 w5) := (HL4.out.alloc HL4.out.size _).trans (b5.mono (by have := HL4.out.size; simp; omega))
      clear o5 b5
      go_wp2
      go_roundw
      case rel => exact ⟨k + 1, by omega, by go_num, O5.out, B5.out, B54.out⟩
      case measure => simp [intOf]; omega
    · have HO' : Hid (SOwn w.heap.size wr u6 (meetL xs ys)) := by
        have := HO.out
        rw [List.take_of_length_le (by omega), HE.out] at this
        exact this
      go_wp2_with fail
      refine (itell_own _ _ _ _ HO'.out).mono ?_
      rintro e w' ⟨v6, rfl, o6, hw⟩; obtain rfl := hw.symm
      have O6 := hid o6
      clear o6
      go_wp2
      go_ret2
      exact ⟨_, rfl, O6.out, HL.out⟩

end Go.Proofs.YtobkockikpgcoaaDoor
