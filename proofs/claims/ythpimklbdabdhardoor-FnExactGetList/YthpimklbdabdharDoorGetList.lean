/-
  impl.GetList answers with a new list of the numbers of a text, or with none; nothing old is written.
-/
import Derived.Test.YthpimklbdabdharDoorListMath
import Derived.Test.YthpimklbdabdharDoorGet
import Derived.Test.YthpimklbdabdharDoorInts
namespace Go.Proofs.YthpimklbdabdharDoor
open Go.RowKit

set_option maxHeartbeats 1000000 in
theorem getList_any (s : ByteArray) (w : World) (hT : Tab w) (hs : s.size ≤ maxLen) (h600 : s.size ≤ 600) :
    Calls Tryd.prog 18 #[.string s] w fun e w' => ∃ v, e = .returned (.tuple #[v, .bool (listR s).isSome]) ∧ Own w.heap.size w' v ((listR s).getD []) ∧ Below w.heap.size w w' := by
  obtain ⟨i0, hi, hz0, hz1, hz2⟩ := info_parts info_int
  have hT0 := hT.lt
  have HT : Hid (Tab w) := hT
  clear hT
  go_enter Tryd.func18, Tryd.ntmps18
  go_wp2
  go_loopw [4, 5] (fun v i wr => ∃ (k : Nat) (acc : List Int) (a : Option Addr) (cap : Nat), v = .slice a acc.length cap ∧ i = .int .i64 k ∧ Sofar s k acc ∧ acc.length ≤ 60 ∧ wr.ownsRow w.heap.size 3 1 v acc.length (acc.map (Value.int .i64)) ∧ Below w.heap.size w wr)
    (fun _ i _ => s.size - (intOf i).toNat)
  case atStart => exact ⟨0, [], none, 0, rfl, rfl, Sofar.start s, by simp, World.ownsRow_nil _ _ _ _, Below.refl _ _⟩
  case round =>
    obtain ⟨k, acc, va, vc, rfl, rfl, hso, h60, hown, hbel⟩ := hrel
    have hal := hso.2.1
    have hks := hso.2.2
    have HS : Hid (Sofar s k acc) := hso
    have HT2 : Hid (Tab wr) := HT.out.below hbel hT0
    clear hso
    by_cases hlt : k < s.size
    · have hz8 : gsz s k ≤ 8 := by have := gsz_is s k; omega
      have hp := gsz_pos s k
      by_cases hG : GoodAt s k
      · have h62 : gnum s k ≤ 1152921504606846975 := hG.2.2.1
        have HG : Hid (GoodAt s k) := hG
        clear hG
        by_cases hfull : acc.length = 60
        · have hnone : Hid (listR s = none) := HS.out.full HG.out hfull
          have hbq : ((acc.length : Int) == 60) = true := by rw [beq_iff_eq]; omega
          clear hfull
          go_wp2_with (first
            | (go_at_call 10; refine (get_yes s k _ HT2.out hs HG.out).mono ?_; rintro e w' ⟨rfl, hw⟩; obtain rfl := hw.symm))
          go_ret2
          refine ⟨.slice none 0 0, ?_, ?_, hbel⟩
          · rw [hnone.out]; rfl
          · rw [hnone.out]; exact ⟨by simp, .inl ⟨rfl, rfl⟩⟩
        have hbq : ((acc.length : Int) == 60) = false := by rw [beq_eq_false_iff_ne]; omega
        go_wp2_with (first
          | (go_at_call 10; refine (get_yes s k _ HT2.out hs HG.out).mono ?_; rintro e w' ⟨rfl, hw⟩; obtain rfl := hw.symm)
          | (at_builtin; refine wpList_append_own _ rfl _ _ 28 rfl w.heap.size 3 i0 (.int .i64 0) 1 8 Tryd.underlying28 hi hz0 hz1 hz2 rfl (by decide) _ _ _ rfl (hown.alloc _) ⟨wr.heap.size, 0, none⟩ 1 1 [.int .i64 (gnum s k : Nat)] rfl rfl ?c1 ?c2 ?c3 ?c4 ?c5 ?_))
        case c1 =>
          intro j u hj
          match j, hj with
          | 0, hj => simp at hj; subst hj; simp [Addr.add]
        case c2 => intro u hu; simp at hu; subst hu; rfl
        case c3 => unfold maxLen; omega
        case c4 => omega
        case c5 => have := hbel.size; simp; omega
        intro v' w1 hown' hgrow _
        have R1 : Hid (Sofar s (k + gsz s k) (acc ++ [((gnum s k : Nat) : Int)])) := HS.out.step HG.out
        have hb1 : Hid (Below w.heap.size w w1) := (hbel.alloc hbel.size _).grown hgrow (by have := hbel.size; simp; omega) (fun g hg => (hown.lt g hg).1)
        have hown2 : Hid (w1.ownsRow w.heap.size 3 1 v' (acc ++ [((gnum s k : Nat) : Int)]).length ((acc ++ [((gnum s k : Nat) : Int)]).map (Value.int .i64))) := by
          show w1.ownsRow _ _ _ _ _ _
          simpa using hown'
        obtain ⟨a', cap', hv'⟩ : ∃ a cap, v' = .slice a (acc ++ [((gnum s k : Nat) : Int)]).length cap := by
          obtain ⟨a, cap, e, _⟩ := (Own.of_owns hown2.out (by simp; omega)).reads
          exact ⟨a, cap, e⟩
        have HV := hid hv'
        have hks2 := R1.out.2.2
        clear hown' hgrow hown hbel hv'
        go_wp2
        go_roundw
        case rel => exact ⟨k + gsz s k, acc ++ [((gnum s k : Nat) : Int)], a', cap', HV.out, by go_num, R1.out, by simp; omega, hown2.out, hb1.out⟩
        case measure => simp [intOf]; omega
      · have HG : Hid (¬ (0 ≤ (k : Int) ∧ GoodAt s (k : Int).toNat)) := fun h => hG (by simpa using h.2)
        have hnone : Hid (restL s 0 = none) := HS.out.bad hlt hG
        clear hG
        go_wp2_with (first
          | (go_at_call 10; refine (get_no s k _ HT2.out hs HG.out).mono ?_; rintro e w' ⟨rfl, hw⟩; obtain rfl := hw.symm))
        go_ret2
        have hl : listR s = none := by unfold listR; rw [hnone.out]; rfl
        refine ⟨.slice none 0 0, ?_, ?_, hbel⟩
        · rw [hl]; rfl
        · rw [hl]; exact ⟨by simp, .inl ⟨rfl, rfl⟩⟩
    · have hdone : Hid (restL s 0 = some acc) := HS.out.done hlt
      go_wp2
      go_ret2
      have hl : listR s = some acc := by unfold listR; rw [hdone.out]; simp [h60]
      refine ⟨.slice va acc.length vc, ?_, ?_, hbel⟩
      · rw [hl]; rfl
      · rw [hl]; exact Own.of_owns (xs := acc) hown (by omega)

theorem getList_long (s : ByteArray) (w : World) (h600 : (600 : Int) < (s.size : Int)) :
    Calls Tryd.prog 18 #[.string s] w fun e w' => e = .returned (.tuple #[.slice none 0 0, .bool false]) ∧ w' = w := by
  go_enter Tryd.func18, Tryd.ntmps18
  go_wp2
  go_ret2
  exact ⟨rfl, rfl⟩
end Go.Proofs.YthpimklbdabdharDoor
