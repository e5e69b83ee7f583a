/-
  spec.l1List and spec.GetList answer with a new list of the numbers of a text, or with none; nothing old is written.
-/
import Derived.Test.YthpimklbdabdharDoorListMath
import Derived.Test.YthpimklbdabdharDoorSGet
import Derived.Test.YthpimklbdabdharDoorInts
namespace Go.Proofs.YthpimklbdabdharDoor
open Go.RowKit

set_option maxHeartbeats 1000000 in
theorem l1List_any (s : ByteArray) (w : World) (hs : s.size ≤ maxLen) (h600 : s.size ≤ 1048576) :
    Calls Tryd.prog 36 #[.string s] w fun e w' => ∃ v, e = .returned (.tuple #[v, .bool (restL s 0).isSome]) ∧ Own w.heap.size w' v ((restL s 0).getD []) ∧ Below w.heap.size w w' := by
  obtain ⟨i0, hi, hz0, hz1, hz2⟩ := info_parts info_int
  go_enter Tryd.func36, Tryd.ntmps36
  go_wp2
  go_loopw [4, 5] (fun v i wr => ∃ (k : Nat) (acc : List Int), i = .int .i64 k ∧ Sofar s k acc ∧ wr.ownsRow w.heap.size 3 1 v acc.length (acc.map (Value.int .i64)) ∧ Below w.heap.size w wr)
    (fun _ i _ => s.size - (intOf i).toNat)
  case atStart => exact ⟨0, [], rfl, Sofar.start s, World.ownsRow_nil _ _ _ _, Below.refl _ _⟩
  case round =>
    obtain ⟨k, acc, rfl, hso, hown, hbel⟩ := hrel
    have hal := hso.2.1
    have hks := hso.2.2
    have HS : Hid (Sofar s k acc) := hso
    clear hso
    by_cases hlt : k < s.size
    · have hz8 : gsz s k ≤ 8 := by have := gsz_is s k; omega
      have hp := gsz_pos s k
      by_cases hG : GoodAt s k
      · have h62 : gnum s k ≤ 1152921504606846975 := hG.2.2.1
        have HG : Hid (GoodAt s k) := hG
        clear hG
        go_wp2_with (first
          | (go_at_call 25; refine (l1Get_yes s k _ hs HG.out).mono ?_; rintro e w' ⟨rfl, hw⟩; obtain rfl := hw.symm)
          | (at_builtin; refine wpList_append_own _ rfl _ _ 28 rfl w.heap.size 3 i0 (.int .i64 0) 1 8 Tryd.underlying28 hi hz0 hz1 hz2 rfl (by decide) _ _ _ rfl (hown.alloc _) ⟨wr.heap.size, 0, none⟩ 1 1 [.int .i64 (gnum s k : Nat)] rfl rfl ?c1 ?c2 ?c3 ?c4 ?c5 ?_))
        case c1 =>
          intro j u hj
          match j, hj with
          | 0, hj => simp at hj; subst hj; simp [Addr.add]
        case c2 => intro u hu; simp at hu; subst hu; rfl
        case c3 => unfold maxLen; omega
        case c4 => omega
        case c5 => have := hbel.size; simp; omega
        intro v' w1 hown' hgrow _
        have R1 : Hid (Sofar s (k + gsz s k) (acc ++ [((gnum s k : Nat) : Int)])) := HS.out.step HG.out
        have hb1 : Hid (Below w.heap.size w w1) := (hbel.alloc hbel.size _).grown hgrow (by have := hbel.size; simp; omega) (fun g hg => (hown.lt g hg).1)
        have hown2 : Hid (w1.ownsRow w.heap.size 3 1 v' (acc ++ [((gnum s k : Nat) : Int)]).length ((acc ++ [((gnum s k : Nat) : Int)]).map (Value.int .i64))) := by
          show w1.ownsRow _ _ _ _ _ _
          simpa using hown'
        have hks2 := R1.out.2.2
        clear hown' hgrow hown hbel
        go_wp2
        go_roundw
        case rel => exact ⟨k + gsz s k, acc ++ [((gnum s k : Nat) : Int)], by go_num, R1.out, hown2.out, hb1.out⟩
        case measure => simp [intOf]; omega
      · have HG : Hid (¬ GoodAt s k) := hG
        clear hG
        have hnone : Hid (restL s 0 = none) := HS.out.bad hlt HG.out
        go_wp2_with (first
          | (go_at_call 25; refine (l1Get_no s k _ hs hlt HG.out).mono ?_; rintro e w' ⟨rfl, hw⟩; obtain rfl := hw.symm))
        go_ret2
        refine ⟨.slice none 0 0, ?_, ?_, hbel⟩
        · rw [hnone.out]; rfl
        · rw [hnone.out]; exact ⟨by simp, .inl ⟨rfl, rfl⟩⟩
    · have hdone : Hid (restL s 0 = some acc) := HS.out.done hlt
      go_wp2
      go_ret2
      refine ⟨u4, ?_, ?_, hbel⟩
      · rw [hdone.out]; rfl
      · rw [hdone.out]; exact Own.of_owns (xs := acc) hown (by omega)

set_option maxHeartbeats 1000000 in
theorem sgetList_any (s : ByteArray) (w : World) (hs : s.size ≤ maxLen) (h600 : s.size ≤ 600) :
    Calls Tryd.prog 17 #[.string s] w fun e w' => ∃ v, e = .returned (.tuple #[v, .bool (listR s).isSome]) ∧ Own w.heap.size w' v ((listR s).getD []) ∧ Below w.heap.size w w' := by
  have HR : Hid (∀ o : Option (List Int), restL s 0 = o → listR s = o.bind fun l => if l.length ≤ 60 then some l else none) := fun o h => by unfold listR; rw [h]
  cases hr : restL s 0 with
  | none =>
    have hl : listR s = none := HR.out none hr
    rw [hl]
    have h1 : Hid (∀ w, Calls Tryd.prog 36 #[.string s] w fun e w' => ∃ v, e = .returned (.tuple #[v, .bool false]) ∧ Own w.heap.size w' v [] ∧ Below w.heap.size w w') := fun w => by
      have := l1List_any s w hs (by omega); rw [hr] at this; exact this
    clear hl hr
    go_enter Tryd.func17, Tryd.ntmps17
    go_wp2_with (go_at_call 36; refine (h1.out _).mono ?_; rintro e w1 ⟨v, rfl, hown, hb⟩)
    go_ret2
    exact ⟨.slice none 0 0, rfl, ⟨by simp, .inl ⟨rfl, rfl⟩⟩, hb⟩
  | some l =>
    have hll : l.length ≤ 600 := by
      have : ∀ k (l : List Int), restL s k = some l → k ≤ s.size → l.length + k ≤ s.size := by
        intro k
        induction hn : s.size - k using Nat.strongRecOn generalizing k with
        | _ n ih =>
          intro l hl hk
          by_cases hlt : k < s.size
          · by_cases hG : GoodAt s k
            · rw [restL_good s k hG] at hl
              have hp := gsz_pos s k
              cases hq : restL s (k + gsz s k) with
              | none => rw [hq] at hl; cases hl
              | some l' =>
                rw [hq] at hl
                simp at hl
                subst hl
                have h3 := hG.2.1
                have := ih (s.size - (k + gsz s k)) (by omega) (k + gsz s k) rfl l' hq (by omega)
                simp; omega
            · rw [restL_bad s k hlt hG] at hl; cases hl
          · rw [restL_end s k hlt] at hl
            cases hl
            simpa using hk
      have := this 0 l hr (Nat.zero_le _)
      omega
    have h1 : Hid (∀ w, Calls Tryd.prog 36 #[.string s] w fun e w' => ∃ v, e = .returned (.tuple #[v, .bool true]) ∧ Own w.heap.size w' v l ∧ Below w.heap.size w w') := fun w => by
      have := l1List_any s w hs (by omega); rw [hr] at this; exact this
    by_cases h60 : l.length ≤ 60
    · have hl : listR s = some l := by rw [HR.out _ hr]; simp [h60]
      rw [hl]
      clear hl hr
      go_enter Tryd.func17, Tryd.ntmps17
      go_wp2_with (go_at_call 36; refine (h1.out _).mono ?_; rintro e w1 ⟨v, rfl, hown, hb⟩; obtain ⟨a, cap, rfl, _⟩ := hown.reads; have HO := hid hown; clear hown)
      go_ret2
      exact ⟨_, rfl, HO.out, hb⟩
    · have hl : listR s = none := by rw [HR.out _ hr]; simp [h60]
      rw [hl]
      clear hl hr
      go_enter Tryd.func17, Tryd.ntmps17
      go_wp2_with (go_at_call 36; refine (h1.out _).mono ?_; rintro e w1 ⟨v, rfl, hown, hb⟩; obtain ⟨a, cap, rfl, _⟩ := hown.reads; have HO := hid hown; clear hown)
      go_ret2
      exact ⟨.slice none 0 0, rfl, ⟨by simp, .inl ⟨rfl, rfl⟩⟩, hb⟩

theorem sgetList_long (s : ByteArray) (w : World) (h600 : (600 : Int) < (s.size : Int)) :
    Calls Tryd.prog 17 #[.string s] w fun e w' => e = .returned (.tuple #[.slice none 0 0, .bool false]) ∧ w' = w := by
  go_enter Tryd.func17, Tryd.ntmps17
  go_wp2
  go_ret2
  exact ⟨rfl, rfl⟩
end Go.Proofs.YthpimklbdabdharDoor
