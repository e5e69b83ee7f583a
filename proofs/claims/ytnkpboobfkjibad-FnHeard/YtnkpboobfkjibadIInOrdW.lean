/-
  (set).inOrder: the numbers of a set, rising, in memory of their own. Nothing old is written.
-/
import Derived.Test.YtnkpboobfkjibadISet
import Derived.Test.YtnkpboobfkjibadISortI
import Derived.Test.YtnkpboobfkjibadKOne
import Derived.Sort.OwnSorted
namespace Go.Proofs.Ytnkpboobfkjibad
open Go.RowKit

set_option maxRecDepth 100000 in
set_option maxHeartbeats 4000000 in
theorem iinorderW_any (b n : Nat) (f : Int → Bool) (w : World) (hm : MSet w b n f) (hn : n ≤ 90000) :
    Calls Try.prog 122 #[.map (some b)] w fun e w' => ∃ u, e = .returned u ∧ ∃ ys, KOwn w.heap.size w'.heap.size w' u ys ∧ ys.Pairwise (· < ·) ∧ (∀ x, x ∈ ys ↔ f x = true) ∧ ys.length ≤ n ∧ (∀ x ∈ ys, inW x) ∧ Below w.heap.size w w' := by
  have hbl := hm.lt
  obtain ⟨D, hD, hf⟩ := hm
  have hsz := hD.size_le
  have HD := hid hD
  have HF := hid hf
  clear hD hf
  go_enter Try.func122, Try.ntmps122
  go_wp2_with (at_range; refine wpList_range_own _ rfl _ 120 rfl 3 157 setLaw Try.underlying120 _ b n _ rfl HD.out ?_; intro w0 hrg0 hg0 hs0)
  go_frame
  go_loopw [3, 7] (fun l _ wr => ∃ (left : Lit → Bool) (cnt : Nat) (ss : List Int), wr.ranges Try.prog 3 uE b w.heap.size n D left cnt ∧ ss.length + cnt ≤ n ∧
      wr.ownsRow w.heap.size 3 1 l ss.length (kflat ss) ∧ ss.Nodup ∧ (∀ x, x ∈ ss ↔ (f x && !left (.int .i64 x)) = true) ∧ (∀ x ∈ ss, inW x) ∧ Below w.heap.size w wr)
    (fun _ _ wr => wr.rangeLeft b w.heap.size)
  case atStart =>
    refine ⟨_, _, [], hrg0, by simpa using hsz, World.ownsRow_nil _ _ _ _, List.nodup_nil, fun x => ?_, by simp, (Below.refl _ _).grown hg0 (Nat.le_refl _) (fun j hj => by cases hj)⟩
    rw [HF.out]
    cases f x <;> simp
  case round =>
    obtain ⟨left, cnt, ss, hrg, hcs, hown, hnd, hmem, hin, hb⟩ := hrel
    have HO := hid hown
    have HN := hid hnd
    have HM := hid hmem
    have HI := hid hin
    have HBW := hid hb
    have hsz1 := hb.size
    clear hown hnd hmem hin hb
    go_wp2_with (at_next; refine wpList_next_ranges _ rfl _ rfl 3 setLaw uE (Value.int .i64) (fun _ : Unit => Value.agg #[]) (fun key kl hk => by obtain ⟨x, rfl, _⟩ := Maps.keyOf_int_inv Try.underlying3 hk; exact ⟨x, rfl⟩) (fun v y hv => ⟨(), (unitElem_inv hv).1⟩) b w.heap.size n _ _ _ rfl hrg ?_ ?_)
    · intro hc0 hl0
      have HE : Hid (∀ x, x ∈ ss.mergeSort leZ ↔ f x = true) := fun x => by rw [sort_mem, HM.out, hl0]; simp
      have HL : Hid ((ss.mergeSort leZ).Pairwise (· < ·)) := sort_lt ss HN.out
      have HS : Hid ((ss.mergeSort leZ).length = ss.length) := by show _ = _; simp
      have HI2 : Hid (∀ x ∈ ss.mergeSort leZ, inW x) := fun x hx => HI.out x ((sort_mem ss x).1 hx)
      obtain ⟨ys, hys⟩ : ∃ ys, ss.mergeSort leZ = ys := ⟨_, rfl⟩
      rw [hys] at HE HL HS HI2
      have HY := hid hys
      clear hl0 hrg hrg0 hys
      rcases HO.out.2 with ⟨hnil, h0⟩ | ⟨g, cap, cur, hv, hbase, hb', h1, h2, h3, h4⟩
      · subst hnil
        go_wp2_with fail
        refine (isort_none _ _ _).mono ?_
        rintro e w' ⟨rfl, hw⟩; obtain rfl := hw.symm
        go_wp2
        go_ret
        have e0 : ys = [] := List.eq_nil_of_length_eq_zero (by rw [HS.out]; exact h0)
        exact ⟨_, rfl, ys, by rw [e0]; exact kown_nil _ _ _ _ _, HL.out, HE.out, by rw [e0]; exact Nat.zero_le _, HI2.out, HBW.out⟩
      · subst hv
        clear hb' h1 h2 h3 h4
        by_cases h0 : 0 < ss.length
        · go_wp2_with fail
          refine (isort_any w.heap.size g cap ss _ h0 HO.out (by omega)).mono ?_
          rintro e w' ⟨rfl, ho, hg, _⟩
          rw [HY.out] at ho
          have HK : Hid (KOwn w.heap.size w'.heap.size w' (.slice (some ⟨g, 0, none⟩) ss.length cap) ys) := KOwn.of_owns ho (by rw [HS.out]; omega)
          have HB2 : Hid (Below w.heap.size w w') := HBW.out.grown hg hsz1 (fun j hj => by cases hj; exact hbase)
          clear ho hg
          go_wp2
          go_ret
          exact ⟨_, rfl, ys, HK.out, HL.out, HE.out, by rw [HS.out]; omega, HI2.out, HB2.out⟩
        · obtain ⟨z, hz⟩ : ∃ z, ss.length = z := ⟨_, rfl⟩
          obtain rfl : z = 0 := by omega
          have HZ := hid hz
          rw [hz]
          clear hz h0
          go_wp2_with fail
          refine (isort_none _ _ _).mono ?_
          rintro e w' ⟨rfl, hw⟩; obtain rfl := hw.symm
          go_wp2
          go_ret
          have e0 : ys = [] := List.eq_nil_of_length_eq_zero (by rw [HS.out]; exact HZ.out)
          exact ⟨_, rfl, ys, by rw [e0]; exact kown_nil _ _ _ _ _, HL.out, HE.out, by rw [e0]; exact Nat.zero_le _, HI2.out, HBW.out⟩
    · intro x kl yd yp w1 cnt1 hkey hlk hv hat hrg1 hlt hg1 hs1 hen
      obtain ⟨x', ex, rfl, hwx⟩ := Maps.keyOf_int_inv Try.underlying3 hkey
      cases ex
      have HFX : Hid (f x = true) := by show _ = _; rw [← HF.out]; exact Maps.has_true_of_atKey hat
      have HLX : Hid (left (.int .i64 x) = true) := hlk
      have HL : Hid (∀ y : Int, (left (.int .i64 y) && !(Lit.int .i64 y).sameKey (.int .i64 x)) = (left (.int .i64 y) && !(x == y))) := fun y => by
        by_cases e : y = x
        · subst e; rw [same_self]; simp
        · rw [same_other e]; simp [Ne.symm e]
      have HRG := hid hrg1
      have HWX : Hid (inW x) := hwx
      have HO1 := hid (HO.out.kept hg1 (Or.inr (Go.row_ne_iter HO.out hrg).symm))
      have HB1 : Hid (Below w.heap.size w w1) := HBW.out.grown hg1 hsz1 (fun j hj => by cases hj; exact Nat.le_refl _)
      have hsz2 := HB1.out.size
      have HLE0 : Hid (wr.rangeLeft b w.heap.size = cnt) := hrg.left_eq
      have HLT := hid hlt
      clear hkey hlk hv hat hrg1 hrg hg1 hs1 HO hlt hwx hrg0 hg0 hs0
      go_wp2_with (at_builtin; refine wpList_append_readsW _ rfl _ _ rfl w.heap.size _ _ _ rfl (HO1.out.alloc _) _ [x] rfl (kreads_int _ _) (by simp; omega) (by simp; omega) ?_)
      intro v6 w6 hown6 hgr6 _
      have B6 : Hid (Below w.heap.size w w6) := (HB1.out.alloc (by omega) _).grown hgr6 (by simp; omega) (fun m hm => (HO1.out.lt m hm).1)
      have O6 : Hid (w6.ownsRow w.heap.size 3 1 v6 (ss ++ [x]).length (kflat (ss ++ [x]))) := hid (by simpa using hown6)
      have RG6 : Hid (w6.ranges Try.prog 3 uE b w.heap.size n D (fun z => left z && !z.sameKey (.int .i64 x)) cnt1) := (HRG.out.alloc _).kept hgr6 (Go.row_ne_low HO1.out hbl) (Go.row_ne_iter HO1.out HRG.out)
      clear hown6 hgr6 HO1 hen
      have hlt := HLT.out
      go_wp2
      go_roundw
      case rel =>
        refine ⟨_, cnt1, ss ++ [x], RG6.out, by simp; omega, O6.out, ?_, fun y => ?_, ?_, B6.out⟩
        · rw [List.nodup_append]
          refine ⟨HN.out, by simp, fun y hy z hz e => ?_⟩
          rw [List.mem_singleton] at hz
          subst hz e
          have := (HM.out y).1 hy
          rw [HLX.out] at this
          simp at this
        · show _ ↔ (f y && !(left (.int .i64 y) && !(Lit.int .i64 y).sameKey (.int .i64 x))) = true
          rw [HL.out, List.mem_append, List.mem_singleton, HM.out]
          by_cases e : x = y
          · subst e; rw [HFX.out]; simp
          · rw [show (x == y) = false by simpa using e]; simp [Ne.symm e]
        · intro y hy
          rcases List.mem_append.1 hy with h | h
          · exact HI.out y h
          · rw [List.mem_singleton.1 h]; exact HWX.out
      case measure => rw [RG6.out.left_eq, HLE0.out]; exact HLT.out
end Go.Proofs.Ytnkpboobfkjibad
