/-
  spec.SortWork: all of a list of work, from the least on, in memory of its own. Nothing old is written.
-/
import Derived.Test.YtndbdioignmaeaaSPop
import Derived.Test.YtndbdioignmaeaaSMake
import Derived.Test.YtndbdioignmaeaaSGoodW
import Derived.Test.YtndbdioignmaeaaPushMath
import Derived.Deep.AppendLies
namespace Go.Proofs.Ytndbdioignmaeaa
open Go.RowKit

theorem popsF_go (f : Nat) (hl : List WkEl) (h : hl.length ≤ f) (h0 : 0 < hl.length) : ∃ f', (removeL hl 0).length ≤ f' ∧ popsF f hl = hl.getD 0 wz :: popsF f' (removeL hl 0) := by
  cases f with
  | zero => omega
  | succ f => exact ⟨f, by rw [length_removeL]; omega, by rw [popsF, if_neg (List.length_pos_iff.1 h0)]⟩
def sliceLen (v : Value) : Nat := match v with
  | .slice _ n _ => n
  | _ => 0
set_option maxRecDepth 100000 in
set_option maxHeartbeats 4000000 in
theorem sSortWork_any (v : Value) (xs : List WkEl) (w : World) (hr : WkReads w v xs) :
    Calls Try.prog 45 #[v] w fun e w' => ∃ v', e = .returned (.tuple #[v', .bool (goodW xs)]) ∧ WkOwn w.heap.size w'.heap.size w' v' (sortY xs) ∧ Below w.heap.size w w' := by
  obtain ⟨i0, hi, hz0, hz1, hz2⟩ := info_parts info_work
  have HR := hid hr
  clear hr
  unfold sortY
  cases hg : goodW xs with
  | false =>
    go_enter Try.func45, Try.ntmps45
    go_wp2_with fail
    refine (l3Good_eq v xs false hg _ HR.out).mono ?_
    rintro e w1 ⟨rfl, b1⟩
    have B1 := hid b1
    clear b1
    go_wp2
    go_ret2
    exact ⟨_, rfl, wkown_nil _ _ _ _ _, B1.out⟩
  | true =>
    have hl := goodW_len hg
    rw [if_pos rfl]
    go_enter Try.func45, Try.ntmps45
    go_wp2_with fail
    refine (l3Good_eq v xs true hg _ HR.out).mono ?_
    rintro e w1 ⟨rfl, b1⟩
    have B1 := hid b1
    clear b1
    go_wp2_with fail
    refine (l3Make_any v xs xs rfl _ (HR.out.below B1.out) hl).mono ?_
    rintro e w2 ⟨v2, rfl, o2, b2⟩
    have B2 : Hid (Below w.heap.size w w2) := B1.out.trans (b2.mono B1.out.size)
    have R2 := hid o2.reads
    clear b2 o2
    go_wp2
    go_loopw [4, 6] (fun h o wr => ∃ (k f n : Nat) (hl tl : List WkEl) (a : Option Addr) (c : Nat), h = .slice a k c ∧ WkReads wr (.slice a k c) hl ∧ hl.length = k ∧ k + tl.length = xs.length ∧ k ≤ f ∧ sortL xs = tl ++ popsF f hl ∧ n = tl.length ∧ wr.ownsRow w.heap.size 48 3 o n (wkflat tl) ∧ Below w.heap.size w wr) (fun h _ _ => sliceLen h)
    case atStart =>
      obtain ⟨a, c, rfl, _, _⟩ := R2.out
      exact ⟨_, xs.length, 0, (makeL xs).1, [], a, c, rfl, R2.out, rfl, by rw [makeL_len]; rfl, by rw [makeL_len]; exact Nat.le_refl _, rfl, rfl, World.ownsRow_nil _ _ _ _, B2.out⟩
    case round =>
      obtain ⟨k, f, n, hl', tl, a, c, rfl, hread, hlk, hkn, hkf, hpop, hnt, hrow, hbel⟩ := hrel
      have HRD := hid hread
      have HLK := hid hlk
      have HP := hid hpop
      have HNT := hid hnt
      have HRO := hid hrow
      have HB := hid hbel
      clear hread hlk hpop hnt hrow hbel
      have hn40 : n ≤ 40 := by have := HNT.out; omega
      by_cases hk : 0 < k
      · obtain ⟨m, hm⟩ : ∃ m, k = m + 1 := ⟨k - 1, by omega⟩
        have HM := hid hm
        obtain ⟨x, hx0⟩ : ∃ x, x = hl'.getD 0 wz := ⟨_, rfl⟩
        have h0 : 0 < hl'.length := by rw [HLK.out]; exact hk
        obtain ⟨ga, oa, ca, e, hca⟩ := HRD.out.cells 0 h0
        have hca' := hid hca
        obtain ⟨rfl, rfl⟩ : a = some ⟨ga, oa, none⟩ ∧ c = ca := by cases e; exact ⟨rfl, rfl⟩
        obtain ⟨f', hf', he⟩ := popsF_go f hl' (by rw [HLK.out]; exact hkf) h0
        have HPS : Hid (sortL xs = (tl ++ [x]) ++ popsF f' (removeL hl' 0)) := by
          show _ = _
          rw [HP.out, he, ← hx0, List.append_assoc]
          rfl
        have HLR : Hid ((removeL hl' 0).length = m) := by show _ = _; rw [length_removeL, HLK.out, hm]; rfl
        have HF' := hid hf'
        have HX0 := hid hx0
        clear he hx0 hf' hm e hca h0
        go_wp2_with fail
        refine (l3Pop_any ga oa _ k m hl' x HX0.out _ hca'.out HLK.out HM.out (by omega)).mono ?_
        rintro e w4 ⟨g, c4, rfl, hg4, o4, b4⟩
        have hs4 := b4.size
        have B4 : Hid (Below w.heap.size w w4) := HB.out.trans (b4.mono HB.out.size)
        have RO4 : Hid (w4.ownsRow w.heap.size 48 3 u6 n (wkflat tl)) := owns_but (P := fun _ => False) HRO.out (But.of b4) (fun _ _ h => h)
        have O4 := hid o4
        have hsz : w.heap.size ≤ wr.heap.size := HB.out.size
        clear o4 b4
        obtain ⟨⟨p0, p1, p2⟩, _⟩ := alloc3 w4 x
        go_wp2_with (at_builtin; refine wpList_append_own _ rfl _ _ 46 rfl w.heap.size 48 i0 (.agg #[.int .i64 0, .int .i64 0, .int .i64 0]) 3 24 Try.underlying46 hi hz0 hz1 hz2 rfl (by decide) _ n (wkflat tl) rfl ?own ⟨w4.heap.size + 1, 0, none⟩ 1 1 (wkflat [x]) rfl rfl (wkone_at ⟨by simp, by simp, by simp⟩) (wkflat_one _) (by unfold maxLen; omega) (by omega) ?c5 ?_)
        case own => exact (RO4.out.alloc _).alloc _
        case c5 => have := B4.out.size; simp; omega
        intro v6 w6 hown6 hgr6 _
        have B6 : Hid (Below w.heap.size w w6) := ((B4.out.alloc B4.out.size _).alloc (by have := B4.out.size; simp; omega) _).grown hgr6 (by have := B4.out.size; simp; omega) (wkowns_block RO4.out)
        have RD6 : Hid (WkReads w6 (.slice (some ⟨g, 0, none⟩) m c4) (removeL hl' 0)) := by
          refine (O4.out.at fun j h1 h2 _ => ?_).reads
          refine (hgr6.block j (by simp; omega) ?_).trans (((Below.refl w4.heap.size w4).alloc (Nat.le_refl _) _).alloc (by simp) _ |>.block j (by omega))
          intro e
          have := (HRO.out.lt _ e.symm).2
          omega
        rw [← wkflat_append] at hown6
        have RO6 := hid hown6
        clear hown6 hgr6 p0 p1 p2
        go_wp2
        go_roundw
        case rel =>
          refine ⟨m, f', n + 1, removeL hl' 0, tl ++ [x], _, _, rfl, RD6.out, HLR.out, ?_, ?_, HPS.out, ?_, RO6.out, B6.out⟩
          · rw [List.length_append]; have := HM.out; simp; omega
          · have := HF'.out; rw [HLR.out] at this; exact this
          · rw [List.length_append, HNT.out]; rfl
        case measure => have := HM.out; simp [sliceLen]; omega
      · obtain rfl : k = 0 := by omega
        have HTL : Hid (sortL xs = tl) := by
          show _ = _
          rw [HP.out, List.eq_nil_of_length_eq_zero HLK.out]
          cases f <;> simp [popsF]
        have OT := hid (WkOwn.of_owns HRO.out (by have := HNT.out; omega))
        go_wp2
        go_ret2
        exact ⟨_, rfl, by rw [HTL.out]; exact OT.out, HB.out⟩
end Go.Proofs.Ytndbdioignmaeaa
