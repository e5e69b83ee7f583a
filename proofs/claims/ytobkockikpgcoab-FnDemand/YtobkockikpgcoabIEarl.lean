/-
  impl.earliestFirst: slot by slot the job of the nearest end, in memory of its own. Nothing old is written.
-/
import Derived.Test.YtobkockikpgcoabINearest
import Derived.Test.YtobkockikpgcoabKIntRows
import Derived.Test.YtobkockikpgcoabOwnsSame
import Derived.Maps.AppendAt
namespace Go.Proofs.Ytobkockikpgcoab
open Go.RowKit Go.Shelf
attribute [local go_sem] Oper.semAt_some

theorem nearestEnds_any (a : Option Addr) (len cap : Nat) (w : World) : Calls Try.prog 34 #[.slice a len cap] w fun e w' => e = .returned (.func (.func 42) #[] #[.pointer (some ⟨w.heap.size, 0, none⟩)]) ∧ w' = w.alloc (.cells #[.slice a len cap] 23) := by
  go_enter Try.func34, Try.ntmps34
  go_wp2
  go_ret
  exact ⟨rfl, rfl⟩
theorem MovesT.other {T : TypeId} {n0 : Nat} {A B : World} (h : MovesT T n0 A B) {g : Nat} {cs : Array Value} {t : TypeId} {z : Nat × Nat} (hg : A.heap[g]? = some (.cells cs t z)) (ht : t ≠ T) : B.heap[g]? = A.heap[g]? := by
  rcases h.block g (Array.getElem?_eq_some_iff.1 hg).1 with ⟨_, cs', z', h'⟩ | h'
  · rw [hg] at h'; cases h'; exact absurd rfl ht
  · exact h'
theorem MovesT.below {T : TypeId} {n0 n : Nat} {w A B : World} (hb : Below n w A) (h : MovesT T n0 A B) (hn : n ≤ n0) (hw : n ≤ w.heap.size) : Below n w B := by
  have hg : Below n A B := by
    refine ⟨h.os, h.tape, h.output, h.size, fun k hk => ?_⟩
    have := hb.size
    rcases h.block k (by omega) with ⟨h1, _⟩ | h'
    · omega
    · exact h'
  exact hb.trans hg
theorem boxed_moves {T : TypeId} {n0 : Nat} {A B : World} {b : Nat} {t : TypeId} {v : Value} (h : Boxed A b t v) (hm : MovesT T n0 A B) (ht : t ≠ T) : Boxed B b t v := (hm.other h ht).trans h

set_option maxRecDepth 100000 in
set_option maxHeartbeats 4000000 in
theorem iearl_any (v : Value) (xs : List JbEl) (w : World) (hr : JbReads w v xs) (hg : goodJ xs = true) :
    Calls Try.prog 22 #[v] w fun e w' => ∃ u, e = .returned u ∧ KOwn w.heap.size w'.heap.size w' u (earl xs 24) ∧ Below w.heap.size w w' := by
  have HR := hid hr
  obtain ⟨a, cap, rfl, _, _⟩ := hr
  have hlen := goodJ_len hg
  have HN : Hid (∀ t j, j < xs.length → -1000 ≤ ((leftA xs t).getD j (0, 0, 0)).2.1 ∧ ((leftA xs t).getD j (0, 0, 0)).2.1 ≤ 1000) := fun t j hj => by
    rw [leftA_get xs t j hj]
    have h1 := jobB_in (goodJ_at hg j hj)
    have h2 := cS_le_need hg t j hj
    have h3 := cS_nonneg (slotA xs) j t
    show -1000 ≤ _ - _ ∧ _ - _ ≤ (1000 : Int)
    omega
  obtain ⟨i0, hi, hz0, hz1, hz2⟩ := info_parts info_int
  clear hg
  refine (callsIn_wide (n := 9)).1 ?_
  refine callsIn_of_wp_marks Try.func22 rfl trivial ?_ rfl
  simp only [Try.ntmps22, List.size_toArray, List.length_cons, List.length_nil, Nat.reduceAdd, Nat.reduceSub, Array.replicate_succ, Array.replicate_zero, List.push_toArray, List.append_toArray, List.nil_append, List.cons_append]
  gi_wp2_with (refine ⟨trivial, ?_⟩; gi_at_call 34; refine (callsIn_wide.2 (nearestEnds_any _ _ _ _)).mono ?_; rintro e w2 ⟨rfl, hw2⟩; have HW := hid hw2; clear hw2)
  have hbS : Boxed w2 w.heap.size 46 (.slice none 0 0) := by rw [HW.out]; exact (Boxed.new w 46 _).alloc _
  have hbL : Boxed w2 (w.heap.size + 1) 23 (.slice a xs.length cap) := by
    have := Boxed.new (w.alloc (.cells #[.slice none 0 0] 46)) 23 (.slice a xs.length cap)
    rw [World.size_alloc] at this
    rw [HW.out]
    exact this
  have hB0 : Below w.heap.size w w2 := by rw [HW.out]; exact ((Below.refl _ _).alloc (Nat.le_refl _) _).alloc (by simp) _
  have hsz : w2.heap.size = w.heap.size + 2 := by rw [HW.out]; simp
  clear HW
  refine range_T (gf := 42) (lb := #[.pointer (some ⟨w.heap.size + 1, 0, none⟩)]) rfl (enters_of Try.func42 (by kernel_rfl) rfl)
    (nearest_gives (w.heap.size + 1) _ xs w2 hlen HN.out hbL (HR.out.below hB0)) (fun _ => rfl)
    (fun pre W => (∃ u, Boxed W w.heap.size 46 u ∧ W.ownsRow w.heap.size 3 1 u pre.length (kflat pre)) ∧ Below w.heap.size w W)
    (fun s A l o o' hl hA ho hs => by
      obtain ⟨⟨u, h1, h2⟩, h3⟩ := hs
      exact ⟨⟨u, h1.kept (grownBy_putObj' A l o') (fun e => by cases e; rw [h1] at hA; cases hA; cases ho), ownsRow_putObj h2 o' hA ho⟩, h3.grown (grownBy_putObj' A l o') (by have := (Array.getElem?_eq_some_iff.1 hA).1; omega) (fun k e => by cases e; omega)⟩)
    (fun s A B hs hm => by
      obtain ⟨⟨u, h1, h2⟩, h3⟩ := hs
      exact ⟨⟨u, boxed_moves h1 hm (by decide), owns_same h2 (fun g cur z hg => hm.other hg (by decide))⟩, MovesT.below h3 hm (by omega) (Nat.le_refl _)⟩)
    ⟨⟨_, hbS, World.ownsRow_nil _ _ _ _⟩, hB0⟩
    (fun x => { tmps := #[.slice a xs.length cap, undef, .slice none 0 0, .pointer (some ⟨w.heap.size, 0, none⟩), .int .i64 x, .slice a xs.length cap, .func (.func 42) #[] #[.pointer (some ⟨w.heap.size + 1, 0, none⟩)], .int .i64 x, undef, undef, undef, undef, undef], defers := [] }) ?assign ?body ?done
  case assign =>
    intro l x W K hK
    gi_wp2
    exact hK
  case body =>
    rintro l pre x W ⟨⟨u, hv, hrow⟩, hB⟩ hlt
    rw [length_earl] at hlt
    have hc := hv.cell
    have HB := hid hB
    have HV := hid hv
    have HRow := hid hrow
    have hs0 : w.heap.size ≤ W.heap.size := hB.size
    clear hB hv hrow
    gi_wp2_with (gi_at_builtin; refine wpListIn_append_own _ rfl _ _ 46 rfl w.heap.size 3 i0 (.int .i64 0) 1 8 Try.underlying46 hi hz0 hz1 hz2 rfl (by decide) _ _ _ rfl (HRow.out.alloc _) ⟨W.heap.size, 0, none⟩ 1 1 [.int .i64 x] rfl rfl (cell_one_new _ _ _) (by simp [Value.oneCell']) (by unfold maxLen; omega) (by omega) (by simp; omega) ?_; intro v' w1 hown' hgrow _; obtain ⟨g', cap', rfl⟩ := ownsRow_succ hown'; obtain ⟨hv1, hv2, hr2, hk2, hb2⟩ := HV.out.appended (by decide) HRow.out hs0 (Nat.le_refl _) hown' hgrow; have hc1 := hv1.cell; have hf1 := hv1.frozen; have HK1 := hid hk2; have HV2 := hid hv2; have HR2 := hid hr2; have HB2 := hid hb2; have HG : Hid (World.grownBy _ w1 u.ownBlock) := hgrow; have HV1 := hid hv1; clear hown' hgrow hv1 hv2 hr2 hk2 hb2)
    refine ⟨HK1.out, ?_, ⟨_, HV2.out, ?_⟩, HB.out.trans HB2.out⟩
    · refine ((KeepT.alloc _ _ _).trans (KeepT.grown HG.out (fun k e => ?_))).trans (KeepT.setCell (p := ⟨w.heap.size, 0, none⟩) (show w1.heap[w.heap.size]? = _ from HV1.out) (by decide) _)
      rcases (HRow.out.alloc _).2 with ⟨rfl, _⟩ | ⟨g, cap, cur, rfl, _, hgb, _⟩
      · simp [Value.ownBlock] at e
      · obtain rfl : g = k := by simpa [Value.ownBlock] using e
        exact ⟨_, _, _, hgb, by decide⟩
    · have := HR2.out
      rw [kflat_append, List.length_append]
      exact this
  case done =>
    rintro D W hD ⟨⟨u, hv, hrow⟩, hB⟩ hK
    have hc := hv.cell
    have HB := hid hB
    have HRow := hid hrow
    have HK := hid hK
    clear hB hv hrow hK
    gi_wp2
    refine ⟨by simp, .inl ⟨_, _, rfl, run_takeDeferred HK.out, ?_⟩⟩
    have hrow2 := ownsRow_putObj HRow.out (.deferred none) HK.out rfl
    exact ⟨_, results_tmp rfl _ _ _, u, rfl, KOwn.of_owns hrow2 (by rw [length_earl]; omega), HB.out.trans (belowK_b (w := w) (Nat.le_refl _) W D _ _ (by omega) HK.out rfl rfl)⟩
end Go.Proofs.Ytobkockikpgcoab
