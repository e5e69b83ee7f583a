/-
  The cursor's numbers: some new list of at most 61 numbers; it writes into the cursor alone.
-/
import Derived.Test.YthpimklbdabdhaaDoorDraw
namespace Go.Proofs.YthpimklbdabdhaaDoor
open Go.RowKit

theorem Cur.lt {B b N : Nat} {w : World} (h : Cur B w b N) : b < w.heap.size := by obtain ⟨_, _, _, _, _, _, hr, _⟩ := h; exact hr.lt
theorem cur_new (w : World) (v : Value) (h : CodeOk w.heap.size w v) : Cur w.heap.size (w.alloc (.cells #[v, .int .i64 0, .int .u64 0] 56)) w.heap.size 0 := by
  have hb : Below w.heap.size w (w.alloc (.cells #[v, .int .i64 0, .int .u64 0] 56)) := (Below.refl _ _).alloc (Nat.le_refl _) _
  refine ⟨Nat.le_refl _, hb.size, v, fun i => (#[v, .int .i64 0, .int .u64 0] : Array Value).getD i undef, 0, 0, World.rowIs_alloc w _ _ _ (fun i hi => ?_), rfl, rfl, rfl, Nat.le_refl _, by decide, h.below hb⟩
  rcases (show i = 0 ∨ i = 1 ∨ i = 2 from by simp at hi; omega) with rfl | rfl | rfl <;> rfl

set_option maxHeartbeats 2000000 in
theorem numbers_any (B b N : Nat) (w : World) (h : Cur B w b N) (hN : N ≤ 1152921504606846000) :
    Calls Tryd.prog 40 #[.pointer (some ⟨b, 0, none⟩)] w fun e w' => ∃ v xs, xs.length ≤ 61 ∧ e = .returned v ∧ Own w.heap.size w' v xs ∧ Cur B w' b (N + 100) ∧ w.grownBy w' (some b) := by
  obtain ⟨i0, hi, hz0, hz1, hz2⟩ := info_parts info_int
  have hbw := h.lt
  have H := hid h
  clear h
  go_enter Tryd.func40, Tryd.ntmps40
  go_wp2_with fail
  refine (pick_any B b N 8 _ H.out (by omega) (by omega)).mono ?_
  rintro e w1 ⟨r, hr, rfl, c1, g1⟩
  have hr8 : r ≤ 7 := by omega
  have C1 := hid c1; have G1 := hid g1; clear c1 g1 hr
  go_wp2_with fail
  go_loopw [3, 4] (fun v i wr => ∃ (k : Nat) (xs : List Int), k ≤ 7 ∧ i = .int .i64 k ∧ xs.length + k ≤ 7 ∧ wr.ownsRow w.heap.size 3 1 v xs.length (xs.map (Value.int .i64)) ∧ Cur B wr b (N + 2 + 8 * (7 - k)) ∧ w.grownBy wr (some b)) (fun _ i _ => (intOf i).toNat)
  case atStart => exact ⟨r, [], hr8, rfl, by simp; omega, World.ownsRow_nil _ _ _ _, C1.out.mono (by omega), G1.out⟩
  case round =>
    obtain ⟨k, xs, hk, rfl, hxk, hown, hc, hg⟩ := hrel
    have hbs := hg.size
    have CK := hid hc; have GK := hid hg; have OK := hid hown
    clear hc hg hown
    rcases k with _ | k
    · go_wp2_with fail
      refine (one_any B b _ 20 _ CK.out (by omega) (by omega)).mono ?_
      rintro e w2 ⟨t, rfl, c2, g2⟩
      have hs2 := g2.size
      have C2 := hid c2; have G2 := hid g2; clear c2 g2
      cases t
      · go_wp2
        go_ret
        refine ⟨_, xs, by omega, rfl, Own.of_owns (OK.out.kept G2.out ?_) (by omega), C2.out.mono (by omega), only_trans GK.out G2.out⟩
        by_cases ho : u3.ownBlock = none
        · exact .inl ho
        · right
          intro e
          have := (OK.out.lt b e).1
          omega
      · go_wp2_with fail
        refine (pick_any B b _ 3 _ C2.out (by omega) (by omega)).mono ?_
        rintro e w3 ⟨q, hq, rfl, c3, g3⟩
        have hq3 : q ≤ 2 := by omega
        have hs3 := g3.size
        have C3 := hid c3; have G3 := hid g3; clear c3 g3 hq
        go_wp2_with (at_make; refine wpList_make_row _ rfl _ _ 36 rfl 3 i0 (.int .i64 0) Tryd.underlying36 hi hz0 hz1 rfl .i64 .i64 (59 + q) (by rfl) (by rfl) (by rw [hz2]; omega) (by omega) ?_)
        go_ret
        exact ⟨_, List.replicate (59 + q) 0, by simp; omega, rfl, (Own.made w3 (59 + q) (by omega)).mono (by omega), (C3.out.mono (by omega)).below ((Below.refl _ _).alloc (Nat.le_refl _) _), only_trans (only_trans (only_trans GK.out G2.out) G3.out) (World.grownBy_alloc _ _ _)⟩
    · have hkk : (0 : Int) < ((k + 1 : Nat) : Int) := by omega
      go_wp2_with fail
      refine (number_any B b _ _ CK.out (by omega)).mono ?_
      rintro e w2 ⟨z, rfl, c2, g2⟩
      have hs2 := g2.size
      have own2 : Hid (w2.ownsRow w.heap.size 3 1 u3 xs.length (xs.map (Value.int .i64))) := OK.out.kept g2 (by
        by_cases ho : u3.ownBlock = none
        · exact .inl ho
        · right
          intro e
          have := (OK.out.lt b e).1
          omega)
      have C2 := hid c2; have G2 := hid g2; clear c2 g2
      go_wp2_with (at_builtin; refine wpList_append_own _ rfl _ _ 36 rfl w.heap.size 3 i0 (.int .i64 0) 1 8 Tryd.underlying36 hi hz0 hz1 hz2 rfl (by decide) _ _ _ rfl (own2.out.alloc _) ⟨w2.heap.size, 0, none⟩ 1 1 [.int .i64 z] rfl rfl ?c1 ?c2 ?c3 ?c4 ?c5 ?_)
      case c1 =>
        intro j u hj
        match j, hj with
        | 0, hj => simp at hj; subst hj; simp [Addr.add]
      case c2 => intro u hu; simp at hu; subst hu; rfl
      case c3 => unfold maxLen; omega
      case c4 => omega
      case c5 => simp; omega
      intro v' w3 hown' hgrow _
      have g3 : Hid (w.grownBy w3 (some b) ∧ Cur B w3 b (N + 2 + 8 * (7 - k))) := by
        have hal : Below w2.heap.size w2 (w2.alloc (.cells #[.int .i64 z] 3)) := (Below.refl _ _).alloc (Nat.le_refl _) _
        have hrow : ∀ g, u3.ownBlock = some g → w.heap.size ≤ g := fun g hg => (own2.out.lt g hg).1
        have hbl : Below w.heap.size (w2.alloc (.cells #[.int .i64 z] 3)) w3 := (Below.refl _ _).grown hgrow (by simp; omega) hrow
        exact ⟨only_then (only_trans (only_trans GK.out G2.out) (World.grownBy_alloc _ _ _)) hbl, ((C2.out.mono (by omega)).below hal).under hbw (by have := H.out.2.1; omega) hbl⟩
      have hown2 : Hid (w3.ownsRow w.heap.size 3 1 v' (xs ++ [z]).length ((xs ++ [z]).map (Value.int .i64))) := by
        show w3.ownsRow _ _ _ _ _ _
        simpa using hown'
      clear hown' hgrow
      go_wp2
      go_roundw
      case rel => exact ⟨k, xs ++ [z], by omega, by go_num, by simp; omega, hown2.out, g3.out.2, g3.out.1⟩
      case measure => simp [intOf]
end Go.Proofs.YthpimklbdabdhaaDoor
