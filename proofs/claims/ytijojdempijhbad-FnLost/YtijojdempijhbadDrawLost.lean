/-
  What is drawn for letters lost: a number and some order of letters; nothing old is written.
-/
import Derived.Test.YtijojdempijhbadDrawOrd11
namespace Go.Proofs.Ytijojdempijhbad
open Go.RowKit

set_option maxHeartbeats 1000000 in
theorem drawPlay_any (v : Value) (w : World) (h : CodeOk w.heap.size w v) :
    Calls Try.prog 46 #[v] w fun e w' => ∃ (m : Nat) (u : Value), e = .returned (.tuple #[.int .i64 (m : Nat), u]) ∧ ∃ xs : List Int, (m ≤ 20 ∧ xs.length ≤ 60 ∧ ∀ z ∈ xs, -1 ≤ z ∧ z ≤ 60) ∧ KOwn w.heap.size w'.heap.size w' u xs ∧ Below w.heap.size w w' := by
  have H := hid (cur_new w v h)
  obtain ⟨a, len, cap, rfl, hlen, hx⟩ := h
  clear hlen hx
  go_enter Try.func46, Try.ntmps46
  go_wp2_with fail
  refine (pick_any w.heap.size w.heap.size 0 16 _ H.out (by omega) (by omega)).mono ?_
  rintro e w1 ⟨n, hn, rfl, c1, g1⟩
  have C1 := hid c1; have G1 := hid g1; clear c1 g1 H
  go_wp2_with fail
  refine (pick_any w.heap.size w.heap.size _ 3 _ C1.out (by omega) (by omega)).mono ?_
  rintro e w2 ⟨r, hr, rfl, c2, g2⟩
  have C2 := hid c2; have G2 := hid (only_trans G1.out g2); clear c2 g2 C1 G1
  obtain ⟨m, hm⟩ : ∃ m, n + r = m := ⟨_, rfl⟩
  have e1 : (n : Int) + (r : Int) = (m : Nat) := by rw [← hm]; simp
  have e2 : IntKind.i64.wrap (m : Int) = (m : Nat) := by rw [IntKind.wrap_i64]; omega
  go_wp2_with fail
  refine (order11_any w.heap.size w.heap.size _ n _ C2.out (by omega) (by omega)).mono ?_
  rintro e w3 ⟨u, rfl, xs, hxs, o3, c3, g3⟩
  have hs2 : w.heap.size + 1 ≤ w2.heap.size := by have := G2.out.size; rw [World.size_alloc] at this; exact this
  have O3 := hid o3; have G3 := hid (only_trans G2.out g3); have HX := hid hxs; clear c3 g3 C2 G2 o3 hxs e1 e2
  go_wp2
  refine bodyPost_ret (v := .tuple #[.int .i64 (m : Nat), u]) (by first | rfl | simp [results, Try.f46, go_sem]) rfl ⟨m, u, rfl, xs, ⟨by omega, by have := HX.out.1; omega, HX.out.2⟩, O3.out.mono (by omega) (Nat.le_refl _), ((Below.refl _ _).alloc (Nat.le_refl _) _).trans (only_below G3.out (Nat.le_refl _) (by simp))⟩
set_option maxHeartbeats 2000000 in
theorem drawAcks_any (v : Value) (w : World) (h : CodeOk w.heap.size w v) :
    Calls Try.prog 51 #[v] w fun e w' => ∃ u, e = .returned u ∧ ∃ xs : List Int, (xs.length ≤ 60 ∧ ∀ z ∈ xs, -1 ≤ z ∧ z ≤ 60) ∧ KOwn w.heap.size w'.heap.size w' u xs ∧ Below w.heap.size w w' := by
  have H := hid (cur_new w v h)
  obtain ⟨a, len, cap, rfl, hlen, hx⟩ := h
  clear hlen hx
  go_enter Try.func51, Try.ntmps51
  go_wp2_with fail
  refine (one_any w.heap.size w.heap.size 0 20 _ H.out (by omega) (by omega)).mono ?_
  rintro e w1 ⟨t1, rfl, c1, g1⟩
  have hs1 : w.heap.size + 1 ≤ w1.heap.size := by have := g1.size; rw [World.size_alloc] at this; exact this
  have B1 : Hid (Below w.heap.size w w1) := ((Below.refl _ _).alloc (Nat.le_refl _) _).trans (only_below g1 (Nat.le_refl _) (by simp))
  have C1 := hid c1; clear c1 g1 H
  cases t1
  · go_wp2_with fail
    refine (pick_any w.heap.size w.heap.size _ 16 _ C1.out (by omega) (by omega)).mono ?_
    rintro e w2 ⟨n, hn, rfl, c2, g2⟩
    have B2 : Hid (Below w.heap.size w w2) := B1.out.trans (only_below g2 (Nat.le_refl _) (by omega))
    have C2 := hid c2; have hs2 := g2.size; clear c2 g2 C1
    go_wp2_with fail
    refine (order11_any w.heap.size w.heap.size _ n _ C2.out (by omega) (by omega)).mono ?_
    rintro e w3 ⟨u, rfl, xs, hxs, o3, c3, g3⟩
    have O3 := hid (o3.mono (show w.heap.size ≤ w2.heap.size by omega) (Nat.le_refl _)); have HX := hid hxs
    have B3 : Hid (Below w.heap.size w w3) := B2.out.trans (only_below g3 (Nat.le_refl _) (by omega))
    clear c3 g3 C2 o3 hxs
    go_wp2
    go_ret
    exact ⟨_, rfl, xs, ⟨by have := HX.out.1; omega, HX.out.2⟩, O3.out, B3.out⟩
  · clear C1
    go_wp2
    go_loopw [4, 5] (fun l i wr => ∃ (k : Nat) (ys : List Int), k ≤ 21 ∧ i = .int .i64 ((2 * k : Nat) : Int) ∧ (ys.length = k ∧ ∀ z ∈ ys, -1 ≤ z ∧ z ≤ 60) ∧ wr.ownsRow w.heap.size 3 1 l ys.length (kflat ys) ∧ Below w.heap.size w wr) (fun _ i _ => 42 - (intOf i).toNat)
    case atStart => exact ⟨0, [], Nat.zero_le _, rfl, ⟨rfl, by simp⟩, World.ownsRow_nil _ _ _ _, B1.out⟩
    case round =>
      obtain ⟨k, ys, hk, rfl, ⟨hyk, hyz⟩, hown, hbel⟩ := hrel
      have HO := hid hown
      have HB := hid hbel
      have HZ := hid hyz
      have HYK := hid hyk
      have hsz := hbel.size
      clear hown hbel hyz hyk B1
      obtain ⟨kk, hkk⟩ : ∃ kk, 2 * k = kk := ⟨_, rfl⟩
      rw [hkk]
      by_cases hlt : k < 21
      · have hki : (kk : Int) < 42 := by omega
        obtain ⟨k2, hk2⟩ : ∃ k2, kk + 2 = k2 := ⟨_, rfl⟩
        have e1 : (kk : Int) + 2 = (k2 : Nat) := by rw [← hk2]; simp
        have e2 : IntKind.i64.wrap (k2 : Int) = (k2 : Nat) := by rw [IntKind.wrap_i64]; omega
        have HK2 := hid hk2
        have HKK := hid hkk
        clear hk2 hkk
        go_wp2_with (at_builtin; refine wpList_append_reads _ rfl _ _ rfl w.heap.size _ _ _ rfl (HO.out.alloc _) _ [(kk : Int)] rfl (kreads_int _ _) (by have := HYK.out; simp; omega) (by simp; omega) ?_)
        intro v3 w3 hown3 hgr3 _
        have O3 : Hid (w3.ownsRow w.heap.size 3 1 v3 (ys ++ [(kk : Int)]).length (kflat (ys ++ [(kk : Int)]))) := by show World.ownsRow _ _ _ _ _ _ _; rw [List.length_append]; exact hown3
        have B3 : Hid (Below w.heap.size w w3) := (HB.out.alloc hsz _).grown hgr3 (by simp; omega) (by intro i hi; exact (HO.out.lt i hi).1)
        have HZ3 : Hid (∀ z ∈ ys ++ [(kk : Int)], -1 ≤ z ∧ z ≤ 60) := fun z hz => by
          rcases List.mem_append.1 hz with h | h
          · exact HZ.out z h
          · rw [List.mem_singleton.1 h]; omega
        clear hown3 hgr3 HO HB
        go_wp2
        go_roundw
        case rel => exact ⟨k + 1, ys ++ [(kk : Int)], by omega, by have := HK2.out; have := HKK.out; go_num, ⟨by rw [List.length_append, List.length_singleton, HYK.out], HZ3.out⟩, O3.out, B3.out⟩
        case measure => have := HK2.out; simp [intOf]; omega
      · have hki : ¬ (kk : Int) < 42 := by omega
        obtain ⟨ua, uc, rfl⟩ : ∃ a c, u4 = .slice a ys.length c := by
          rcases HO.out.2 with ⟨h, h0⟩ | ⟨g, c, _, h, _⟩
          · exact ⟨none, 0, by rw [h, h0]⟩
          · exact ⟨_, _, h⟩
        have HK := hid (KOwn.of_owns HO.out (by have := HYK.out; omega))
        clear hkk
        go_wp2
        go_ret
        exact ⟨_, rfl, ys, ⟨by have := HYK.out; omega, HZ.out⟩, HK.out, HB.out⟩
end Go.Proofs.Ytijojdempijhbad
