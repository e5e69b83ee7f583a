/-
  The cursor's pieces: some texts, nine at most, of 18 bytes at most, in memory of their own; of old memory the cursor alone is written.
-/
import Derived.Test.YtijojdempijhbadDrawAm
import Derived.Test.YtijojdempijhbadPcRow
import Derived.Test.YtijojdempijhbadXApp
namespace Go.Proofs.Ytijojdempijhbad
open Go.RowKit

theorem xowns_far {w w' : World} {base n b : Nat} {t : TypeId} {v : Value} {cs : List Value} (h : w.ownsRow base t 1 v n cs) (g : w.grownBy w' (some b)) (hb : b < base) : w'.ownsRow base t 1 v n cs :=
  xowns_stay h fun k hk => g.block k (h.lt k hk).2 (by intro e; have := (h.lt k hk).1; cases e; omega)
set_option maxRecDepth 100000 in
set_option maxHeartbeats 8000000 in
theorem pieces_any (B b N : Nat) (w : World) (h : Cur B w b N) (hN : N ≤ 1152921504606840000) :
    Calls Try.prog 151 #[.pointer (some ⟨b, 0, none⟩)] w fun e w' => ∃ v, e = .returned v ∧ ∃ xs : List XEl, (xs.length ≤ 9 ∧ ∀ s ∈ xs, s.size ≤ 18) ∧ XOwn w.heap.size w'.heap.size w' v xs ∧ Cur B w' b (N + 1000) ∧ w.grownBy w' (some b) := by
  obtain ⟨i0, hi, hz0, hz1, hz2⟩ := info_parts info_u8
  have hbw := rtcur_lt h
  have hBb : B ≤ b := h.1
  have hBw : B ≤ w.heap.size := h.2.1
  have H := hid h
  clear h
  go_enter Try.func151, Try.ntmps151
  go_wp2_with fail
  refine (pick_any B b _ 6 _ H.out (by omega) (by omega)).mono ?_
  rintro e w1 ⟨r1, hr1, rfl, c1, g1⟩
  have C1 := hid c1; have G1 := hid g1; clear c1 g1 H
  go_wp2_with fail
  refine (pick_any B b _ 6 _ C1.out (by omega) (by omega)).mono ?_
  rintro e w2 ⟨r2, hr2, rfl, c2, g2⟩
  have C2 := hid c2; have G2 := hid (only_trans G1.out g2); clear c2 g2 C1 G1
  obtain ⟨r3, hr3⟩ : ∃ r3, 1 + r2 = r3 := ⟨_, rfl⟩
  have e1 : (1 : Int) + (r2 : Int) = (r3 : Nat) := by rw [← hr3]; simp
  have e2 : IntKind.i64.wrap (r3 : Int) = (r3 : Nat) := by rw [IntKind.wrap_i64]; omega
  go_wp2_with fail
  refine (one_any B b _ 20 _ C2.out (by omega) (by omega)).mono ?_
  rintro e w3 ⟨t3, rfl, c3, g3⟩
  have C3 := hid c3; have G3 := hid (only_trans G2.out g3); clear c3 g3 C2 G2 e1 e2
  cases t3
  case' false =>
    obtain ⟨L, hL, hL17⟩ : ∃ L : Nat, r1 = L ∧ L ≤ 17 := ⟨_, rfl, by omega⟩
    obtain ⟨M, hM, hM9⟩ : ∃ M : Nat, r3 = M ∧ M ≤ 9 := ⟨_, rfl, by omega⟩
    rw [hL, hM]
    replace C3 := hid (C3.out.mono (show _ ≤ N + 20 by omega))
    clear hL hM hr1 hr2 hr3
  case' true =>
    clear hr1 hr2 hr3
    have G4 := hid (only_trans G3.out (World.grownBy_alloc w3 (.cells #[.int .i64 16, .int .i64 17] 3) (some b)))
    have hs3 := G3.out.size
    go_wp2_with fail
    refine (among_in12 (fun z => 0 ≤ z ∧ z ≤ 17) B b _ w3.heap.size 2 2 _ (C3.out.below ((Below.refl _ _).alloc (Nat.le_refl _) _)) (by omega) (by omega) (lit_in12 _ w3 [16, 17] _ (by decide)) (by omega) (by omega)).mono ?_
    rintro e wa ⟨z1, hq1, rfl, c1, g1⟩
    have CA := hid c1; have GA := hid (only_trans G4.out g1); have hsa := g1.size; clear c1 g1 C3 G3 G4
    have hsa2 : w.heap.size ≤ wa.heap.size := GA.out.size
    obtain ⟨L, rfl⟩ := Int.eq_ofNat_of_zero_le hq1.1
    have hL17 : L ≤ 17 := by omega
    have G5 := hid (only_trans GA.out (World.grownBy_alloc wa (.cells #[.int .i64 0, .int .i64 7, .int .i64 8, .int .i64 9] 3) (some b)))
    clear hs3 hsa
    go_wp2_with fail
    refine (among_in12 (fun z => 0 ≤ z ∧ z ≤ 9) B b _ wa.heap.size 4 4 _ (CA.out.below ((Below.refl _ _).alloc (Nat.le_refl _) _)) (by omega) (by omega) (lit_in12 _ wa [0, 7, 8, 9] _ (by decide)) (by omega) (by omega)).mono ?_
    rintro e w3 ⟨z2, hq2, rfl, c1, g1⟩
    have C3 := hid (c1.mono (show _ ≤ N + 20 by omega)); have G3 := hid (only_trans G5.out g1); clear c1 g1 CA GA G5 hsa2
    obtain ⟨M, rfl⟩ := Int.eq_ofNat_of_zero_le hq2.1
    have hM9 : M ≤ 9 := by omega
    clear hq1 hq2
  all_goals
    go_wp2
    go_loopw [3, 5] (fun lv nv wr => ∃ (m : Nat) (xs : List XEl), nv = .int .i64 (m : Nat) ∧ m + xs.length = M ∧ (∀ s ∈ xs, s.size = L) ∧ wr.ownsRow w.heap.size 9 1 lv xs.length (xflat xs) ∧ Cur B wr b (N + 20 + 40 * xs.length) ∧ w.grownBy wr (some b)) (fun _ nv _ => (intOf nv).toNat)
    case atStart => exact ⟨M, [], rfl, by simp, by simp, World.ownsRow_nil _ _ _ _, C3.out, G3.out⟩
    case round =>
      obtain ⟨m, xs, rfl, hmx, hsz, hown, hcur, hgr⟩ := hrel
      have HZ := hid hsz; have HO := hid hown; have HC := hid hcur; have HG := hid hgr; have HMX := hid hmx
      have hxl : xs.length ≤ 9 := by omega
      have hwr := hgr.size
      clear hsz hown hcur hgr C3 G3
      by_cases hm : 0 < m
      · have hmi : (0 : Int) < (m : Int) := by omega
        have m1 : IntKind.i64.wrap ((m : Int) - 1) = ((m - 1 : Nat) : Int) := by rw [IntKind.wrap_i64]; omega
        have hm' : m - 1 + 1 = m := by omega
        clear hmx
        go_wp2_with (at_make; refine wpList_make_row _ rfl _ _ 22 rfl 5 i0 (.int .u8 0) Try.underlying22 hi hz0 hz1 rfl .i64 .i64 L rfl rfl (by rw [hz2]; omega) (by omega) ?_)
        have hrow0 := hid (World.rowIs_made wr (.int .u8 0) L 5)
        have O1 := hid (HO.out.alloc (.cells (madeCells #[.int .u8 0] L) 5))
        have C1 := hid (HC.out.below ((Below.refl _ _).alloc (Nat.le_refl _) (.cells (madeCells #[.int .u8 0] L) 5)))
        have G1 := hid (only_trans HG.out (World.grownBy_alloc wr (.cells (madeCells #[.int .u8 0] L) 5) (some b)))
        obtain ⟨q, hq⟩ : ∃ q, wr.heap.size = q := ⟨_, rfl⟩
        have HLT := hid HO.out.lt
        rw [hq] at hrow0 hwr HLT ⊢
        clear hq HO HC HG
        go_loopw [29] (fun i wr' => ∃ (p : Nat) (l : List UInt8), p ≤ L ∧ i = .int .i64 (p : Nat) ∧ l.length = L ∧ wr'.rowIs q 5 L (fun j => .int .u8 ((l.getD j 0).toNat : Nat)) ∧ wr'.ownsRow w.heap.size 9 1 u3 xs.length (xflat xs) ∧ Cur B wr' b (N + 20 + 40 * xs.length + 2 * p) ∧ w.grownBy wr' (some b)) (fun i _ => L - (intOf i).toNat)
        case atStart =>
          exact ⟨0, List.replicate L 0, Nat.zero_le _, rfl, by simp, hrow0.out.congr fun j hj => by simp [List.getD_eq_getElem?_getD, hj], O1.out, C1.out, G1.out⟩
        case round =>
          clear hrow0 O1 C1 G1
          obtain ⟨p, l, hp, rfl, hl, hrow, hown, hcur, hgr⟩ := hrel
          have HR := hid hrow; have HO := hid hown; have HC := hid hcur; have HG := hid hgr; have HL := hid hl
          clear hrow hown hcur hgr hl
          by_cases hlt : p < L
          · have hltd : (p : Int) < (L : Int) := by omega
            go_wp2_with fail
            refine (pick_any B b _ 256 _ HC.out (by omega) (by omega)).mono ?_
            rintro e w5 ⟨x, hx256, rfl, c5, g5⟩
            have R5 := hid (HR.out.of_block (g5.block _ HR.out.lt (by intro e; cases e; omega)))
            have O5 := hid (xowns_far HO.out g5 hbw)
            have C5 := hid c5; have G5 := hid (only_trans HG.out g5)
            have hx : x ≤ 255 := by omega
            clear c5 g5 HR HO HC HG hx256
            have f3 : IntKind.u8.wrap (x : Int) = (x : Nat) := by rw [IntKind.wrap_u8]; omega
            have c0 := R5.out.cell (i := p) hlt
            have f0 := R5.out.frozen p
            generalize ((l.getD p 0).toNat : Nat) = y at c0
            have HS : Hid ((w5.setCell ⟨q, p, none⟩ (.int .u8 (x : Nat))).rowIs q 5 L (fun j => .int .u8 (((l.set p (UInt8.ofNat x)).getD j 0).toNat : Nat))) := (R5.out.set p (.int .u8 (x : Nat))).congr fun j hj => by
              rw [set_getD l p j _ (by rw [HL.out]; exact hlt)]
              by_cases e : j = p
              · rw [if_pos e, if_pos e]
                have : (UInt8.ofNat x).toNat = x := by simp; omega
                rw [this]
              · rw [if_neg e, if_neg e]
            have B5 : Hid (Below w.heap.size w5 (w5.setCell ⟨q, p, none⟩ (.int .u8 (x : Nat)))) := (Below.refl w.heap.size w5).setCell (by show w.heap.size ≤ q; exact hwr) _
            have C6 := hid ((C5.out.mono (show N + 20 + 40 * xs.length + 2 * p + 2 ≤ N + 20 + 40 * xs.length + 2 * (p + 1) by omega)).under hbw hBw B5.out)
            have G6 := hid (only_then G5.out B5.out)
            have O6 : Hid ((w5.setCell ⟨q, p, none⟩ (.int .u8 (x : Nat))).ownsRow w.heap.size 9 1 u3 xs.length (xflat xs)) := xowns_stay O5.out fun g e => Below.heap_setCell _ _ _ _ (by have := (HLT.out g e).2; show g ≠ q; omega)
            clear R5 C5 G5 O5
            go_wp2
            go_roundw
            case rel => exact ⟨p + 1, l.set p (UInt8.ofNat x), by omega, by go_num, by rw [List.length_set]; exact HL.out, HS.out, O6.out, C6.out, G6.out⟩
            case measure => simp [intOf]; omega
          · obtain rfl : p = L := by omega
            have hconv := conv_row wr q p l (fun j hj => HR.out.cell (by rw [← HL.out]; exact hj))
            rw [HL.out] at hconv
            have hsz : (⟨l.toArray⟩ : ByteArray).size = p := by show l.toArray.size = _; simp [HL.out]
            obtain ⟨X, hX⟩ : ∃ X : ByteArray, X = ⟨l.toArray⟩ := ⟨_, rfl⟩
            rw [← hX] at hconv hsz
            have HXS := hid hsz
            have hsw := HG.out.size
            clear hsz hX HR
            go_wp2_with (at_builtin; refine wpList_append_xreads _ rfl _ _ rfl w.heap.size _ _ _ rfl (HO.out.alloc _) _ [X] rfl (xreads_one _ _) (by simp; omega) (by simp; omega) ?_)
            intro v' w6 hown hgrow _
            have O7 : Hid (w6.ownsRow w.heap.size 9 1 v' (xs ++ [X]).length (xflat (xs ++ [X]))) := by
              show World.ownsRow _ _ _ _ _ _ _
              rw [List.length_append]
              exact hown
            have B7 : Hid (Below w.heap.size wr w6) := ((Below.refl w.heap.size wr).alloc hsw _).grown hgrow (by simp; omega) (by intro k hk; exact (HO.out.lt k hk).1)
            have C7 := hid ((HC.out.mono (show N + 20 + 40 * xs.length + 2 * p ≤ N + 20 + 40 * (xs ++ [X]).length by rw [List.length_append, List.length_singleton]; omega)).under hbw hBw B7.out)
            have G7 := hid (only_then HG.out B7.out)
            have HZ7 : Hid (∀ s ∈ xs ++ [X], s.size = p) := fun s hs => by
              rcases List.mem_append.1 hs with h | h
              · exact HZ.out s h
              · rw [List.mem_singleton.1 h]; exact HXS.out
            clear hown hgrow HO HC HG
            go_wp2
            go_roundw
            case rel => exact ⟨m - 1, xs ++ [X], by go_num, by rw [List.length_append, List.length_singleton]; have := HMX.out; omega, HZ7.out, O7.out, C7.out, G7.out⟩
            case measure => simp [intOf]; omega
      · obtain rfl : m = 0 := by omega
        obtain ⟨ua, uc, rfl⟩ : ∃ a c, u3 = .slice a xs.length c := by
          rcases HO.out.2 with ⟨h, h0⟩ | ⟨g, c, _, h, _⟩
          · exact ⟨none, 0, by rw [h, h0]⟩
          · exact ⟨_, _, h⟩
        have XO := hid (XOwn.of_owns HO.out (by omega))
        clear HO
        by_cases hx1 : 1 < xs.length
        · have hx1i : (1 : Int) < (xs.length : Int) := by omega
          go_wp2_with fail
          refine (one_any B b _ 20 _ HC.out (by omega) (by omega)).mono ?_
          rintro e w4 ⟨t4, rfl, c4, g4⟩
          have X4 := hid (XO.out.at (w' := w4) fun g' h1 h2 h3 => g4.block g' h3 (by intro e; cases e; omega))
          have C4 := hid (c4.mono (show _ ≤ N + 1000 by omega)); have G4 := hid (only_trans HG.out g4); have hs4 := g4.size; clear c4 g4 XO HC HG
          cases t4
          · go_wp2
            go_ret
            exact ⟨_, rfl, xs, ⟨hxl, fun s hs => by rw [HZ.out s hs]; omega⟩, X4.out.mono (Nat.le_refl _) hs4, C4.out, G4.out⟩
          · obtain ⟨g, o, cap', e, _⟩ := X4.out.reads.cells 1 hx1
            obtain rfl : o = 0 := by
              rcases X4.out.2 with ⟨a, c, e', e0⟩ | ⟨g', c, e', _⟩
              · rw [e0] at hx1; simp at hx1
              · rw [e] at e'; cases e'; rfl
            cases e
            obtain ⟨y, hy⟩ : ∃ y, y = xs.getD 1 xz ++ ⟨#[120]⟩ := ⟨_, rfl⟩
            obtain ⟨hset, hgg, fi, di⟩ := X4.out.set 1 y hx1
            unfold XFree at fi
            unfold XCells at di
            have B5 : Hid (Below w.heap.size w4 (w4.setCell ⟨g, 1, none⟩ (.string y))) := (Below.refl w.heap.size w4).setCell hgg.1 _
            have C5 := hid (C4.out.under hbw hBw B5.out)
            have G5 := hid (only_then G4.out B5.out)
            have HSET := hid hset
            have HYS : Hid (∀ s ∈ xs.set 1 y, s.size ≤ 18) := fun s hs => by
              rcases List.mem_or_eq_of_mem_set hs with h | h
              · rw [HZ.out s h]; omega
              · rw [h, hy, ByteArray.size_append]
                have h1 := HZ.out (xs.getD 1 xz) (by simp [List.getD_eq_getElem?_getD, hx1])
                have h2 : (⟨#[120]⟩ : ByteArray).size = 1 := rfl
                omega
            have HLS : Hid (xs.length = (xs.set 1 y).length) := by show _ = _; simp
            obtain ⟨s1, hs1⟩ : ∃ s1, xs.getD 1 xz = s1 := ⟨_, rfl⟩
            rw [hs1] at hy di
            have hs5 : (w4.setCell ⟨g, 1, none⟩ (.string y)).heap.size = w4.heap.size := by simp [World.setCell]
            have hz1s : s1.size ≤ 17 := by rw [← hs1, HZ.out (xs.getD 1 xz) (by simp [List.getD_eq_getElem?_getD, hx1])]; exact hL17
            have hadd := run_string_add_sum (P := Try.prog) w4 s1 ⟨#[120]⟩ (by show s1.size + 1 ≤ _; omega)
            rw [← hy] at hadd
            clear hset hs1 X4 C4 G4 hy hz1s
            go_wp2
            go_ret
            exact ⟨_, rfl, xs.set 1 y, ⟨by rw [List.length_set]; exact hxl, HYS.out⟩, HSET.out.mono (Nat.le_refl _) (by omega), C5.out, G5.out⟩
        · have hx1i : ¬ (1 : Int) < (xs.length : Int) := by omega
          go_wp2
          go_ret
          exact ⟨_, rfl, xs, ⟨hxl, fun s hs => by rw [HZ.out s hs]; omega⟩, XO.out, HC.out.mono (by omega), HG.out⟩
end Go.Proofs.Ytijojdempijhbad
