/-
  spec.DrawLastArrival, spec.DrawArriveAll: few ways, a count for each, or how many, whatever they are. Nothing old is written.
-/
import Derived.Test.YtflhlinkolbbiaeDrawWy
import Derived.Test.YtflhlinkolbbiaeDrawAm
import Derived.Test.YtflhlinkolbbiaeKOne
import Derived.OwnWalk
namespace Go.Proofs.Ytflhlinkolbbiae
open Go.RowKit

theorem flowns_curW {w w' : World} {base : Nat} {t : TypeId} {n b : Nat} {v : Value} {cs : List Value} (h : w.ownsRow base t 1 v n cs) (hg : w.grownBy w' (some b)) (hb : b < base) : w'.ownsRow base t 1 v n cs :=
  owns_stay h fun g e => hg.block g (h.lt g e).2 (by intro e'; cases e'; have := (h.lt _ e).1; omega)
set_option maxRecDepth 100000 in
set_option maxHeartbeats 8000000 in
theorem drawLastA_any (v : Value) (w : World) (h : CodeOk w.heap.size w v) :
    Calls Try.prog 35 #[v] w fun e w' => ∃ u0 u1, e = .returned (.tuple #[u0, u1]) ∧ ∃ (xs : List WyEl) (gs : List Int), WyReads w' u0 xs ∧ KReads w' u1 gs ∧ Below w.heap.size w w' := by
  have H := hid (cur_new w v h)
  obtain ⟨a, len, cap, rfl, hlen, hx⟩ := h
  clear hlen hx
  go_enter Try.func35, Try.ntmps35
  go_wp2_with fail
  refine (ways_any w.heap.size w.heap.size 0 _ H.out (by omega)).mono ?_
  rintro e w1 ⟨ux, rfl, xs, hx10, o1, c1, g1⟩
  have O1 := hid o1
  have C1 := hid c1
  have G1 := hid g1
  have hs1 := g1.size
  rw [World.size_alloc] at hs1 o1
  have hbx : Hid (∀ W : World, w1.grownBy W (some w.heap.size) → WyReads W ux xs) := fun W hg => by
    refine (o1.at fun g' h1 h2 h3 => hg.block g' h3 (by intro e; cases e; omega)).reads
  have HX1 : Hid (WyReads w1 ux xs) := o1.reads
  obtain ⟨ax, cx, e1, _, _⟩ := o1.reads
  subst e1
  have HX10 := hid hx10
  clear o1 c1 g1 H hx10
  go_wp2
  go_loopw [6, 14] (fun l i wr => ∃ (k : Nat) (gs : List Int), k ≤ xs.length ∧ i = .int .i64 k ∧ gs.length = k ∧ wr.ownsRow w1.heap.size 3 1 l k (kflat gs) ∧ Cur w.heap.size wr w.heap.size (0 + 900 + 4 * k) ∧ w1.grownBy wr (some w.heap.size)) (fun _ i _ => xs.length - (intOf i).toNat)
  case atStart => exact ⟨0, [], Nat.zero_le _, rfl, rfl, World.ownsRow_nil _ _ _ _, C1.out.mono (by omega), by first | exact World.grownBy_refl _ _ | exact ⟨rfl, rfl, rfl, Nat.le_refl _, fun _ _ _ => rfl⟩⟩
  case round =>
    obtain ⟨k, gs, hk, rfl, hlen, hown, hcur, hgr⟩ := hrel
    have HL := hid hlen
    have HO := hid hown
    have HC := hid hcur
    have HG := hid hgr
    clear hlen hown hcur hgr
    have hsr := HG.out.size
    have hx10 := HX10.out
    by_cases hlt : k < xs.length
    · go_wp2_with fail
      refine (pick_any w.heap.size w.heap.size (0 + 900 + 4 * k) 8 wr HC.out (by omega) (by omega)).mono ?_
      rintro e w4 ⟨r4, hr4, rfl, c4, g4⟩
      have O4 : Hid (w4.ownsRow w1.heap.size 3 1 u6 k (kflat gs)) := flowns_curW HO.out g4 (by omega)
      have C4 := hid c4
      have G4 := hid (only_trans HG.out g4)
      have hs4 : wr.heap.size ≤ w4.heap.size := g4.size
      clear c4 g4 HO HC HG hr4
      have hs4' : w1.heap.size ≤ w4.heap.size := by omega
      go_wp2_with (at_builtin; refine wpList_append_reads _ rfl _ _ rfl w1.heap.size _ _ _ rfl (O4.out.alloc _) _ [(r4 : Int)] rfl (kreads_int _ _) (by simp; omega) (by simp; omega) ?_)
      intro v6 w6 hown6 hgr6 _
      have B6 : Hid (Below w1.heap.size w4 w6) := ((Below.refl _ _).alloc hs4' _).grown hgr6 (by simp; omega) (fun m hm => (O4.out.lt m hm).1)
      have O6 : Hid (w6.ownsRow w1.heap.size 3 1 v6 (k + 1) (kflat (gs ++ [(r4 : Int)]))) := hown6
      have C6 := hid (C4.out.under (show w.heap.size < w1.heap.size by omega) (by omega) (B6.out.mono (Nat.le_refl _)))
      have G6 := hid (only_then G4.out B6.out)
      clear hown6 hgr6 C4 G4 O4
      go_wp2
      go_roundw
      case rel => exact ⟨k + 1, gs ++ [(r4 : Int)], by omega, by go_num, by rw [List.length_append, HL.out]; rfl, O6.out, C6.out.mono (by omega), G6.out⟩
      case measure => simp [intOf]; omega
    · have hkx : k = xs.length := by omega
      have HS := hid (KOwn.of_owns HO.out (by rw [HL.out]; omega))
      have hk0 : ¬ k = 0 := by have := HX10.out.1; omega
      obtain ⟨g, cg, rfl⟩ : ∃ g c, u6 = .slice (some ⟨g, 0, none⟩) k c := by
        rcases HO.out.2 with ⟨_, h⟩ | ⟨g, c, _, h, _⟩
        · exact absurd h hk0
        · exact ⟨g, c, h⟩
      have hpos : (0 : Int) < (k : Int) := by omega
      have hposn : 0 < k := by omega
      have hown1 := HS.out
      clear HO hk0
      go_wp2_with fail
      refine (one_any w.heap.size w.heap.size _ 20 wr HC.out (by omega) (by omega)).mono ?_
      rintro e w8 ⟨t8, rfl, c8, g8⟩
      have S8 : Hid (KOwn w1.heap.size wr.heap.size w8 (.slice (some ⟨g, 0, none⟩) k cg) gs) := HS.out.at fun g' h1 h2 _ => g8.block g' h2 (by intro e; cases e; omega)
      have C8 := hid (c8.mono (show _ ≤ 1000 by omega)); have G8 := hid (only_trans HG.out g8)
      have hs8 := g8.size
      clear c8 g8 HC HG HS hown1
      cases t8
      · have RD : Hid (KReads w8 (.slice (some ⟨g, 0, none⟩) k cg) gs) := S8.out.reads
        have GT := hid (only_trans G1.out G8.out)
        have KX := hid (hbx.out _ G8.out)
        go_wp2
        go_ret2
        exact ⟨_, _, rfl, xs, gs, KX.out, (by have := RD.out; rw [hkx] at this; exact this), ((Below.refl _ _).alloc (Nat.le_refl _) _).trans (only_below GT.out (Nat.le_refl _) (by simp))⟩
      · go_wp2_with fail
        refine (among_any w.heap.size w.heap.size 1000 w8.heap.size 3 3 _ (C8.out.below ((Below.refl _ _).alloc (Nat.le_refl _) _)) (by omega) (by omega) (lit_new w8 [-1, 40, 41] _) (by omega) (by omega)).mono ?_
        rintro e w9 ⟨z9, rfl, c9, g9⟩
        have S9 : Hid (KOwn w1.heap.size wr.heap.size w9 (.slice (some ⟨g, 0, none⟩) k cg) gs) := S8.out.at fun g' h1 h2 h3 => (g9.block g' (by simp; omega) (by intro e; cases e; omega)).trans (Below.heap_alloc _ _ _ h3)
        have G9 := hid (only_trans (only_trans G8.out (World.grownBy_alloc _ _ _)) g9)
        have hs9 : w8.heap.size + 1 ≤ w9.heap.size := by have := g9.size; simpa using this
        clear c9 g9 C8 G8 S8
        have hset := KOwn.set (xs := gs) (by rw [HL.out]; exact S9.out) 0 z9 (by rw [HL.out]; exact hposn)
        rw [HL.out] at hset
        obtain ⟨hset, hgg, f0, d0⟩ := hset
        replace f0 : w9.frozen? ⟨g, 0, none⟩ = false := f0
        replace d0 : w9.cell? ⟨g, 0, none⟩ = some (.int .i64 (gs.getD 0 0)) := d0
        generalize gs.getD 0 0 = y0 at d0
        have B10 : Hid (Below w1.heap.size w9 (w9.setCell ⟨g, 0, none⟩ (.int .i64 z9))) := (Below.refl w1.heap.size w9).setCell hgg.1 _
        have G10 := hid (only_then G9.out B10.out)
        have RD : Hid (KReads (w9.setCell ⟨g, 0, none⟩ (.int .i64 z9)) (.slice (some ⟨g, 0, none⟩) k cg) (gs.set 0 z9)) := hset.reads
        have GT := hid (only_trans G1.out G10.out)
        have KX := hid (hbx.out _ G10.out)
        clear hset
        go_wp2
        go_ret2
        exact ⟨_, _, rfl, xs, gs.set 0 z9, KX.out, (by have := RD.out; rw [hkx] at this; exact this), ((Below.refl _ _).alloc (Nat.le_refl _) _).trans (only_below GT.out (Nat.le_refl _) (by simp))⟩
set_option maxRecDepth 100000 in
set_option maxHeartbeats 2000000 in
theorem drawArrA_any (v : Value) (w : World) (h : CodeOk w.heap.size w v) :
    Calls Try.prog 40 #[v] w fun e w' => ∃ u0 z, e = .returned (.tuple #[u0, .int .i64 z]) ∧ ∃ xs : List WyEl, WyReads w' u0 xs ∧ Below w.heap.size w w' := by
  have H := hid (cur_new w v h)
  obtain ⟨a, len, cap, rfl, hlen, hx⟩ := h
  clear hlen hx
  go_enter Try.func40, Try.ntmps40
  go_wp2_with fail
  refine (ways_any w.heap.size w.heap.size 0 _ H.out (by omega)).mono ?_
  rintro e w1 ⟨u1, rfl, xs, hx, o1, c1, g1⟩
  have O1 := hid (o1.mono (show w.heap.size + 1 ≤ _ by simp) (Nat.le_refl _)); have C1 := hid c1; have G1 := hid g1; have hs1 := g1.size
  rw [World.size_alloc] at hs1
  obtain ⟨ax, cx, e1, _, _⟩ := o1.reads
  subst e1
  clear o1 c1 g1 H
  go_wp2_with fail
  refine (among_any w.heap.size w.heap.size _ w1.heap.size 7 7 _ (C1.out.below ((Below.refl _ _).alloc (Nat.le_refl _) _)) (by omega) (by omega) (lit_new w1 [-1, 0, 1, 5, 12, 40, 41] _) (by omega) (by omega)).mono ?_
  rintro e w2 ⟨z2, rfl, c2, g2⟩
  have hs2 : w1.heap.size + 1 ≤ w2.heap.size := by have := g2.size; simpa using this
  have OX : Hid (WyReads w2 (.slice ax xs.length cx) xs) := (O1.out.at fun g' h1 h2 h3 => (g2.block g' (by simp; omega) (by intro e; cases e; omega)).trans (Below.heap_alloc _ _ _ h3)).reads
  have G2 := hid (only_trans (only_trans G1.out (World.grownBy_alloc _ _ _)) g2)
  clear c2 g2
  go_wp2
  go_ret2
  exact ⟨_, _, rfl, xs, OX.out, ((Below.refl _ _).alloc (Nat.le_refl _) _).trans (only_below G2.out (Nat.le_refl _) (by simp))⟩
end Go.Proofs.Ytflhlinkolbbiae
