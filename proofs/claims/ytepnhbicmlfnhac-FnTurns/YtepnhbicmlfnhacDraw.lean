/-
  What the cursor's pick, one, among and number answer: some number, some truth, one of a list; each writes into the cursor alone.
  The cursor's quanta, spec.DrawNewTurns: whatever they are, one at least, few, in memory of their own; of old memory the cursor alone is written.
-/
import Derived.Test.YtepnhbicmlfnhacBits
import Derived.Laws.IdiomStrings
import Derived.Test.YtepnhbicmlfnhacKAppN
namespace Go.Proofs.Ytepnhbicmlfnhac
open Go.RowKit

set_option maxHeartbeats 1000000 in
theorem pick_any (B b N : Nat) (n : Int) (w : World) (h : Cur B w b N) (hN : N ≤ 1152921504606846974) (hn : n ≤ 1152921504606846975) :
    Calls Try.prog 73 #[.pointer (some ⟨b, 0, none⟩), .int .i64 n] w fun e w' => ∃ r : Nat, (r = 0 ∨ (r : Int) < n) ∧ e = .returned (.int .i64 r) ∧ Cur B w' b (N + 2) ∧ w.grownBy w' (some b) := by
  have H := hid h
  clear h
  by_cases h1 : n ≤ 1
  · go_enter Try.func73, Try.ntmps73
    go_wp2
    go_ret
    exact ⟨0, .inl rfl, rfl, H.out.mono (by omega), only_refl _ _⟩
  have hne : (n == 0) = false := by rw [beq_eq_false_iff_ne]; omega
  by_cases h2 : (200 : Int) < n
  · go_enter Try.func73, Try.ntmps73
    go_wp2_with fail
    refine (next_any B b N _ H.out (by omega)).mono ?_
    rintro e w1 ⟨x, hx, rfl, c1, g1⟩
    have C1 := hid c1; have G1 := hid g1; clear c1 g1
    go_wp2_with fail
    refine (next_any B b (N + 1) _ C1.out (by omega)).mono ?_
    rintro e w2 ⟨y, hy, rfl, c2, g2⟩
    have C2 := hid c2; have G2 := hid g2; clear c2 g2
    go_wp2
    go_ret
    obtain ⟨m, rfl⟩ := Int.eq_ofNat_of_zero_le (show 0 ≤ n by omega)
    refine ⟨(x * 256 + y) % m, .inr ?_, ?_, C2.out, only_trans G1.out G2.out⟩
    · have := Nat.mod_lt (x * 256 + y) (show 0 < m by omega); omega
    · exact congrArg (fun z => Ending.returned (.int .i64 z)) (by simp)
  · go_enter Try.func73, Try.ntmps73
    go_wp2_with fail
    refine (next_any B b N _ H.out (by omega)).mono ?_
    rintro e w1 ⟨x, hx, rfl, c1, g1⟩
    have C1 := hid c1; have G1 := hid g1; clear c1 g1
    go_wp2
    go_ret
    obtain ⟨m, rfl⟩ := Int.eq_ofNat_of_zero_le (show 0 ≤ n by omega)
    refine ⟨x % m, .inr ?_, ?_, C1.out.mono (by omega), G1.out⟩
    · have := Nat.mod_lt x (show 0 < m by omega); omega
    · exact congrArg (fun z => Ending.returned (.int .i64 z)) (by simp)

theorem one_any (B b N : Nat) (n : Int) (w : World) (h : Cur B w b N) (hN : N ≤ 1152921504606846974) (hn : n ≤ 1152921504606846975) :
    Calls Try.prog 76 #[.pointer (some ⟨b, 0, none⟩), .int .i64 n] w fun e w' => ∃ t : Bool, e = .returned (.bool t) ∧ Cur B w' b (N + 2) ∧ w.grownBy w' (some b) := by
  have H := hid h
  clear h
  go_enter Try.func76, Try.ntmps76
  go_wp2_with (go_at_call 73; refine (pick_any B b N n _ H.out hN hn).mono ?_; rintro e w1 ⟨r, hr, rfl, c1, g1⟩; have C1 := hid c1; have G1 := hid g1; have HR := hid hr; clear c1 g1 hr)
  go_ret
  exact ⟨_, rfl, C1.out, G1.out⟩

/-- A list of numbers in a block of its own. -/
def Lit64 (w : World) (g n : Nat) : Prop := ∀ i, i < n → ∃ z : Int, w.cell? ⟨g, i, none⟩ = some (.int .i64 z)
theorem lit_new (w : World) (zs : List Int) (T : TypeId) : Lit64 (w.alloc (.cells (zs.map (Value.int .i64)).toArray T)) w.heap.size zs.length := fun i hi => by
  refine ⟨zs[i], ?_⟩
  rw [World.cell?_alloc_mark]
  simp [hi]

set_option maxHeartbeats 1000000 in
theorem among_any (B b N g n : Nat) (cap : Nat) (w : World) (h : Cur B w b N) (hN : N ≤ 1152921504606846974) (hg : g ≠ b) (hl : Lit64 w g n) (h0 : 0 < n) (hn : n ≤ 1000) :
    Calls Try.prog 80 #[.pointer (some ⟨b, 0, none⟩), .slice (some ⟨g, 0, none⟩) n cap] w fun e w' => ∃ z : Int, e = .returned (.int .i64 z) ∧ Cur B w' b (N + 2) ∧ w.grownBy w' (some b) := by
  have H := hid h
  have HL := hid hl
  clear h hl
  go_enter Try.func80, Try.ntmps80
  go_wp2_with fail
  refine (pick_any B b N n _ H.out hN (by omega)).mono ?_
  rintro e w1 ⟨r, hr, rfl, c1, g1⟩
  have hrn : r < n := by omega
  obtain ⟨z, hz⟩ := HL.out r hrn
  have hz1 : w1.cell? ⟨g, r, none⟩ = some (.int .i64 z) := g1.cell hz (by simpa using hg)
  have C1 := hid c1; have G1 := hid g1; clear c1 g1 hr hz
  go_wp2
  go_ret
  exact ⟨z, rfl, C1.out, G1.out⟩
theorem cur_new (w : World) (v : Value) (h : CodeOk w.heap.size w v) : Cur w.heap.size (w.alloc (.cells #[v, .int .i64 0, .int .u64 0] 85)) w.heap.size 0 := by
  have hb : Below w.heap.size w (w.alloc (.cells #[v, .int .i64 0, .int .u64 0] 85)) := (Below.refl _ _).alloc (Nat.le_refl _) _
  refine ⟨Nat.le_refl _, hb.size, v, fun i => (#[v, .int .i64 0, .int .u64 0] : Array Value).getD i undef, 0, 0, World.rowIs_alloc w _ _ _ (fun i hi => ?_), rfl, rfl, rfl, Nat.le_refl _, by decide, h.below hb⟩
  rcases (show i = 0 ∨ i = 1 ∨ i = 2 from by simp at hi; omega) with rfl | rfl | rfl <;> rfl
end Go.Proofs.Ytepnhbicmlfnhac
namespace Go.Proofs.Ytepnhbicmlfnhac
open Go.RowKit

theorem qnowns_cur {w w' : World} {base : Nat} {t : TypeId} {n b : Nat} {v : Value} {cs : List Value} (h : w.ownsRow base t 1 v n cs) (hg : w.grownBy w' (some b)) (hb : b < base) : w'.ownsRow base t 1 v n cs :=
  owns_stay h fun g e => hg.block g (h.lt g e).2 (by intro e'; cases e'; have := (h.lt _ e).1; omega)
theorem qncur_lt {B b N : Nat} {w : World} (h : Cur B w b N) : b < w.heap.size := by
  obtain ⟨_, _, v, f, at_, sd, hr, _⟩ := h
  exact hr.lt
set_option maxRecDepth 100000 in
set_option maxHeartbeats 4000000 in
theorem quanta_any (B b N : Nat) (w : World) (h : Cur B w b N) (hN : N ≤ 1152921504606840000) :
    Calls Try.prog 98 #[.pointer (some ⟨b, 0, none⟩)] w fun e w' => ∃ v, e = .returned v ∧ ∃ xs : List Int, xs.length ≤ 6 ∧ KOwn w.heap.size w'.heap.size w' v xs ∧ Cur B w' b (N + 100) ∧ w.grownBy w' (some b) := by
  have hbw := qncur_lt h
  have hBb : B ≤ b := h.1
  have H := hid h
  clear h
  go_enter Try.func98, Try.ntmps98
  go_wp2_with fail
  refine (pick_any B b N 4 w H.out (by omega) (by omega)).mono ?_
  rintro e w1 ⟨r1, hr1, rfl, c1, g1⟩
  have C1 := hid c1; have G1 := hid g1; clear c1 g1 H
  obtain ⟨m, hm, hm6, hm1⟩ : ∃ m : Nat, IntKind.i64.wrap (1 + (r1 : Int)) = (m : Int) ∧ m ≤ 6 ∧ 1 ≤ m := ⟨1 + r1, by rw [IntKind.wrap_i64]; omega, by omega, by omega⟩
  clear hr1
  go_wp2
  go_loopw [3, 4] (fun l n wr => ∃ (k j : Nat) (xs : List Int), n = .int .i64 j ∧ (k + j ≤ 6 ∧ 1 ≤ k + j) ∧ xs.length = k ∧ wr.ownsRow w.heap.size 3 1 l k (kflat xs) ∧ Cur B wr b (N + 6 + 4 * k) ∧ w.grownBy wr (some b)) (fun _ n _ => (intOf n).toNat)
  case atStart => exact ⟨0, m, [], rfl, by omega, rfl, World.ownsRow_nil _ _ _ _, C1.out.mono (by omega), G1.out⟩
  case round =>
    obtain ⟨k, j, xs, rfl, hkj, hxk, hown, hcur, hgr⟩ := hrel
    have HO := hid hown; have HC := hid hcur; have HG := hid hgr
    have HXK := hid hxk
    clear hown hcur hgr hxk
    by_cases hj : 0 < j
    · have hsr : w.heap.size ≤ wr.heap.size := HG.out.size
      go_wp2_with fail
      refine (pick_any B b (N + 6 + 4 * k) 30 _ HC.out (by omega) (by omega)).mono ?_
      rintro e w4 ⟨r4, hr4, rfl, c4, g4⟩
      obtain ⟨z4, hz4⟩ : ∃ z : Int, IntKind.i64.wrap (20 + (r4 : Int)) = z := ⟨_, rfl⟩
      have O4 : Hid (w4.ownsRow w.heap.size 3 1 u3 k (kflat xs)) := qnowns_cur HO.out g4 hbw
      have C4 := hid c4; have G4 := hid (only_trans HG.out g4)
      have hs4' : w.heap.size ≤ w4.heap.size := by have := g4.size; omega
      clear c4 g4 HO HC HG hr4
      go_wp2_with (at_builtin; refine wpList_append_reads _ rfl _ _ rfl w.heap.size _ _ _ rfl (O4.out.alloc _) _ [z4] rfl (kreads_int _ _) (by simp; omega) (by simp; omega) ?_)
      intro v6 w6 hown6 hgr6 _
      have B6 : Hid (Below w.heap.size w4 w6) := ((Below.refl _ _).alloc hs4' _).grown hgr6 (by simp; omega) (fun m hm => (O4.out.lt m hm).1)
      have O6 : Hid (w6.ownsRow w.heap.size 3 1 v6 (k + 1) (kflat (xs ++ [z4]))) := hown6
      have C6 := hid (C4.out.under hbw (by omega) B6.out)
      have G6 := hid (only_then G4.out B6.out)
      clear hown6 hgr6 C4 G4 O4
      go_wp2
      go_roundw
      case rel => exact ⟨k + 1, j - 1, xs ++ [z4], by go_num, by omega, by rw [List.length_append, HXK.out]; rfl, O6.out, C6.out.mono (by omega), G6.out⟩
      case measure => simp [intOf]; omega
    · obtain rfl : j = 0 := by omega
      have hl6 : Hid (xs.length ≤ 6) := by show _ ≤ _; rw [HXK.out]; omega
      have HS := hid (KOwn.of_owns HO.out (by rw [HXK.out]; omega))
      have hk0 : k ≠ 0 := by omega
      obtain ⟨g, cg, rfl⟩ : ∃ g c, u3 = .slice (some ⟨g, 0, none⟩) k c := by
        rcases HO.out.2 with ⟨_, h⟩ | ⟨g, c, _, h, _⟩
        · exact absurd h hk0
        · exact ⟨g, c, h⟩
      have hpos : (0 : Int) < (k : Int) := by omega
      have hposn : 0 < k := by omega
      have hk6 : k ≤ 6 := by omega
      clear HO hk0 hkj
      go_wp2_with fail
      refine (one_any B b _ 30 wr HC.out (by omega) (by omega)).mono ?_
      rintro e w8 ⟨t8, rfl, c8, g8⟩
      have S8 : Hid (KOwn w.heap.size wr.heap.size w8 (.slice (some ⟨g, 0, none⟩) k cg) xs) := HS.out.at fun g' h1 h2 _ => g8.block g' h2 (by intro e; cases e; omega)
      have C8 := hid (c8.mono (show _ ≤ N + 50 by omega)); have G8 := hid (only_trans HG.out g8)
      have hs8 := g8.size
      clear c8 g8 HC HG HS
      cases t8
      · go_wp2
        go_ret
        exact ⟨_, rfl, xs, hl6.out, S8.out.mono (Nat.le_refl _) hs8, C8.out.mono (by omega), G8.out⟩
      · have hsw : w.heap.size ≤ w8.heap.size := G8.out.size
        go_wp2_with fail
        refine (among_any B b (N + 50) w8.heap.size 3 3 _ (C8.out.below ((Below.refl _ _).alloc (Nat.le_refl _) _)) (by omega) (by omega) (lit_new w8 [19, 100, 101] _) (by omega) (by omega)).mono ?_
        rintro e w9 ⟨z9, rfl, c9, g9⟩
        have S9 : Hid (KOwn w.heap.size wr.heap.size w9 (.slice (some ⟨g, 0, none⟩) k cg) xs) := S8.out.at fun g' h1 h2 h3 => (g9.block g' (by simp; omega) (by intro e; cases e; omega)).trans (Below.heap_alloc _ _ _ h3)
        have C9 := hid c9; have G9 := hid (only_trans (only_trans G8.out (World.grownBy_alloc _ _ _)) g9)
        have hs9 : w8.heap.size + 1 ≤ w9.heap.size := by have := g9.size; simpa using this
        clear c9 g9 C8 G8 S8
        have hset := KOwn.set (xs := xs) (by rw [HXK.out]; exact S9.out) 0 z9 (by rw [HXK.out]; exact hposn)
        rw [HXK.out] at hset
        obtain ⟨hset, hgg, f0, d0⟩ := hset
        have HSET := hid hset
        replace f0 : w9.frozen? ⟨g, 0, none⟩ = false := f0
        replace d0 : w9.cell? ⟨g, 0, none⟩ = some (.int .i64 (xs.getD 0 0)) := d0
        generalize xs.getD 0 0 = y0 at d0
        have B10 : Hid (Below w.heap.size w9 (w9.setCell ⟨g, 0, none⟩ (.int .i64 z9))) := (Below.refl w.heap.size w9).setCell hgg.1 _
        clear hset
        go_wp2
        go_ret
        exact ⟨_, rfl, xs.set 0 z9, by rw [List.length_set]; exact hl6.out, HSET.out.mono (Nat.le_refl _) (by simp [World.setCell]; omega), (C9.out.mono (by omega)).under hbw (by omega) B10.out, only_then G9.out B10.out⟩
set_option maxHeartbeats 2000000 in
theorem drawNewT_any (v : Value) (w : World) (h : CodeOk w.heap.size w v) :
    Calls Try.prog 45 #[v] w fun e w' => ∃ u, e = .returned u ∧ ∃ xs : List Int, KReads w' u xs ∧ Below w.heap.size w w' := by
  have H := hid (cur_new w v h)
  obtain ⟨a, len, cap, rfl, hlen, hx⟩ := h
  clear hlen hx
  go_enter Try.func45, Try.ntmps45
  go_wp2_with fail
  refine (quanta_any w.heap.size w.heap.size 0 _ H.out (by omega)).mono ?_
  rintro e w1 ⟨u, rfl, xs, _, o1, c1, g1⟩
  have G1 := hid g1; have O1 := hid o1.reads; clear c1 g1 H o1
  go_wp2
  go_ret
  exact ⟨_, rfl, xs, O1.out, ((Below.refl _ _).alloc (Nat.le_refl _) _).trans (only_below G1.out (Nat.le_refl _) (by simp))⟩
end Go.Proofs.Ytepnhbicmlfnhac
