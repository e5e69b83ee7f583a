/-
  What the cursor's pick, one, among and number answer: some number, some truth, one of a list; each writes into the cursor alone.
  One of some numbers that are written out: what is told of all of them. Of old memory the cursor alone is written.
  A span in a block of its own. Plain facts on the memory.
  The cursor's spans and span: whatever they are, few, in memory of their own; of old memory the cursor alone is written.
-/
import Derived.Test.YtnkpboobfkjibadBits
import Derived.Laws.IdiomStrings
import Derived.Test.YtnkpboobfkjibadSpans
import Derived.Test.YtnkpboobfkjibadRows2
namespace Go.Proofs.Ytnkpboobfkjibad
open Go.RowKit

set_option maxHeartbeats 1000000 in
theorem pick_any (B b N : Nat) (n : Int) (w : World) (h : Cur B w b N) (hN : N ≤ 1152921504606846974) (hn : n ≤ 1152921504606846975) :
    Calls Try.prog 113 #[.pointer (some ⟨b, 0, none⟩), .int .i64 n] w fun e w' => ∃ r : Nat, (r = 0 ∨ (r : Int) < n) ∧ e = .returned (.int .i64 r) ∧ Cur B w' b (N + 2) ∧ w.grownBy w' (some b) := by
  have H := hid h
  clear h
  by_cases h1 : n ≤ 1
  · go_enter Try.func113, Try.ntmps113
    go_wp2
    go_ret
    exact ⟨0, .inl rfl, rfl, H.out.mono (by omega), only_refl _ _⟩
  have hne : (n == 0) = false := by rw [beq_eq_false_iff_ne]; omega
  by_cases h2 : (200 : Int) < n
  · go_enter Try.func113, Try.ntmps113
    go_wp2_with fail
    refine (next_any B b N _ H.out (by omega)).mono ?_
    rintro e w1 ⟨x, hx, rfl, c1, g1⟩
    have C1 := hid c1; have G1 := hid g1; clear c1 g1
    go_wp2_with fail
    refine (next_any B b (N + 1) _ C1.out (by omega)).mono ?_
    rintro e w2 ⟨y, hy, rfl, c2, g2⟩
    have C2 := hid c2; have G2 := hid g2; clear c2 g2
    go_wp2
    go_ret
    obtain ⟨m, rfl⟩ := Int.eq_ofNat_of_zero_le (show 0 ≤ n by omega)
    refine ⟨(x * 256 + y) % m, .inr ?_, ?_, C2.out, only_trans G1.out G2.out⟩
    · have := Nat.mod_lt (x * 256 + y) (show 0 < m by omega); omega
    · exact congrArg (fun z => Ending.returned (.int .i64 z)) (by simp)
  · go_enter Try.func113, Try.ntmps113
    go_wp2_with fail
    refine (next_any B b N _ H.out (by omega)).mono ?_
    rintro e w1 ⟨x, hx, rfl, c1, g1⟩
    have C1 := hid c1; have G1 := hid g1; clear c1 g1
    go_wp2
    go_ret
    obtain ⟨m, rfl⟩ := Int.eq_ofNat_of_zero_le (show 0 ≤ n by omega)
    refine ⟨x % m, .inr ?_, ?_, C1.out.mono (by omega), G1.out⟩
    · have := Nat.mod_lt x (show 0 < m by omega); omega
    · exact congrArg (fun z => Ending.returned (.int .i64 z)) (by simp)

theorem one_any (B b N : Nat) (n : Int) (w : World) (h : Cur B w b N) (hN : N ≤ 1152921504606846974) (hn : n ≤ 1152921504606846975) :
    Calls Try.prog 104 #[.pointer (some ⟨b, 0, none⟩), .int .i64 n] w fun e w' => ∃ t : Bool, e = .returned (.bool t) ∧ Cur B w' b (N + 2) ∧ w.grownBy w' (some b) := by
  have H := hid h
  clear h
  go_enter Try.func104, Try.ntmps104
  go_wp2_with (go_at_call 113; refine (pick_any B b N n _ H.out hN hn).mono ?_; rintro e w1 ⟨r, hr, rfl, c1, g1⟩; have C1 := hid c1; have G1 := hid g1; have HR := hid hr; clear c1 g1 hr)
  go_ret
  exact ⟨_, rfl, C1.out, G1.out⟩

/-- A list of numbers in a block of its own. -/
def Lit64 (w : World) (g n : Nat) : Prop := ∀ i, i < n → ∃ z : Int, w.cell? ⟨g, i, none⟩ = some (.int .i64 z)
theorem lit_new (w : World) (zs : List Int) (T : TypeId) : Lit64 (w.alloc (.cells (zs.map (Value.int .i64)).toArray T)) w.heap.size zs.length := fun i hi => by
  refine ⟨zs[i], ?_⟩
  rw [World.cell?_alloc_mark]
  simp [hi]

set_option maxHeartbeats 1000000 in
theorem among_any (B b N g n : Nat) (cap : Nat) (w : World) (h : Cur B w b N) (hN : N ≤ 1152921504606846974) (hg : g ≠ b) (hl : Lit64 w g n) (h0 : 0 < n) (hn : n ≤ 1000) :
    Calls Try.prog 105 #[.pointer (some ⟨b, 0, none⟩), .slice (some ⟨g, 0, none⟩) n cap] w fun e w' => ∃ z : Int, e = .returned (.int .i64 z) ∧ Cur B w' b (N + 2) ∧ w.grownBy w' (some b) := by
  have H := hid h
  have HL := hid hl
  clear h hl
  go_enter Try.func105, Try.ntmps105
  go_wp2_with fail
  refine (pick_any B b N n _ H.out hN (by omega)).mono ?_
  rintro e w1 ⟨r, hr, rfl, c1, g1⟩
  have hrn : r < n := by omega
  obtain ⟨z, hz⟩ := HL.out r hrn
  have hz1 : w1.cell? ⟨g, r, none⟩ = some (.int .i64 z) := g1.cell hz (by simpa using hg)
  have C1 := hid c1; have G1 := hid g1; clear c1 g1 hr hz
  go_wp2
  go_ret
  exact ⟨z, rfl, C1.out, G1.out⟩
theorem cur_new (w : World) (v : Value) (h : CodeOk w.heap.size w v) : Cur w.heap.size (w.alloc (.cells #[v, .int .i64 0, .int .u64 0] 109)) w.heap.size 0 := by
  have hb : Below w.heap.size w (w.alloc (.cells #[v, .int .i64 0, .int .u64 0] 109)) := (Below.refl _ _).alloc (Nat.le_refl _) _
  refine ⟨Nat.le_refl _, hb.size, v, fun i => (#[v, .int .i64 0, .int .u64 0] : Array Value).getD i undef, 0, 0, World.rowIs_alloc w _ _ _ (fun i hi => ?_), rfl, rfl, rfl, Nat.le_refl _, by decide, h.below hb⟩
  rcases (show i = 0 ∨ i = 1 ∨ i = 2 from by simp at hi; omega) with rfl | rfl | rfl <;> rfl
end Go.Proofs.Ytnkpboobfkjibad
namespace Go.Proofs.Ytnkpboobfkjibad
open Go.RowKit

theorem rtcur_lt {B b N : Nat} {w : World} (h : Cur B w b N) : b < w.heap.size := by
  obtain ⟨_, _, v, f, at_, sd, hr, _⟩ := h
  exact hr.lt
set_option maxHeartbeats 1000000 in
theorem among_in12 (Q : Int → Prop) (B b N g n : Nat) (cap : Nat) (w : World) (h : Cur B w b N) (hN : N ≤ 1152921504606846974) (hg : g ≠ b) (hl : ∀ i, i < n → ∃ z : Int, Q z ∧ w.cell? ⟨g, i, none⟩ = some (.int .i64 z)) (h0 : 0 < n) (hn : n ≤ 1000) :
    Calls Try.prog 105 #[.pointer (some ⟨b, 0, none⟩), .slice (some ⟨g, 0, none⟩) n cap] w fun e w' => ∃ z : Int, Q z ∧ e = .returned (.int .i64 z) ∧ Cur B w' b (N + 2) ∧ w.grownBy w' (some b) := by
  have H := hid h
  have HL := hid hl
  clear h hl
  go_enter Try.func105, Try.ntmps105
  go_wp2_with fail
  refine (pick_any B b N n _ H.out hN (by omega)).mono ?_
  rintro e w1 ⟨r, hr, rfl, c1, g1⟩
  have hrn : r < n := by omega
  obtain ⟨z, hq, hz⟩ := HL.out r hrn
  have hz1 : w1.cell? ⟨g, r, none⟩ = some (.int .i64 z) := g1.cell hz (by simpa using hg)
  have C1 := hid c1; have G1 := hid g1; have HQ := hid hq; clear c1 g1 hr hz hq
  go_wp2
  go_ret
  exact ⟨z, HQ.out, rfl, C1.out, G1.out⟩
theorem lit_in12 (Q : Int → Prop) (w : World) (zs : List Int) (T : TypeId) (hq : ∀ z ∈ zs, Q z) : ∀ i, i < zs.length → ∃ z : Int, Q z ∧ (w.alloc (.cells (zs.map (Value.int .i64)).toArray T)).cell? ⟨w.heap.size, i, none⟩ = some (.int .i64 z) := fun i hi => by
  refine ⟨zs[i], hq _ (List.getElem_mem hi), ?_⟩
  rw [World.cell?_alloc_mark]
  simp [hi]
theorem set_getD (l : List UInt8) (k j : Nat) (x : UInt8) (hk : k < l.length) : (l.set k x).getD j 0 = if j = k then x else l.getD j 0 := by
  by_cases e : j = k
  · subst e; rw [if_pos rfl]; simp [List.getD_eq_getElem?_getD, hk]
  · rw [if_neg e]; simp [List.getD_eq_getElem?_getD, Ne.symm e]
end Go.Proofs.Ytnkpboobfkjibad
namespace Go.Proofs.Ytnkpboobfkjibad
open Go.RowKit

/-- A span that lies in block H and may be written. -/
def XBox (w : World) (H : Nat) (p q : Int) : Prop := (w.cell? ⟨H, 0, none⟩ = some (.int .i64 p) ∧ w.cell? ⟨H, 1, none⟩ = some (.int .i64 q)) ∧ w.frozen? ⟨H, 0, none⟩ = false ∧ w.frozen? ⟨H, 1, none⟩ = false
theorem XBox.below {w w' : World} {H : Nat} {p q : Int} (h : XBox w H p q) (hb : Below (H + 1) w w') : XBox w' H p q := by
  have e := hb.block H (by omega)
  refine ⟨⟨?_, ?_⟩, ?_, ?_⟩
  · rw [World.cell?_of_block (a := ⟨H, 0, none⟩) e]; exact h.1.1
  · rw [World.cell?_of_block (a := ⟨H, 1, none⟩) e]; exact h.1.2
  · rw [World.frozen?_of_block (a := ⟨H, 0, none⟩) e]; exact h.2.1
  · rw [World.frozen?_of_block (a := ⟨H, 1, none⟩) e]; exact h.2.2
theorem XBox.set {w : World} {H : Nat} {p q : Int} (h : XBox w H p q) (p' q' : Int) : XBox ((w.setCell ⟨H, 0, none⟩ (.int .i64 p')).setCell ⟨H, 1, none⟩ (.int .i64 q')) H p' q' := by
  refine ⟨⟨?_, ?_⟩, by simpa using h.2.1, by simpa using h.2.2⟩
  · rw [World.cell?_setCell_other _ _ _ _ (by simp), World.cell?_setCell_same _ _ _ h.1.1]
  · rw [World.cell?_setCell_same _ _ _ (u := .int .i64 q) (by rw [World.cell?_setCell_other _ _ _ _ (by simp)]; exact h.1.2)]
theorem XBox.only {w w' : World} {H b : Nat} {p q : Int} (h : XBox w H p q) (hg : w.grownBy w' (some b)) (hb : H ≠ b) : XBox w' H p q := by
  have e := hg.block H (lt_of_cell h.1.1) (by intro e; cases e; omega)
  refine ⟨⟨?_, ?_⟩, ?_, ?_⟩
  · rw [World.cell?_of_block (a := ⟨H, 0, none⟩) e]; exact h.1.1
  · rw [World.cell?_of_block (a := ⟨H, 1, none⟩) e]; exact h.1.2
  · rw [World.frozen?_of_block (a := ⟨H, 0, none⟩) e]; exact h.2.1
  · rw [World.frozen?_of_block (a := ⟨H, 1, none⟩) e]; exact h.2.2
theorem XBox.new (w : World) (p q : Int) (t : TypeId) : XBox (w.alloc (.cells #[.int .i64 p, .int .i64 q] t)) w.heap.size p q := ⟨⟨by simp, by simp⟩, by simp, by simp⟩
theorem XBox.lt {w : World} {H : Nat} {p q : Int} (h : XBox w H p q) : H < w.heap.size := lt_of_cell h.1.1
end Go.Proofs.Ytnkpboobfkjibad
namespace Go.Proofs.Ytnkpboobfkjibad
open Go.RowKit
set_option maxRecDepth 100000

theorem owns_onlyS {w w' : World} {base : Nat} {t : TypeId} {size n b : Nat} {v : Value} {cs : List Value} (h : w.ownsRow base t size v n cs) (hg : w.grownBy w' (some b)) (hb : b < base) : w'.ownsRow base t size v n cs := by
  obtain ⟨h1, h2⟩ := h
  refine ⟨h1, ?_⟩
  rcases h2 with h | ⟨g, cap, cur, hv, hgb, hh, h⟩
  · exact .inl h
  · refine .inr ⟨g, cap, cur, hv, hgb, ?_, h⟩
    rw [hg.block g (Array.getElem?_eq_some_iff.1 hh).1 (by intro e; cases e; omega)]
    exact hh
theorem SOwn.only {base b : Nat} {w w' : World} {v : Value} {xs : List Sp} (h : SOwn base w v xs) (hg : w.grownBy w' (some b)) (hb : b < base) : SOwn base w' v xs := by
  obtain ⟨hl, h⟩ := h
  rcases h with h | ⟨g, cap, rfl, hgb, hf⟩
  · exact ⟨hl, .inl h⟩
  · refine ⟨hl, .inr ⟨g, cap, rfl, hgb, fun i hi => ?_⟩⟩
    have e := hg.block g (lt_of_cell (hf i hi).1.1) (by intro e; cases e; omega)
    refine ⟨⟨?_, ?_⟩, ?_, ?_⟩
    · rw [World.cell?_of_block (a := ⟨g, i * 2, none⟩) e]; exact (hf i hi).1.1
    · rw [World.cell?_of_block (a := ⟨g, i * 2 + 1, none⟩) e]; exact (hf i hi).1.2
    · rw [World.frozen?_of_block (a := ⟨g, i * 2, none⟩) e]; exact (hf i hi).2.1
    · rw [World.frozen?_of_block (a := ⟨g, i * 2 + 1, none⟩) e]; exact (hf i hi).2.2
theorem Cur.lt {B b N : Nat} {w : World} (h : Cur B w b N) : b < w.heap.size := by
  obtain ⟨_, _, v, f, at_, sd, hr, _⟩ := h
  exact hr.lt
theorem Cur.ge {B b N : Nat} {w : World} (h : Cur B w b N) : B ≤ b := h.1
/-- The end of the first one is written. -/
theorem SOwn.setTo0 {base g cap : Nat} {w : World} {x : Sp} {xs : List Sp} (h : SOwn base w (.slice (some ⟨g, 0, none⟩) (xs.length + 1) cap) (x :: xs)) :
    (∀ z, SOwn base (w.setCell ⟨g, 1, none⟩ (.int .i64 z)) (.slice (some ⟨g, 0, none⟩) (xs.length + 1) cap) ((x.1, z) :: xs)) ∧ base ≤ g ∧ w.frozen? ⟨g, 1, none⟩ = false ∧ w.cell? ⟨g, 1, none⟩ = some (.int .i64 x.2) := by
  obtain ⟨hl, h⟩ := h
  rcases h with ⟨a, _, h⟩ | ⟨g', cap', e, hg, hf⟩
  · cases h
  · cases e
    have h0 := hf 0 (by simp)
    refine ⟨fun z => ⟨by simpa using hl, .inr ⟨g, cap, by simp, by simpa using hg, fun j hj => ?_⟩⟩, hg.1, by simpa using h0.2.2, by simpa using h0.1.2⟩
    have hj' : j < (x :: xs).length := by simpa using hj
    refine ⟨⟨?_, ?_⟩, by simpa using (hf j hj').2⟩
    · rw [World.cell?_setCell_other _ _ _ _ (by simp <;> omega), (hf j hj').1.1]
      rcases j with _ | j <;> simp
    · rcases j with _ | j
      · rw [Nat.zero_mul, Nat.zero_add, World.cell?_setCell_same _ _ _ (u := .int .i64 x.2) (by simpa using h0.1.2)]
        simp
      · rw [World.cell?_setCell_other _ _ _ _ (by simp <;> omega), (hf (j + 1) hj').1.2]
        simp

set_option maxHeartbeats 4000000 in
theorem spans_any (B b N : Nat) (w : World) (h : Cur B w b N) (hN : N ≤ 1152921504606846000) :
    Calls Try.prog 114 #[.pointer (some ⟨b, 0, none⟩)] w fun e w' => ∃ v, e = .returned v ∧ ∃ xs : List Sp, xs.length ≤ 30 ∧ SOwn w.heap.size w' v xs ∧ Cur B w' b (N + 200) ∧ w.grownBy w' (some b) := by
  obtain ⟨i0, hi, hz0, hz1, hz2⟩ := info_parts info_span
  have hbw := h.lt
  have hBb := h.ge
  have H := hid h
  clear h
  go_enter Try.func114, Try.ntmps114
  go_wp2_with fail
  refine (pick_any B b N 6 w H.out (by omega) (by omega)).mono ?_
  rintro e w1 ⟨r1, hr1, rfl, c1, g1⟩
  have C1 := hid c1; have G1 := hid g1; clear c1 g1 H
  go_wp2_with fail
  refine (one_any B b (N + 2) 20 w1 C1.out (by omega) (by omega)).mono ?_
  rintro e w2 ⟨t2, rfl, c2, g2⟩
  have C2 := hid c2; have G2 := hid (only_trans G1.out g2); clear c2 g2 C1 G1
  cases t2
  case' true =>
    go_wp2_with fail
    refine (pick_any B b (N + 2 + 2) 3 w2 C2.out (by omega) (by omega)).mono ?_
    rintro e w3 ⟨r3, hr3, rfl, c3, g3⟩
    have C3 := hid (c3.mono (show N + 2 + 2 + 2 ≤ N + 6 by omega)); have G3 := hid (only_trans G2.out g3); clear c3 g3 C2 G2
    obtain ⟨m, hm, hm22⟩ : ∃ m : Nat, (19 + (r3 : Int)) = (m : Int) ∧ m ≤ 22 := ⟨19 + r3, by omega, by omega⟩
  case' false =>
    have C3 := hid (C2.out.mono (show N + 2 + 2 ≤ N + 6 by omega)); have G3 := G2; clear C2 G2
    obtain ⟨w3, hw3⟩ : ∃ w3, w3 = w2 := ⟨_, rfl⟩
    subst hw3
    obtain ⟨m, hm, hm22⟩ : ∃ m : Nat, (r1 : Int) = (m : Int) ∧ m ≤ 22 := ⟨r1, by omega, by omega⟩
  all_goals
    have HM := hid hm
    clear hm
    go_wp2_with fail
    refine (pick_any B b (N + 6) 4 w3 C3.out (by omega) (by omega)).mono ?_
    rintro e w4 ⟨r4, hr4, rfl, c4, g4⟩
    have C4 := hid c4; have G4 := hid (only_trans G3.out g4); clear c4 g4 C3 G3
    go_wp2
    go_loopw [3, 4, 5] (fun l n at' wr => ∃ (k j : Nat) (t : Int) (xs : List Sp), n = .int .i64 j ∧ at' = .int .i64 t ∧ 0 ≤ t ∧ t ≤ 4 + 12 * k ∧ k + j ≤ 22 ∧ xs.length = k ∧ wr.ownsRow w.heap.size 133 2 l k (flat xs) ∧ Cur B wr b (N + 8 + 4 * k) ∧ w.grownBy wr (some b)) (fun _ n _ _ => (intOf n).toNat)
    case atStart => exact ⟨0, m, r4, [], by rw [HM.out], rfl, by omega, by omega, by omega, rfl, owns_nil _ _ _, C4.out, G4.out⟩
    case round =>
      obtain ⟨k, j, t, xs, rfl, rfl, ht0, ht1, hkj, hxk, hown, hcur, hgr⟩ := hrel
      have HO := hid hown; have HC := hid hcur; have HG := hid hgr
      clear hown hcur hgr
      by_cases hj : 0 < j
      · go_wp2_with fail
        refine (pick_any B b (N + 8 + 4 * k) 5 wr HC.out (by omega) (by omega)).mono ?_
        rintro e w5 ⟨r5, hr5, rfl, c5, g5⟩
        have O5 := hid (owns_onlyS HO.out g5 hbw); have C5 := hid c5; have G5 := hid (only_trans HG.out g5); clear c5 g5 HO HC HG
        have hs5 : w.heap.size ≤ w5.heap.size := G5.out.size
        go_wp2_with (at_builtin; refine wpList_append_own _ rfl _ _ 47 rfl w.heap.size 133 i0 (.agg #[.int .i64 0, .int .i64 0]) 2 16 Try.underlying47 hi hz0 hz1 hz2 rfl (by decide) _ k (flat xs) rfl (O5.out.alloc _) ⟨w5.heap.size, 0, none⟩ 1 1 (flat [(t, t + 1 + r5)]) rfl rfl (pair_at (by simp) (by simp)) (flat_one _) (by unfold maxLen; omega) (by omega) (by simp; omega) ?_)
        intro v6 w6 hown6 hgr6 _
        have B6 : Hid (Below w.heap.size w5 w6) := ((Below.refl w.heap.size w5).alloc hs5 _).grown hgr6 (by simp; omega) (owns_block O5.out)
        have O6 : Hid (w6.ownsRow w.heap.size 133 2 v6 (k + 1) (flat (xs ++ [(t, t + 1 + r5)]))) := by
          have := hown6
          rw [← flat_append] at this
          exact this
        have C6 := hid (C5.out.under hbw (by omega) B6.out)
        have G6 := hid (only_then G5.out B6.out)
        clear hown6 hgr6 C5 G5 O5
        go_wp2_with fail
        refine (pick_any B b (N + 8 + 4 * k + 2) 4 w6 C6.out (by omega) (by omega)).mono ?_
        rintro e w7 ⟨r7, hr7, rfl, c7, g7⟩
        have O7 := hid (owns_onlyS O6.out g7 hbw); have C7 := hid c7; have G7 := hid (only_trans G6.out g7); clear c7 g7 C6 G6 O6
        go_wp2
        go_roundw
        case rel => exact ⟨k + 1, j - 1, t + 1 + r5 + 1 + r7, _, by go_num, by go_num, by omega, by omega, by omega, by simp [hxk], O7.out, C7.out.mono (by omega), G7.out⟩
        case measure => simp [intOf]; omega
      · obtain rfl : j = 0 := by omega
        have hl30 : xs.length ≤ 30 := by omega
        cases xs with
        | nil =>
          obtain rfl : k = 0 := by simpa using hxk.symm
          have HS := hid (SOwn.of_owns HO.out (by simp))
          rcases HO.out.2 with ⟨rfl, _⟩ | ⟨g, cap, cur, rfl, _⟩
          all_goals
            go_wp2
            go_ret
            exact ⟨_, rfl, [], by simp, HS.out, HC.out.mono (by omega), HG.out⟩
        | cons x xs =>
          have HS := hid (SOwn.of_owns HO.out (by omega))
          obtain ⟨g, cap, rfl⟩ : ∃ g cap, u3 = .slice (some ⟨g, 0, none⟩) (xs.length + 1) cap := by
            rcases HO.out.2 with ⟨_, h⟩ | ⟨g, cap, cur, h, _⟩
            · rw [h] at hxk; simp at hxk
            · exact ⟨g, cap, by rw [h, ← hxk]; rfl⟩
          clear HO
          go_wp2_with fail
          refine (one_any B b (N + 8 + 4 * k) 30 wr HC.out (by omega) (by omega)).mono ?_
          rintro e w8 ⟨t8, rfl, c8, g8⟩
          have S8 : Hid (SOwn w.heap.size w8 (.slice (some ⟨g, 0, none⟩) (xs.length + 1) cap) (x :: xs)) := HS.out.only g8 hbw
          have C8 := hid (c8.mono (show _ ≤ N + 200 by omega)); have G8 := hid (only_trans HG.out g8)
          clear c8 g8 HC HG HS
          cases t8
          · go_wp2
            go_ret
            exact ⟨_, rfl, _, hl30, S8.out, C8.out, G8.out⟩
          · obtain ⟨hset, hg8, f8, d8⟩ := SOwn.setTo0 S8.out
            have HSET := hid hset
            clear hset
            go_wp2
            go_ret
            exact ⟨_, rfl, _, by simpa using hl30, HSET.out _, C8.out.under hbw (by omega) ((Below.refl w.heap.size w8).setCell hg8 _), only_then G8.out ((Below.refl _ _).setCell hg8 _)⟩

end Go.Proofs.Ytnkpboobfkjibad
