/-
  The cursor's text for rows: some text of at most 66 bytes and a number; of old memory the cursor alone is written. And what is drawn of it.
-/
import Derived.Test.YthmkeinhjlmgmadDraw
import Derived.Test.YthmkeinhjlmgmadPcRow
import Derived.Test.YthmkeinhjlmgmadSMost9
namespace Go.Proofs.Ythmkeinhjlmgmad
open Go.RowKit

theorem rtcur_lt {B b N : Nat} {w : World} (h : Cur B w b N) : b < w.heap.size := by
  obtain ⟨_, _, v, f, at_, sd, hr, _⟩ := h
  exact hr.lt
set_option maxHeartbeats 1000000 in
theorem among_in12 (Q : Int → Prop) (B b N g n : Nat) (cap : Nat) (w : World) (h : Cur B w b N) (hN : N ≤ 1152921504606846974) (hg : g ≠ b) (hl : ∀ i, i < n → ∃ z : Int, Q z ∧ w.cell? ⟨g, i, none⟩ = some (.int .i64 z)) (h0 : 0 < n) (hn : n ≤ 1000) :
    Calls Try.prog 86 #[.pointer (some ⟨b, 0, none⟩), .slice (some ⟨g, 0, none⟩) n cap] w fun e w' => ∃ z : Int, Q z ∧ e = .returned (.int .i64 z) ∧ Cur B w' b (N + 2) ∧ w.grownBy w' (some b) := by
  have H := hid h
  have HL := hid hl
  clear h hl
  go_enter Try.func86, Try.ntmps86
  go_wp2_with fail
  refine (pick_any B b N n _ H.out hN (by omega)).mono ?_
  rintro e w1 ⟨r, hr, rfl, c1, g1⟩
  have hrn : r < n := by omega
  obtain ⟨z, hq, hz⟩ := HL.out r hrn
  have hz1 : w1.cell? ⟨g, r, none⟩ = some (.int .i64 z) := g1.cell hz (by simpa using hg)
  have C1 := hid c1; have G1 := hid g1; have HQ := hid hq; clear c1 g1 hr hz hq
  go_wp2
  go_ret
  exact ⟨z, HQ.out, rfl, C1.out, G1.out⟩
theorem lit_in12 (Q : Int → Prop) (w : World) (zs : List Int) (T : TypeId) (hq : ∀ z ∈ zs, Q z) : ∀ i, i < zs.length → ∃ z : Int, Q z ∧ (w.alloc (.cells (zs.map (Value.int .i64)).toArray T)).cell? ⟨w.heap.size, i, none⟩ = some (.int .i64 z) := fun i hi => by
  refine ⟨zs[i], hq _ (List.getElem_mem hi), ?_⟩
  rw [World.cell?_alloc_mark]
  simp [hi]
theorem set_getD (l : List UInt8) (k j : Nat) (x : UInt8) (hk : k < l.length) : (l.set k x).getD j 0 = if j = k then x else l.getD j 0 := by
  by_cases e : j = k
  · subst e; rw [if_pos rfl]; simp [List.getD_eq_getElem?_getD, hk]
  · rw [if_neg e]; simp [List.getD_eq_getElem?_getD, Ne.symm e]

set_option maxRecDepth 100000 in
set_option maxHeartbeats 4000000 in
theorem rowsText_any (B b N : Nat) (w : World) (h : Cur B w b N) (hN : N ≤ 1152921504606840000) :
    Calls Try.prog 123 #[.pointer (some ⟨b, 0, none⟩)] w fun e w' => ∃ (s : ByteArray) (d : Int), e = .returned (.tuple #[.string s, .int .i64 d]) ∧ s.size ≤ 66 ∧ (0 ≤ d ∧ d ≤ 13) ∧ Cur B w' b (N + 200) ∧ w.grownBy w' (some b) := by
  obtain ⟨i0, hi, hz0, hz1, hz2⟩ := info_parts info_u8
  have hbw := rtcur_lt h
  have hBb : B ≤ b := h.1
  have hBw : B ≤ w.heap.size := h.2.1
  have H := hid h
  clear h
  go_enter Try.func123, Try.ntmps123
  go_wp2_with fail
  refine (among_in12 (fun z => 0 ≤ z ∧ z ≤ 13) B b N w.heap.size 8 8 _ (H.out.below ((Below.refl _ _).alloc (Nat.le_refl _) _)) (by omega) (by omega) (lit_in12 _ w [0, 1, 2, 3, 4, 6, 12, 13] _ (by decide)) (by omega) (by omega)).mono ?_
  rintro e w1 ⟨z1, hq1, rfl, c1, g1⟩
  have C1 := hid c1; have G1 := hid (only_trans (World.grownBy_alloc w _ (some b)) g1); clear c1 g1 H
  obtain ⟨d, rfl⟩ := Int.eq_ofNat_of_zero_le hq1.1
  have hd : d ≤ 13 := by omega
  go_wp2_with fail
  refine (pick_any B b _ 6 _ C1.out (by omega) (by omega)).mono ?_
  rintro e w2 ⟨r, hr, rfl, c2, g2⟩
  have C2 := hid c2; have G2 := hid (only_trans G1.out g2); clear c2 g2 C1 G1
  have hr5 : r ≤ 5 := by omega
  obtain ⟨m, hm⟩ : ∃ m, d * r = m := ⟨_, rfl⟩
  have hm65 : m ≤ 13 * 5 := by rw [← hm]; exact Nat.mul_le_mul hd hr5
  have e1 : (d : Int) * (r : Int) = (m : Nat) := by rw [← hm]; simp
  have e2 : IntKind.i64.wrap (m : Int) = (m : Nat) := by rw [IntKind.wrap_i64]; omega
  clear hm hr hq1
  go_wp2_with fail
  refine (one_any B b _ 12 _ C2.out (by omega) (by omega)).mono ?_
  rintro e w3 ⟨t3, rfl, c3, g3⟩
  have C3 := hid c3; have G3 := hid (only_trans G2.out g3); clear c3 g3 C2 G2 e1
  obtain ⟨n, hn, hn66⟩ : ∃ n : Nat, n = (bif t3 then m + 1 else m) ∧ n ≤ 66 := ⟨_, rfl, by cases t3 <;> simp <;> omega⟩
  have HNn := hid hn
  clear hn
  cases t3
  case' true => have HV : Hid (((m : Nat) : Int) + 1 = (n : Nat)) := by have := HNn.out; show _ = _; simp at this; omega
  case' false => have HV : Hid (((m : Nat) : Int) = (n : Nat)) := by have := HNn.out; show _ = _; simp at this; omega
  all_goals
    have hv := HV.out
    clear HV HNn
    have e3 : IntKind.i64.wrap (n : Int) = (n : Nat) := by rw [IntKind.wrap_i64]; omega
    go_wp2_with fail
    refine (smost_eq 0 n n (by omega) _).mono ?_
    rintro e w' ⟨rfl, hw⟩; obtain rfl := hw.symm
    go_wp2_with (at_make; refine wpList_make_row _ rfl _ _ 22 rfl 5 i0 (.int .u8 0) Try.underlying22 hi hz0 hz1 rfl .i64 .i64 n rfl rfl (by rw [hz2]; omega) (by omega) ?_)
    have hs3 : w.heap.size ≤ w3.heap.size := G3.out.size
    clear hv
    go_loopw [24] (fun i wr => ∃ (k : Nat) (l : List UInt8), k ≤ n ∧ i = .int .i64 (k : Nat) ∧ l.length = n ∧ wr.rowIs w3.heap.size 5 n (fun j => .int .u8 ((l.getD j 0).toNat : Nat)) ∧ Cur B wr b (N + 20 + 2 * k) ∧ w.grownBy wr (some b)) (fun i _ => n - (intOf i).toNat)
    case atStart =>
      refine ⟨0, List.replicate n 0, Nat.zero_le _, rfl, by simp, (World.rowIs_made w3 (.int .u8 0) n 5).congr fun j hj => by simp [List.getD_eq_getElem?_getD, hj], (C3.out.mono (by omega)).below ((Below.refl _ _).alloc (Nat.le_refl _) _), only_trans G3.out (World.grownBy_alloc _ _ _)⟩
    case round =>
      obtain ⟨k, l, hk, rfl, hl, hrow, hcur, hgr⟩ := hrel
      have HR := hid hrow; have HC := hid hcur; have HG := hid hgr; have HL := hid hl
      clear hrow hcur hgr hl
      by_cases hlt : k < n
      · have hltd : (k : Int) < (n : Int) := by omega
        go_wp2_with fail
        refine (pick_any B b _ 26 _ HC.out (by omega) (by omega)).mono ?_
        rintro e w5 ⟨r5, hr5', rfl, c5, g5⟩
        have R5 := hid (HR.out.of_block (g5.block _ HR.out.lt (by intro e; cases e; omega)))
        have C5 := hid c5; have G5 := hid (only_trans HG.out g5)
        have hx25 : r5 ≤ 25 := by omega
        clear c5 g5 HR HC HG hr5'
        obtain ⟨x, hx⟩ : ∃ x, 97 + r5 = x := ⟨_, rfl⟩
        have f1 : (97 : Int) + (r5 : Int) = (x : Nat) := by rw [← hx]; simp
        have f2 : IntKind.i64.wrap (x : Int) = (x : Nat) := by rw [IntKind.wrap_i64]; omega
        have f3 : IntKind.u8.wrap (x : Int) = (x : Nat) := by rw [IntKind.wrap_u8]; omega
        have c0 := R5.out.cell (i := k) hlt
        have f0 := R5.out.frozen k
        generalize ((l.getD k 0).toNat : Nat) = y at c0
        have HS : Hid ((w5.setCell ⟨w3.heap.size, k, none⟩ (.int .u8 (x : Nat))).rowIs w3.heap.size 5 n (fun j => .int .u8 (((l.set k (UInt8.ofNat x)).getD j 0).toNat : Nat))) := (R5.out.set k (.int .u8 (x : Nat))).congr fun j hj => by
          rw [set_getD l k j _ (by rw [HL.out]; exact hlt)]
          by_cases e : j = k
          · rw [if_pos e, if_pos e]
            have : (UInt8.ofNat x).toNat = x := by simp; omega
            rw [this]
          · rw [if_neg e, if_neg e]
        have B5 : Hid (Below w.heap.size w5 (w5.setCell ⟨w3.heap.size, k, none⟩ (.int .u8 (x : Nat)))) := (Below.refl w.heap.size w5).setCell (by show w.heap.size ≤ w3.heap.size; exact hs3) _
        have C6 := hid ((C5.out.mono (show N + 20 + 2 * k + 2 ≤ N + 20 + 2 * (k + 1) by omega)).under hbw hBw B5.out)
        have G6 := hid (only_then G5.out B5.out)
        clear hx R5 C5 G5
        go_wp2
        go_roundw
        case rel => exact ⟨k + 1, l.set k (UInt8.ofNat x), by omega, by go_num, by rw [List.length_set]; exact HL.out, HS.out, C6.out, G6.out⟩
        case measure => simp [intOf]; omega
      · obtain rfl : k = n := by omega
        have hconv := conv_row wr w3.heap.size k l (fun j hj => HR.out.cell (by rw [← HL.out]; exact hj))
        rw [HL.out] at hconv
        have hsz : (⟨l.toArray⟩ : ByteArray).size = k := by show l.toArray.size = _; simp [HL.out]
        have HZ := hid hsz
        clear hsz
        go_wp2
        go_ret2
        exact ⟨_, _, rfl, by rw [HZ.out]; omega, ⟨by omega, by omega⟩, HC.out.mono (by omega), HG.out⟩
end Go.Proofs.Ythmkeinhjlmgmad
