/-
  laws.markIntSS, laws.heldIntSS: rows of rows are numbered, and told to be so. Nothing else is written.
-/
import Derived.Test.YteeaebelknpdjbaQSet
import Derived.Test.YteeaebelknpdjbaKIntMark
namespace Go.Proofs.Yteeaebelknpdjba
open Go.RowKit

/-- The first rows numbered from k on, the others as they were. -/
def qmix (k : Int) (xss : List (List KEl)) (i : Nat) : List (List KEl) := (List.range xss.length).map fun j => if j < i then kmarks (k + (preL xss j : Nat)) (xss.getD j []).length else xss.getD j []
def qmarks (k : Int) (xss : List (List KEl)) : List (List KEl) := qmix k xss xss.length
theorem length_qmix (k : Int) (xss : List (List KEl)) (i : Nat) : (qmix k xss i).length = xss.length := by simp [qmix]
theorem length_qmarks (k : Int) (xss : List (List KEl)) : (qmarks k xss).length = xss.length := length_qmix _ _ _
theorem qmix_get (k : Int) (xss : List (List KEl)) (i j : Nat) (hj : j < xss.length) : (qmix k xss i).getD j [] = if j < i then kmarks (k + (preL xss j : Nat)) (xss.getD j []).length else xss.getD j [] := by simp [qmix, List.getD_eq_getElem?_getD, hj]
theorem qmarks_get (k : Int) (xss : List (List KEl)) (j : Nat) (hj : j < xss.length) : (qmarks k xss).getD j [] = kmarks (k + (preL xss j : Nat)) (xss.getD j []).length := by
  rw [qmarks, qmix_get k xss _ j hj, if_pos hj]
theorem qmix_zero (k : Int) (xss : List (List KEl)) : qmix k xss 0 = xss := by
  apply List.ext_getElem
  · simp [qmix]
  · intro j h1 h2
    simp [qmix, h2, List.getD_eq_getElem?_getD]
/-- Rows that differ in one alone, which lies in its own stretch. -/
theorem QRow.turn {w w' : World} {c : Nat × Nat} {v : Value} {xss yss : List (List KEl)} {iv : Nat → Nat × Nat} {k : Nat} (h : QRow w c v xss iv) (hl : yss.length = xss.length) (ho : OnlyP (fun j => (iv k).1 ≤ j ∧ j < (iv k).2) w w') (hc : ∀ j, j < xss.length → Dj c (iv j)) (hd : ∀ i j, i < xss.length → j < xss.length → i ≠ j → Dj (iv i) (iv j)) (hk : k < xss.length)
    (hr : ∀ u, KOwn (iv k).1 (iv k).2 w u (xss.getD k []) → w.cell? ⟨0, 0, none⟩ = w.cell? ⟨0, 0, none⟩ → KReads w u (xss.getD k []) → (∃ B cap, v = .slice (some ⟨B, 0, none⟩) xss.length cap ∧ w.cell? ⟨B, k, none⟩ = some u) → KOwn (iv k).1 (iv k).2 w' u (yss.getD k [])) (he : ∀ j, j < xss.length → j ≠ k → yss.getD j [] = xss.getD j []) : QRow w' c v yss iv := by
  obtain ⟨hll, h⟩ := h
  rcases h with ⟨a, cap, rfl, rfl⟩ | ⟨B, cap, us, rfl, hg, hf⟩
  · simp at hk
  · refine ⟨by rw [hl]; exact hll, .inr ⟨B, cap, us, by rw [hl], by rw [hl]; exact hg, fun j hj => ?_⟩⟩
    rw [hl] at hj
    obtain ⟨h1, h2, h3⟩ := hf j hj
    have hB : ¬ ((iv k).1 ≤ B ∧ B < (iv k).2) := by
      have := hc k hk
      unfold Dj at this
      omega
    have e := ho.2.1 B hB
    refine ⟨(World.cell?_of_block (a := ⟨B, j, none⟩) e).trans h1, h2.of_block e, ?_⟩
    by_cases ejk : j = k
    · subst ejk
      exact hr (us j) h3 rfl h3.reads ⟨B, cap, rfl, h1⟩
    · rw [he j hj ejk]
      refine h3.onlyP ho fun g g1 g2 hp => ?_
      have := hd j k hj hk ejk
      unfold Dj at this
      omega
set_option maxRecDepth 100000 in
set_option maxHeartbeats 8000000 in
theorem markIntSS_any (v : Value) (xss : List (List KEl)) (c : Nat × Nat) (iv : Nat → Nat × Nat) (k m : Int) (w : World) (ho : QRow w c v xss iv) (hc : ∀ j, j < xss.length → Dj c (iv j)) (hd : ∀ i j, i < xss.length → j < xss.length → i ≠ j → Dj (iv i) (iv j)) (hx : xss.length ≤ 1048576) (hp : preL xss xss.length ≤ 1048576) (h0 : 0 ≤ k) (h1 : k ≤ 1000000000) (hm : m = k + (preL xss xss.length : Nat)) :
    Calls Try.prog 42 #[v, .int .i64 k] w fun e w' => e = .returned (.int .i64 m) ∧ QRow w' c v (qmarks k xss) iv ∧ OnlyP (fun j => ∃ i, i < xss.length ∧ (iv i).1 ≤ j ∧ j < (iv i).2) w w' := by
  have HO := hid ho
  have HC := hid hc
  have HD := hid hd
  have HM := hid hm
  obtain ⟨a, cap, rfl, _, _⟩ := ho.reads
  clear ho hc hd hm
  go_enter Try.func42, Try.ntmps42
  go_wp2
  go_loopw [1, 5] (fun kv i wr => ∃ t : Nat, t ≤ xss.length ∧ i = .int .i64 t ∧ kv = .int .i64 (k + (preL xss t : Nat)) ∧ QRow wr c (.slice a xss.length cap) (qmix k xss t) iv ∧ OnlyP (fun j => ∃ i, i < xss.length ∧ (iv i).1 ≤ j ∧ j < (iv i).2) w wr) (fun _ i _ => xss.length - (intOf i).toNat)
  case atStart => exact ⟨0, Nat.zero_le _, rfl, by rw [preL_zero]; simp, by rw [qmix_zero]; exact HO.out, OnlyP.refl _ _⟩
  case round =>
    obtain ⟨t, ht, rfl, rfl, hq, hon⟩ := hrel
    have HQ := hid hq
    have HN := hid hon
    clear hq hon HO
    by_cases hlt : t < xss.length
    · have hlm : t < (qmix k xss t).length := by rw [length_qmix]; exact hlt
      obtain ⟨B, cap', us, e, hBc, hf⟩ : ∃ B cap', ∃ us : Nat → Value, Value.slice a xss.length cap = .slice (some ⟨B, 0, none⟩) (qmix k xss t).length cap' ∧ (c.1 ≤ B ∧ B < c.2 ∧ (qmix k xss t).length ≤ cap') ∧ ∀ i, i < (qmix k xss t).length → wr.cell? ⟨B, i, none⟩ = some (us i) ∧ KFree wr B i ∧ KOwn (iv i).1 (iv i).2 wr (us i) ((qmix k xss t).getD i []) := by
        rcases HQ.out.2 with ⟨_, _, _, h⟩ | h
        · rw [h] at hlm; simp at hlm
        · exact h
      rw [length_qmix] at e
      cases e
      obtain ⟨c1, _, h3⟩ := hf t hlm
      rw [qmix_get k xss t t hlt, if_neg (by omega)] at h3
      obtain ⟨u, hu⟩ : ∃ u, u = us t := ⟨_, rfl⟩
      rw [← hu] at c1 h3
      have H3 := hid h3
      have hps := preL_succ xss t hlt
      have hrw := preL_row xss t hlt
      have hpl := preL_le xss (t + 1) xss.length (by omega) (Nat.le_refl _)
      obtain ⟨k1, hk1⟩ : ∃ k1 : Int, k1 = k + (preL xss t : Nat) := ⟨_, rfl⟩
      have HK1 := hid hk1
      obtain ⟨k2, hk2⟩ : ∃ k2 : Int, k2 = k + (preL xss (t + 1) : Nat) := ⟨_, rfl⟩
      have HK2 := hid hk2
      have hkk : k2 = k1 + ((xss.getD t []).length : Nat) := by rw [hk1, hk2, hps]; omega
      have HKK := hid hkk
      have n0 : (0 : Int) ≤ (t : Int) := by omega
      have n1 : (t : Int) < (xss.length : Int) := by omega
      have hb1 : 0 ≤ k1 ∧ k1 ≤ 1152921504606846975 := by rw [hk1]; omega
      rw [← hk1]
      clear hf h3 hu hps hk1 hk2 hkk
      go_wp2_with fail
      refine (kmarkIntS_any (iv t).1 (iv t).2 u (xss.getD t []) k1 k2 _ H3.out (by omega) hb1.1 hb1.2 HKK.out).mono ?_
      rintro e w2 ⟨rfl, o2, b2, on2⟩
      have P2 := OnlyP.of b2 on2
      have HQ2 : Hid (QRow w2 c (.slice (some ⟨B, 0, none⟩) xss.length cap) (qmix k xss (t + 1)) iv) := by
        refine HQ.out.turn (k := t) (by rw [length_qmix, length_qmix]) P2 (fun j hj => HC.out j (by rw [length_qmix] at hj; exact hj)) (fun i j hi hj => HD.out i j (by rw [length_qmix] at hi; exact hi) (by rw [length_qmix] at hj; exact hj)) hlm ?_ ?_
        · rintro u' h4 _ _ ⟨B', cap'', e, c2⟩
          rw [length_qmix] at e
          cases e
          obtain rfl : u' = u := by rw [c1] at c2; injection c2 with c2; exact c2.symm
          rw [qmix_get k xss _ t hlt, if_pos (by omega), ← HK1.out]
          exact o2
        · intro j hj hne
          rw [length_qmix] at hj
          rw [qmix_get k xss _ j hj, qmix_get k xss _ j hj]
          by_cases e : j < t
          · rw [if_pos e, if_pos (by omega)]
          · rw [if_neg e, if_neg (by omega)]
      have HN2 : Hid (OnlyP (fun j => ∃ i, i < xss.length ∧ (iv i).1 ≤ j ∧ j < (iv i).2) w w2) := HN.out.trans (P2.mono fun j h => ⟨t, hlt, h⟩)
      clear o2 b2 on2 P2 HQ HN H3
      go_wp2
      go_roundw
      case rel => exact ⟨t + 1, by omega, by go_num, by rw [← HK2.out], HQ2.out, HN2.out⟩
      case measure => simp [intOf]; omega
    · obtain rfl : t = xss.length := by omega
      go_wp2
      go_ret
      exact ⟨by rw [HM.out]; rfl, HQ.out, HN.out⟩
set_option maxRecDepth 100000 in
set_option maxHeartbeats 8000000 in
theorem heldIntSS_any (v : Value) (xss : List (List KEl)) (k m : Int) (w : World) (hr : QReads w v (qmarks k xss)) (hx : xss.length ≤ 1048576) (hp : preL xss xss.length ≤ 1048576) (h0 : 0 ≤ k) (h1 : k ≤ 1000000000) (hm : m = k + (preL xss xss.length : Nat)) :
    Calls Try.prog 43 #[v, .int .i64 k] w fun e w' => e = .returned (.int .i64 m) ∧ w' = w := by
  have HR := hid hr
  have HM := hid hm
  obtain ⟨a, cap, rfl, _, _⟩ := hr
  rw [length_qmarks]
  have HR' : Hid (QReads w (.slice a xss.length cap) (qmarks k xss)) := by have h := HR.out; rw [length_qmarks] at h; exact h
  clear hm HR
  go_enter Try.func43, Try.ntmps43
  go_wp2
  go_loopw [1, 5] (fun kv i wr => ∃ t : Nat, t ≤ xss.length ∧ i = .int .i64 t ∧ kv = .int .i64 (k + (preL xss t : Nat)) ∧ w = wr) (fun _ i _ => xss.length - (intOf i).toNat)
  case atStart => exact ⟨0, Nat.zero_le _, rfl, by rw [preL_zero]; simp, rfl⟩
  case round =>
    obtain ⟨t, ht, rfl, rfl, rfl⟩ := hrel
    by_cases hlt : t < xss.length
    · obtain ⟨g, o, cap', e, hc⟩ := HR'.out.cells t (by rw [length_qmarks]; exact hlt)
      rw [length_qmarks] at e
      cases e
      obtain ⟨u, cu, hu⟩ := hc t (by rw [length_qmarks]; exact hlt)
      rw [qmarks_get k xss t hlt] at hu
      have hps := preL_succ xss t hlt
      have hrw := preL_row xss t hlt
      have hpl := preL_le xss (t + 1) xss.length (by omega) (Nat.le_refl _)
      obtain ⟨k1, hk1⟩ : ∃ k1 : Int, k1 = k + (preL xss t : Nat) := ⟨_, rfl⟩
      obtain ⟨k2, hk2⟩ : ∃ k2 : Int, k2 = k + (preL xss (t + 1) : Nat) := ⟨_, rfl⟩
      have HK2 := hid hk2
      have hkk : k2 = k1 + ((xss.getD t []).length : Nat) := by rw [hk1, hk2, hps]; omega
      have HKK := hid hkk
      rw [← hk1] at hu ⊢
      have HU := hid hu
      have n0 : (0 : Int) ≤ (t : Int) := by omega
      have n1 : (t : Int) < (xss.length : Int) := by omega
      have hb1 : 0 ≤ k1 ∧ k1 ≤ 1152921504606846975 := by rw [hk1]; omega
      have hb2 : decide (k2 < 0) = false := by rw [decide_eq_false_iff_not, hk2]; omega
      clear hc hu hps hk1 hk2 hkk
      go_wp2_with fail
      refine (kheldIntS_any u (xss.getD t []).length k1 k2 _ HU.out (by omega) hb1.1 hb1.2 HKK.out).mono ?_
      rintro e w' ⟨rfl, hw⟩; obtain rfl := hw.symm
      go_wp2
      go_roundw
      case rel => exact ⟨t + 1, by omega, by go_num, by rw [← HK2.out], by first | rfl | trivial⟩
      case measure => simp [intOf]; omega
    · obtain rfl : t = xss.length := by omega
      go_wp2
      go_ret
      exact ⟨by rw [HM.out]; rfl, rfl⟩
end Go.Proofs.Yteeaebelknpdjba
