/-
  laws.markHelloS writes k, k + 1, .. into ones of its own; laws.heldHelloS finds them there; nothing else is written.
  laws.markGreet, laws.heldGreet: all numbers in its rows are numbered, and told to be so. Nothing else is written.
  laws.heldHelloS finds what laws.markHelloS has written; nothing is written.
  laws.heldGreet: all numbers in its rows are told to be numbered. Nothing is written.
-/
import Derived.Test.YtdlkilacnnjglaaKHelloRows
import Derived.Test.YtdlkilacnnjglaaQSet
namespace Go.Proofs.Ytdlkilacnnjglaa
open Go.RowKit

def hemarks (k : Int) (n : Nat) : List HeEl := (List.range n).map fun (i : Nat) => (k + (3 * i : Nat), k + (3 * i + 1 : Nat), k + (3 * i + 2 : Nat))
def hemarked (xs : List HeEl) (k : Int) (j : Nat) : List HeEl := hemarks k j ++ xs.drop j
theorem length_hemarks (k : Int) (n : Nat) : (hemarks k n).length = n := by simp [hemarks]
theorem hemarks_get (k : Int) (n i : Nat) (h : i < n) : (hemarks k n).getD i (0, 0, 0) = (k + (3 * i : Nat), k + (3 * i + 1 : Nat), k + (3 * i + 2 : Nat)) := by simp [hemarks, List.getD_eq_getElem?_getD, h]
theorem length_hemarked (xs : List HeEl) (k : Int) (j : Nat) (h : j ≤ xs.length) : (hemarked xs k j).length = xs.length := by simp [hemarked, length_hemarks]; omega
theorem hemarked_zero (xs : List HeEl) (k : Int) : hemarked xs k 0 = xs := by simp [hemarked, hemarks]
theorem hemarked_all (xs : List HeEl) (k : Int) : hemarked xs k xs.length = hemarks k xs.length := by simp [hemarked]
theorem hemarked_step (xs : List HeEl) (k : Int) (i : Nat) (h : i < xs.length) : (hemarked xs k i).set i (k + (3 * i : Nat), k + (3 * i + 1 : Nat), k + (3 * i + 2 : Nat)) = hemarked xs k (i + 1) := by
  have e : xs.drop i = xs[i] :: xs.drop (i + 1) := List.drop_eq_getElem_cons h
  unfold hemarked
  rw [e, List.set_append_right _ _ (by simp [length_hemarks])]
  have : hemarks k (i + 1) = hemarks k i ++ [(k + (3 * i : Nat), k + (3 * i + 1 : Nat), k + (3 * i + 2 : Nat))] := by simp [hemarks, List.range_succ]
  simp only [length_hemarks, Nat.sub_self, List.set_cons_zero]
  rw [this, List.append_assoc]
  rfl

set_option maxHeartbeats 1000000 in
theorem markHelloS_any (lo hi : Nat) (v : Value) (xs : List HeEl) (k m : Int) (w : World) (ho : HeOwn lo hi w v xs) (hx : xs.length ≤ 1048576) (h0 : 0 ≤ k) (h1 : k ≤ 1152921504606846975) (hm : m = k + (3 * xs.length : Nat)) :
    Calls Try.prog 69 #[v, .int .i64 k] w fun e w' => e = .returned (.int .i64 m) ∧ HeOwn lo hi w' v (hemarks k xs.length) ∧ Below lo w w' ∧ Only lo hi w w' := by
  subst hm
  rcases (show (∃ a cap, v = .slice a 0 cap ∧ xs = []) ∨ ∃ g cap, v = .slice (some ⟨g, 0, none⟩) xs.length cap from by
    rcases ho.2 with h | ⟨g, cap, h, _⟩
    · exact .inl h
    · exact .inr ⟨g, cap, h⟩) with ⟨a, cap, rfl, rfl⟩ | ⟨g, cap, rfl⟩
  · go_enter Try.func69, Try.ntmps69
    go_wp2
    go_rounds 1
    all_goals (go_ret; exact ⟨by simp, ho, Below.refl _ _, Only.refl _ _ _⟩)
  have HO := hid ho
  clear ho
  go_enter Try.func69, Try.ntmps69
  go_wp2
  go_loopw [1, 5] (fun m i wr => ∃ j : Nat, j ≤ xs.length ∧ i = .int .i64 j ∧ m = .int .i64 (k + (3 * j : Nat)) ∧ HeOwn lo hi wr (.slice (some ⟨g, 0, none⟩) xs.length cap) (hemarked xs k j) ∧ Below lo w wr ∧ Only lo hi w wr) (fun _ i _ => xs.length - (intOf i).toNat)
  case atStart => exact ⟨0, Nat.zero_le _, rfl, by simp, by rw [hemarked_zero]; exact HO.out, Below.refl _ _, Only.refl _ _ _⟩
  case round =>
    obtain ⟨j, hj, rfl, rfl, hown, hbel, hoth⟩ := hrel
    by_cases hlt : j < xs.length
    · have hl2 := length_hemarked xs k j hj
      have hset := HeOwn.set (xs := hemarked xs k j) (by rw [hl2]; exact hown) j (k + (3 * j : Nat), k + (3 * j + 1 : Nat), k + (3 * j + 2 : Nat)) (by omega)
      rw [hemarked_step xs k j hlt, hl2] at hset
      obtain ⟨hown2, hgb, ⟨f0, f1, f2⟩, c0, c1, c2⟩ := hset
      have HO2 := hid hown2
      have HB := hid hbel
      have HT := hid hoth
      clear hown hown2 hl2 hbel hoth
      generalize ((hemarked xs k j).getD j (0, 0, 0)).1 = y0 at c0
      generalize ((hemarked xs k j).getD j (0, 0, 0)).2.1 = y1 at c1
      generalize ((hemarked xs k j).getD j (0, 0, 0)).2.2 = y2 at c2
      go_wp2
      go_roundw
      case rel =>
        refine ⟨j + 1, by omega, by go_num, by go_num, ?_, ((HB.out.setCell hgb.1 _).setCell hgb.1 _).setCell hgb.1 _, ((HT.out.setCell hgb.1 hgb.2 _).setCell hgb.1 hgb.2 _).setCell hgb.1 hgb.2 _⟩
        have := HO2.out
        have e1 : k + (3 * j + 1 : Nat) = k + (3 * j : Nat) + 1 := by omega
        have e2 : k + (3 * j + 2 : Nat) = k + (3 * j : Nat) + 1 + 1 := by omega
        simp only [e1, e2] at this
        exact this
      case measure => simp [intOf]; omega
    · obtain rfl : j = xs.length := by omega
      rw [hemarked_all] at hown
      go_wp2
      go_ret
      exact ⟨rfl, hown, hbel, hoth⟩

end Go.Proofs.Ytdlkilacnnjglaa
namespace Go.Proofs.Ytdlkilacnnjglaa
open Go.RowKit

def grMk (k : Int) (D : GrD) : GrD := ⟨D.f0, D.f1, D.f2, D.f3, D.f4, D.f5, D.f6, D.f7, hemarks k D.f8.length, hemarks (k + (3 * D.f8.length : Nat)) D.f9.length, hemarks (k + (3 * D.f8.length + 3 * D.f9.length : Nat)) D.f10.length⟩
set_option maxRecDepth 100000 in
set_option maxHeartbeats 8000000 in
theorem markGreet_any (S : Nat → Prop) (lo : Nat) (v : Value) (D : GrD) (k m : Int) (w : World) (ho : GrOwn S w v D) (hS : ∀ g, S g → lo ≤ g ∧ g < w.heap.size) (hlo : lo ≤ w.heap.size) (hn : grTot D ≤ 1048576) (h0 : 0 ≤ k) (h1 : k ≤ 100000000) (hm : m = k + (grN D : Nat)) :
    Calls Try.prog 33 #[v, .int .i64 k] w fun e w' => e = .returned (.int .i64 m) ∧ GrOwn S w' v (grMk k D) ∧ Below lo w w' ∧ OnlyS S w w' := by
  obtain ⟨v8, v9, v10, c8, c9, c10, rfl, ha, h8, h9, h10⟩ := ho
  have n8 : c8.1 ≤ c8.2 ∧ ∀ g, c8.1 ≤ g → g < c8.2 → S g := ha.inn 0 (by omega)
  have n9 : c9.1 ≤ c9.2 ∧ ∀ g, c9.1 ≤ g → g < c9.2 → S g := ha.inn 1 (by omega)
  have n10 : c10.1 ≤ c10.2 ∧ ∀ g, c10.1 ≤ g → g < c10.2 → S g := ha.inn 2 (by omega)
  have d8_9 : c8.2 ≤ c9.1 ∨ c9.2 ≤ c8.1 := ha.dj 0 1 (by omega) (by omega) (by omega)
  have d8_10 : c8.2 ≤ c10.1 ∨ c10.2 ≤ c8.1 := ha.dj 0 2 (by omega) (by omega) (by omega)
  have d9_10 : c9.2 ≤ c10.1 ∨ c10.2 ≤ c9.1 := ha.dj 1 2 (by omega) (by omega) (by omega)
  have HA := hid ha
  have hN : D.f8.length + D.f9.length + D.f10.length ≤ 1048576 := hn
  obtain ⟨k1, hk1⟩ : ∃ k1 : Int, k1 = (k + (3 * D.f8.length : Nat)) := ⟨_, rfl⟩
  have HK1 := hid hk1
  have hq1 : k1 = k + (3 * D.f8.length : Nat) := by omega
  have HQ1 := hid hq1
  have hb1 : 0 ≤ k1 ∧ k1 ≤ 200000000 := by omega
  obtain ⟨k2, hk2⟩ : ∃ k2 : Int, k2 = (k + (3 * D.f8.length + 3 * D.f9.length : Nat)) := ⟨_, rfl⟩
  have HK2 := hid hk2
  have hq2 : k2 = k1 + (3 * D.f9.length : Nat) := by omega
  have HQ2 := hid hq2
  have hb2 : 0 ≤ k2 ∧ k2 ≤ 200000000 := by omega
  have hk3 : m = (k + (3 * D.f8.length + 3 * D.f9.length + 3 * D.f10.length : Nat)) := hm
  have HK3 := hid hk3
  have hq3 : m = k2 + (3 * D.f10.length : Nat) := by omega
  have HQ3 := hid hq3
  have hb3 : 0 ≤ m ∧ m ≤ 200000000 := by omega
  clear ha hm hn hk1 hk2 hk3 hq1 hq2 hq3
  have PB := hid (boxL_new w [.int .i64 D.f0, .int .i64 D.f1, .int .i64 D.f2, .int .i64 D.f3, .int .i64 D.f4, .int .i64 D.f5, .int .i64 D.f6, .int .i64 D.f7, v8, v9, v10] 49)
  obtain ⟨W, hW⟩ : ∃ W, W = w.alloc (.cells #[.int .i64 D.f0, .int .i64 D.f1, .int .i64 D.f2, .int .i64 D.f3, .int .i64 D.f4, .int .i64 D.f5, .int .i64 D.f6, .int .i64 D.f7, v8, v9, v10] 49) := ⟨_, rfl⟩
  have bW : Below w.heap.size w W := by rw [hW]; exact (Below.refl _ _).alloc (Nat.le_refl _) _
  have BW := hid bW
  have H8 := hid (h8.below bW)
  have H9 := hid (h9.below bW)
  have H10 := hid (h10.below bW)
  have ON : Hid (OnlyP S W W) := OnlyP.refl _ _
  rw [← hW] at PB
  have HW := hid hW
  clear bW hW h8 h9 h10
  go_enter Try.func33, Try.ntmps33
  have p := (PB.out.cell 8 (by simp)).1
  change World.cell? _ _ = some v8 at p
  rw [HW.out] at p
  go_wp2_with fail
  rw [← HW.out]
  refine (markHelloS_any c8.1 c8.2 _ D.f8 k k1 _ H8.out (by omega) (by omega) (by omega) HQ1.out).mono ?_
  rintro e w1 ⟨rfl, o, b, on⟩
  have op := OnlyP.of b on
  replace H8 := hid o
  replace H9 := hid (H9.out.onlyP op (fun g g1 g2 h => by omega))
  replace H10 := hid (H10.out.onlyP op (fun g g1 g2 h => by omega))
  have oq : OnlyP S _ w1 := op.mono (fun g h => n8.2 g h.1 h.2)
  replace PB := hid (PB.out.of_block (oq.2.1 w.heap.size (fun h => Nat.lt_irrefl _ (hS _ h).2)))
  replace ON := hid (ON.out.trans oq)
  clear o op oq b on p
  have p := (PB.out.cell 9 (by simp)).1
  change World.cell? _ _ = some v9 at p
  go_wp2_with fail
  refine (markHelloS_any c9.1 c9.2 _ D.f9 k1 k2 _ H9.out (by omega) (by omega) (by omega) HQ2.out).mono ?_
  rintro e w2 ⟨rfl, o, b, on⟩
  have op := OnlyP.of b on
  replace H8 := hid (H8.out.onlyP op (fun g g1 g2 h => by omega))
  replace H9 := hid o
  replace H10 := hid (H10.out.onlyP op (fun g g1 g2 h => by omega))
  have oq : OnlyP S _ w2 := op.mono (fun g h => n9.2 g h.1 h.2)
  replace PB := hid (PB.out.of_block (oq.2.1 w.heap.size (fun h => Nat.lt_irrefl _ (hS _ h).2)))
  replace ON := hid (ON.out.trans oq)
  clear o op oq b on p
  have p := (PB.out.cell 10 (by simp)).1
  change World.cell? _ _ = some v10 at p
  go_wp2_with fail
  refine (markHelloS_any c10.1 c10.2 _ D.f10 k2 m _ H10.out (by omega) (by omega) (by omega) HQ3.out).mono ?_
  rintro e w3 ⟨rfl, o, b, on⟩
  have op := OnlyP.of b on
  replace H8 := hid (H8.out.onlyP op (fun g g1 g2 h => by omega))
  replace H9 := hid (H9.out.onlyP op (fun g g1 g2 h => by omega))
  replace H10 := hid o
  have oq : OnlyP S _ w3 := op.mono (fun g h => n10.2 g h.1 h.2)
  replace PB := hid (PB.out.of_block (oq.2.1 w.heap.size (fun h => Nat.lt_irrefl _ (hS _ h).2)))
  replace ON := hid (ON.out.trans oq)
  clear o op oq b on p
  go_wp2
  go_ret
  have bL : Below lo w w3 := (BW.out.mono hlo).trans (ON.out.below fun j h => (hS j h).1)
  exact ⟨rfl, ⟨v8, v9, v10, c8, c9, c10, rfl, HA.out, H8.out, by have h := H9.out; rw [HK1.out] at h; exact h, by have h := H10.out; rw [HK2.out] at h; exact h⟩, bL, fun j hj ho => (ON.out.2.1 j ho).trans (BW.out.block j hj)⟩
end Go.Proofs.Ytdlkilacnnjglaa
namespace Go.Proofs.Ytdlkilacnnjglaa
open Go.RowKit

set_option maxHeartbeats 1000000 in
theorem heldHelloS_any (v : Value) (n : Nat) (k m : Int) (w : World) (hr : HeReads w v (hemarks k n)) (hn : n ≤ 1048576) (h0 : 0 ≤ k) (h1 : k ≤ 1152921504606846975) (hm : m = k + (3 * n : Nat)) :
    Calls Try.prog 70 #[v, .int .i64 k] w fun e w' => e = .returned (.int .i64 m) ∧ w' = w := by
  subst hm
  obtain ⟨a, cap, rfl, hl, hx⟩ := hr
  rw [length_hemarks] at hl hx ⊢
  rcases hx with hx | ⟨b, off, rfl, hc⟩
  · have hn : n = 0 := by have := length_hemarks k n; rw [hx] at this; simpa using this.symm
    subst hn
    clear hx
    go_enter Try.func70, Try.ntmps70
    go_wp2
    go_rounds 1
    all_goals (go_ret; exact ⟨by simp, rfl⟩)
  have HC : Hid (∀ i, i < n → HeCells w b (off + i * 3) (k + (3 * i : Nat), k + (3 * i + 1 : Nat), k + (3 * i + 2 : Nat))) := fun i hi => by have := hc i hi; rw [hemarks_get k n i hi] at this; exact this
  clear hc
  go_enter Try.func70, Try.ntmps70
  go_wp2
  go_loopw [1, 5] (fun m i wr => ∃ j : Nat, j ≤ n ∧ i = .int .i64 j ∧ m = .int .i64 (k + (3 * j : Nat)) ∧ w = wr) (fun _ i _ => n - (intOf i).toNat)
  case atStart => exact ⟨0, Nat.zero_le _, rfl, by simp, rfl⟩
  case round =>
    obtain ⟨j, hj, rfl, rfl, rfl⟩ := hrel
    by_cases hlt : j < n
    · obtain ⟨c0, c1, c2⟩ := HC.out j hlt
      have e1 : k + (3 * j + 1 : Nat) = k + (3 * j : Nat) + 1 := by omega
      simp only [e1] at c1
      clear e1
      have e2 : k + (3 * j + 2 : Nat) = k + (3 * j : Nat) + 1 + 1 := by omega
      simp only [e2] at c2
      clear e2
      go_wp2
      go_roundw
      case rel => exact ⟨j + 1, by omega, by go_num, by go_num, trivial⟩
      case measure => simp [intOf]; omega
    · obtain rfl : j = n := by omega
      go_wp2
      go_ret
      exact ⟨rfl, rfl⟩
end Go.Proofs.Ytdlkilacnnjglaa
namespace Go.Proofs.Ytdlkilacnnjglaa
open Go.RowKit

set_option maxRecDepth 100000 in
set_option maxHeartbeats 8000000 in
theorem heldGreet_any (v : Value) (D : GrD) (k m : Int) (w : World) (hr : GrReads w v (grMk k D)) (hn : grTot D ≤ 1048576) (h0 : 0 ≤ k) (h1 : k ≤ 100000000) (hm : m = k + (grN D : Nat)) :
    Calls Try.prog 35 #[v, .int .i64 k] w fun e w' => e = .returned (.int .i64 m) ∧ Below w.heap.size w w' := by
  obtain ⟨v8, v9, v10, rfl, h8, h9, h10⟩ := hr
  have hN : D.f8.length + D.f9.length + D.f10.length ≤ 1048576 := hn
  obtain ⟨k1, hk1⟩ : ∃ k1 : Int, k1 = (k + (3 * D.f8.length : Nat)) := ⟨_, rfl⟩
  have hq1 : k1 = k + (3 * D.f8.length : Nat) := by omega
  have HQ1 := hid hq1
  have hb1 : 0 ≤ k1 ∧ k1 ≤ 200000000 := by omega
  have hd1 : decide (k1 < 0) = false := by rw [decide_eq_false_iff_not]; omega
  obtain ⟨k2, hk2⟩ : ∃ k2 : Int, k2 = (k + (3 * D.f8.length + 3 * D.f9.length : Nat)) := ⟨_, rfl⟩
  have hq2 : k2 = k1 + (3 * D.f9.length : Nat) := by omega
  have HQ2 := hid hq2
  have hb2 : 0 ≤ k2 ∧ k2 ≤ 200000000 := by omega
  have hd2 : decide (k2 < 0) = false := by rw [decide_eq_false_iff_not]; omega
  have hk3 : m = (k + (3 * D.f8.length + 3 * D.f9.length + 3 * D.f10.length : Nat)) := hm
  have hq3 : m = k2 + (3 * D.f10.length : Nat) := by omega
  have HQ3 := hid hq3
  have hb3 : 0 ≤ m ∧ m ≤ 200000000 := by omega
  have hd3 : decide (m < 0) = false := by rw [decide_eq_false_iff_not]; omega
  have H8 : Hid (HeReads w v8 (hemarks k D.f8.length)) := by show HeReads w v8 (hemarks k D.f8.length); exact h8
  have H9 : Hid (HeReads w v9 (hemarks k1 D.f9.length)) := by show HeReads w v9 (hemarks k1 D.f9.length); rw [hk1]; exact h9
  have H10 : Hid (HeReads w v10 (hemarks k2 D.f10.length)) := by show HeReads w v10 (hemarks k2 D.f10.length); rw [hk2]; exact h10
  clear hm hn hk1 hk2 hk3 hq1 hq2 hq3 h8 h9 h10
  show Calls Try.prog 35 #[.agg #[.int .i64 D.f0, .int .i64 D.f1, .int .i64 D.f2, .int .i64 D.f3, .int .i64 D.f4, .int .i64 D.f5, .int .i64 D.f6, .int .i64 D.f7, v8, v9, v10], .int .i64 k] w _
  have PB := hid (boxL_new w [.int .i64 D.f0, .int .i64 D.f1, .int .i64 D.f2, .int .i64 D.f3, .int .i64 D.f4, .int .i64 D.f5, .int .i64 D.f6, .int .i64 D.f7, v8, v9, v10] 49)
  have BW : Hid (Below w.heap.size w (w.alloc (.cells #[.int .i64 D.f0, .int .i64 D.f1, .int .i64 D.f2, .int .i64 D.f3, .int .i64 D.f4, .int .i64 D.f5, .int .i64 D.f6, .int .i64 D.f7, v8, v9, v10] 49))) := (Below.refl _ _).alloc (Nat.le_refl _) _
  have p8 := (PB.out.cell 8 (by simp)).1
  change World.cell? _ _ = some v8 at p8
  have p9 := (PB.out.cell 9 (by simp)).1
  change World.cell? _ _ = some v9 at p9
  have p10 := (PB.out.cell 10 (by simp)).1
  change World.cell? _ _ = some v10 at p10
  go_enter Try.func35, Try.ntmps35
  go_wp2_with fail
  refine (heldHelloS_any _ D.f8.length k k1 _ (H8.out.below BW.out) (by omega) (by omega) (by omega) HQ1.out).mono ?_
  rintro e w' ⟨rfl, hw⟩; obtain rfl := hw.symm
  go_wp2_with fail
  refine (heldHelloS_any _ D.f9.length k1 k2 _ (H9.out.below BW.out) (by omega) (by omega) (by omega) HQ2.out).mono ?_
  rintro e w' ⟨rfl, hw⟩; obtain rfl := hw.symm
  go_wp2_with fail
  refine (heldHelloS_any _ D.f10.length k2 m _ (H10.out.below BW.out) (by omega) (by omega) (by omega) HQ3.out).mono ?_
  rintro e w' ⟨rfl, hw⟩; obtain rfl := hw.symm
  go_wp2
  go_ret
  exact ⟨rfl, BW.out⟩
end Go.Proofs.Ytdlkilacnnjglaa
