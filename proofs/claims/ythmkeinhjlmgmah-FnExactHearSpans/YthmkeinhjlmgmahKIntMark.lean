/-
  laws.markIntS writes k, k + 1, .. into ones of its own; laws.heldIntS finds them there; nothing else is written.
  laws.markSender, laws.heldSender: all numbers in its rows are numbered, and told to be so. Nothing else is written.
  laws.heldSender: all numbers in its rows are told to be numbered. Nothing is written.
-/
import Derived.Test.YthmkeinhjlmgmahOnly
import Derived.Test.YthmkeinhjlmgmahKSpanSf
import Derived.Test.YthmkeinhjlmgmahKSpanMark
namespace Go.Proofs.Ythmkeinhjlmgmah
open Go.RowKit

def kmarks (k : Int) (n : Nat) : List KEl := (List.range n).map fun (i : Nat) => (k + (i : Int))
def kmarked (xs : List KEl) (k : Int) (j : Nat) : List KEl := kmarks k j ++ xs.drop j
theorem length_kmarks (k : Int) (n : Nat) : (kmarks k n).length = n := by simp [kmarks]
theorem kmarks_get (k : Int) (n i : Nat) (h : i < n) : (kmarks k n).getD i 0 = (k + (i : Int)) := by simp [kmarks, List.getD_eq_getElem?_getD, h]
theorem length_kmarked (xs : List KEl) (k : Int) (j : Nat) (h : j ≤ xs.length) : (kmarked xs k j).length = xs.length := by simp [kmarked, length_kmarks]; omega
theorem kmarked_zero (xs : List KEl) (k : Int) : kmarked xs k 0 = xs := by simp [kmarked, kmarks]
theorem kmarked_all (xs : List KEl) (k : Int) : kmarked xs k xs.length = kmarks k xs.length := by simp [kmarked]
theorem kmarked_step (xs : List KEl) (k : Int) (i : Nat) (h : i < xs.length) : (kmarked xs k i).set i (k + (i : Int)) = kmarked xs k (i + 1) := by
  have e : xs.drop i = xs[i] :: xs.drop (i + 1) := List.drop_eq_getElem_cons h
  unfold kmarked
  rw [e, List.set_append_right _ _ (by simp [length_kmarks])]
  have : kmarks k (i + 1) = kmarks k i ++ [(k + (i : Int))] := by simp [kmarks, List.range_succ]
  simp only [length_kmarks, Nat.sub_self, List.set_cons_zero]
  rw [this, List.append_assoc]
  rfl

set_option maxHeartbeats 1000000 in
theorem kmarkIntS_any (lo hi : Nat) (v : Value) (xs : List KEl) (k m : Int) (w : World) (ho : KOwn lo hi w v xs) (hx : xs.length ≤ 1048576) (h0 : 0 ≤ k) (h1 : k ≤ 1152921504606846975) (hm : m = k + (xs.length : Nat)) :
    Calls Try.prog 32 #[v, .int .i64 k] w fun e w' => e = .returned (.int .i64 m) ∧ KOwn lo hi w' v (kmarks k xs.length) ∧ Below lo w w' ∧ Only lo hi w w' := by
  subst hm
  rcases (show (∃ a cap, v = .slice a 0 cap ∧ xs = []) ∨ ∃ g cap, v = .slice (some ⟨g, 0, none⟩) xs.length cap from by
    rcases ho.2 with h | ⟨g, cap, h, _⟩
    · exact .inl h
    · exact .inr ⟨g, cap, h⟩) with ⟨a, cap, rfl, rfl⟩ | ⟨g, cap, rfl⟩
  · go_enter Try.func32, Try.ntmps32
    go_wp2
    go_rounds 1
    all_goals (go_ret; exact ⟨by simp, ho, Below.refl _ _, Only.refl _ _ _⟩)
  have HO := hid ho
  clear ho
  go_enter Try.func32, Try.ntmps32
  go_wp2
  go_loopw [1, 5] (fun m i wr => ∃ j : Nat, j ≤ xs.length ∧ i = .int .i64 j ∧ m = .int .i64 (k + (j : Nat)) ∧ KOwn lo hi wr (.slice (some ⟨g, 0, none⟩) xs.length cap) (kmarked xs k j) ∧ Below lo w wr ∧ Only lo hi w wr) (fun _ i _ => xs.length - (intOf i).toNat)
  case atStart => exact ⟨0, Nat.zero_le _, rfl, by simp, by rw [kmarked_zero]; exact HO.out, Below.refl _ _, Only.refl _ _ _⟩
  case round =>
    obtain ⟨j, hj, rfl, rfl, hown, hbel, hoth⟩ := hrel
    by_cases hlt : j < xs.length
    · have hl2 := length_kmarked xs k j hj
      have hset := KOwn.set (xs := kmarked xs k j) (by rw [hl2]; exact hown) j (k + (j : Nat)) (by omega)
      rw [kmarked_step xs k j hlt, hl2] at hset
      obtain ⟨hown2, hgb, f0, c0⟩ := hset
      have HO2 := hid hown2
      have HB := hid hbel
      have HT := hid hoth
      clear hown hown2 hl2 hbel hoth
      generalize ((kmarked xs k j).getD j 0) = y0 at c0
      replace f0 : _ = _ := f0
      replace c0 : _ = _ := c0
      go_wp2
      go_roundw
      case rel =>
        refine ⟨j + 1, by omega, by go_num, by go_num, ?_, HB.out.setCell hgb.1 _, HT.out.setCell hgb.1 hgb.2 _⟩
        exact HO2.out
      case measure => simp [intOf]; omega
    · obtain rfl : j = xs.length := by omega
      rw [kmarked_all] at hown
      go_wp2
      go_ret
      exact ⟨rfl, hown, hbel, hoth⟩

set_option maxHeartbeats 1000000 in
theorem kheldIntS_any (v : Value) (n : Nat) (k m : Int) (w : World) (hr : KReads w v (kmarks k n)) (hn : n ≤ 1048576) (h0 : 0 ≤ k) (h1 : k ≤ 1152921504606846975) (hm : m = k + (n : Nat)) :
    Calls Try.prog 33 #[v, .int .i64 k] w fun e w' => e = .returned (.int .i64 m) ∧ w' = w := by
  subst hm
  obtain ⟨a, cap, rfl, hl, hx⟩ := hr
  rw [length_kmarks] at hl hx ⊢
  rcases hx with hx | ⟨b, off, rfl, hc⟩
  · have hn : n = 0 := by have := length_kmarks k n; rw [hx] at this; simpa using this.symm
    subst hn
    clear hx
    go_enter Try.func33, Try.ntmps33
    go_wp2
    go_rounds 1
    all_goals (go_ret; exact ⟨by simp, rfl⟩)
  have HC : Hid (∀ i, i < n → KCells w b (off + i) (k + (i : Int))) := fun i hi => by have := hc i hi; rw [kmarks_get k n i hi] at this; exact this
  clear hc
  go_enter Try.func33, Try.ntmps33
  go_wp2
  go_loopw [1, 5] (fun m i wr => ∃ j : Nat, j ≤ n ∧ i = .int .i64 j ∧ m = .int .i64 (k + (j : Nat)) ∧ w = wr) (fun _ i _ => n - (intOf i).toNat)
  case atStart => exact ⟨0, Nat.zero_le _, rfl, by simp, rfl⟩
  case round =>
    obtain ⟨j, hj, rfl, rfl, rfl⟩ := hrel
    by_cases hlt : j < n
    · have c0 : _ = _ := HC.out j hlt
      go_wp2
      go_roundw
      case rel => exact ⟨j + 1, by omega, by go_num, by go_num, trivial⟩
      case measure => simp [intOf]; omega
    · obtain rfl : j = n := by omega
      go_wp2
      go_ret
      exact ⟨rfl, rfl⟩
end Go.Proofs.Ythmkeinhjlmgmah
namespace Go.Proofs.Ythmkeinhjlmgmah
open Go.RowKit

def sdMk (k : Int) (D : SdD) : SdD := ⟨D.f0, spmarks k D.f1.length, kmarks (k + (2 * D.f1.length : Nat)) D.f2.length⟩
set_option maxRecDepth 100000 in
set_option maxHeartbeats 8000000 in
theorem markSender_any (S : Nat → Prop) (lo : Nat) (v : Value) (D : SdD) (k m : Int) (w : World) (ho : SdOwn S w v D) (hS : ∀ g, S g → lo ≤ g ∧ g < w.heap.size) (hlo : lo ≤ w.heap.size) (hn : sdTot D ≤ 1048576) (h0 : 0 ≤ k) (h1 : k ≤ 100000000) (hm : m = k + (sdN D : Nat)) :
    Calls Try.prog 17 #[v, .int .i64 k] w fun e w' => e = .returned (.int .i64 m) ∧ SdOwn S w' v (sdMk k D) ∧ Below lo w w' ∧ OnlyS S w w' := by
  obtain ⟨v1, v2, c1, c2, rfl, ha, h1, h2⟩ := ho
  have n1 : c1.1 ≤ c1.2 ∧ ∀ g, c1.1 ≤ g → g < c1.2 → S g := ha.inn 0 (by omega)
  have n2 : c2.1 ≤ c2.2 ∧ ∀ g, c2.1 ≤ g → g < c2.2 → S g := ha.inn 1 (by omega)
  have d1_2 : c1.2 ≤ c2.1 ∨ c2.2 ≤ c1.1 := ha.dj 0 1 (by omega) (by omega) (by omega)
  have HA := hid ha
  have hN : D.f1.length + D.f2.length ≤ 1048576 := hn
  obtain ⟨k1, hk1⟩ : ∃ k1 : Int, k1 = (k + (2 * D.f1.length : Nat)) := ⟨_, rfl⟩
  have HK1 := hid hk1
  have hq1 : k1 = k + (2 * D.f1.length : Nat) := by omega
  have HQ1 := hid hq1
  have hb1 : 0 ≤ k1 ∧ k1 ≤ 200000000 := by omega
  have hk2 : m = (k + (2 * D.f1.length + D.f2.length : Nat)) := hm
  have HK2 := hid hk2
  have hq2 : m = k1 + (D.f2.length : Nat) := by omega
  have HQ2 := hid hq2
  have hb2 : 0 ≤ m ∧ m ≤ 200000000 := by omega
  clear ha hm hn hk1 hk2 hq1 hq2
  have PB := hid (boxL_new w [.int .i64 D.f0, v1, v2] 34)
  obtain ⟨W, hW⟩ : ∃ W, W = w.alloc (.cells #[.int .i64 D.f0, v1, v2] 34) := ⟨_, rfl⟩
  have bW : Below w.heap.size w W := by rw [hW]; exact (Below.refl _ _).alloc (Nat.le_refl _) _
  have BW := hid bW
  have H1 := hid (h1.below bW)
  have H2 := hid (h2.below bW)
  have ON : Hid (OnlyP S W W) := OnlyP.refl _ _
  rw [← hW] at PB
  have HW := hid hW
  clear bW hW h1 h2
  go_enter Try.func17, Try.ntmps17
  have p := (PB.out.cell 1 (by simp)).1
  change World.cell? _ _ = some v1 at p
  rw [HW.out] at p
  go_wp2_with fail
  rw [← HW.out]
  refine (markSpanS_any c1.1 c1.2 _ D.f1 k k1 _ H1.out (by omega) (by omega) (by omega) HQ1.out).mono ?_
  rintro e w1 ⟨rfl, o, b, on⟩
  have op := OnlyP.of b on
  replace H1 := hid o
  replace H2 := hid (H2.out.onlyP op (fun g g1 g2 h => by omega))
  have oq : OnlyP S _ w1 := op.mono (fun g h => n1.2 g h.1 h.2)
  replace PB := hid (PB.out.of_block (oq.2.1 w.heap.size (fun h => Nat.lt_irrefl _ (hS _ h).2)))
  replace ON := hid (ON.out.trans oq)
  clear o op oq b on p
  have p := (PB.out.cell 2 (by simp)).1
  change World.cell? _ _ = some v2 at p
  go_wp2_with fail
  refine (kmarkIntS_any c2.1 c2.2 _ D.f2 k1 m _ H2.out (by omega) (by omega) (by omega) HQ2.out).mono ?_
  rintro e w2 ⟨rfl, o, b, on⟩
  have op := OnlyP.of b on
  replace H1 := hid (H1.out.onlyP op (fun g g1 g2 h => by omega))
  replace H2 := hid o
  have oq : OnlyP S _ w2 := op.mono (fun g h => n2.2 g h.1 h.2)
  replace PB := hid (PB.out.of_block (oq.2.1 w.heap.size (fun h => Nat.lt_irrefl _ (hS _ h).2)))
  replace ON := hid (ON.out.trans oq)
  clear o op oq b on p
  go_wp2
  go_ret
  have bL : Below lo w w2 := (BW.out.mono hlo).trans (ON.out.below fun j h => (hS j h).1)
  exact ⟨rfl, ⟨v1, v2, c1, c2, rfl, HA.out, H1.out, by have h := H2.out; rw [HK1.out] at h; exact h⟩, bL, fun j hj ho => (ON.out.2.1 j ho).trans (BW.out.block j hj)⟩
end Go.Proofs.Ythmkeinhjlmgmah
namespace Go.Proofs.Ythmkeinhjlmgmah
open Go.RowKit

set_option maxRecDepth 100000 in
set_option maxHeartbeats 8000000 in
theorem heldSender_any (v : Value) (D : SdD) (k m : Int) (w : World) (hr : SdReads w v (sdMk k D)) (hn : sdTot D ≤ 1048576) (h0 : 0 ≤ k) (h1 : k ≤ 100000000) (hm : m = k + (sdN D : Nat)) :
    Calls Try.prog 18 #[v, .int .i64 k] w fun e w' => e = .returned (.int .i64 m) ∧ Below w.heap.size w w' := by
  obtain ⟨v1, v2, rfl, h1, h2⟩ := hr
  have hN : D.f1.length + D.f2.length ≤ 1048576 := hn
  obtain ⟨k1, hk1⟩ : ∃ k1 : Int, k1 = (k + (2 * D.f1.length : Nat)) := ⟨_, rfl⟩
  have hq1 : k1 = k + (2 * D.f1.length : Nat) := by omega
  have HQ1 := hid hq1
  have hb1 : 0 ≤ k1 ∧ k1 ≤ 200000000 := by omega
  have hd1 : decide (k1 < 0) = false := by rw [decide_eq_false_iff_not]; omega
  have hk2 : m = (k + (2 * D.f1.length + D.f2.length : Nat)) := hm
  have hq2 : m = k1 + (D.f2.length : Nat) := by omega
  have HQ2 := hid hq2
  have hb2 : 0 ≤ m ∧ m ≤ 200000000 := by omega
  have hd2 : decide (m < 0) = false := by rw [decide_eq_false_iff_not]; omega
  have H1 : Hid (SpReads w v1 (spmarks k D.f1.length)) := by show SpReads w v1 (spmarks k D.f1.length); exact h1
  have H2 : Hid (KReads w v2 (kmarks k1 D.f2.length)) := by show KReads w v2 (kmarks k1 D.f2.length); rw [hk1]; exact h2
  clear hm hn hk1 hk2 hq1 hq2 h1 h2
  show Calls Try.prog 18 #[.agg #[.int .i64 D.f0, v1, v2], .int .i64 k] w _
  have PB := hid (boxL_new w [.int .i64 D.f0, v1, v2] 34)
  have BW : Hid (Below w.heap.size w (w.alloc (.cells #[.int .i64 D.f0, v1, v2] 34))) := (Below.refl _ _).alloc (Nat.le_refl _) _
  have p1 := (PB.out.cell 1 (by simp)).1
  change World.cell? _ _ = some v1 at p1
  have p2 := (PB.out.cell 2 (by simp)).1
  change World.cell? _ _ = some v2 at p2
  go_enter Try.func18, Try.ntmps18
  go_wp2_with fail
  refine (heldSpanS_any _ D.f1.length k k1 _ (H1.out.below BW.out) (by omega) (by omega) (by omega) HQ1.out).mono ?_
  rintro e w' ⟨rfl, hw⟩; obtain rfl := hw.symm
  go_wp2_with fail
  refine (kheldIntS_any _ D.f2.length k1 m _ (H2.out.below BW.out) (by omega) (by omega) (by omega) HQ2.out).mono ?_
  rintro e w' ⟨rfl, hw⟩; obtain rfl := hw.symm
  go_wp2
  go_ret
  exact ⟨rfl, BW.out⟩
end Go.Proofs.Ythmkeinhjlmgmah
