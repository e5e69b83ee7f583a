/-
  impl.PopHeap: the first of a heap, and what is left, in memory of its own. Nothing old is written.
-/
import Derived.Test.YtndbdioignmaeaaIPop
import Derived.Test.YtndbdioignmaeaaIInHeap
import Derived.Test.YtndbdioignmaeaaWClone
import Derived.Test.YtndbdioignmaeaaPushMath
namespace Go.Proofs.Ytndbdioignmaeaa
open Go.RowKit

set_option maxHeartbeats 2000000 in
theorem iPopHeap_no (v : Value) (xs : List WkEl) (w : World) (hr : WkReads w v xs) (h : popB xs = false) :
    Calls Try.prog 30 #[v] w fun e w' => e = .returned (.tuple #[.slice none 0 0, .agg #[.int .i64 0, .int .i64 0, .int .i64 0], .bool false]) ∧ Below w.heap.size w w' := by
  have HR := hid hr
  obtain ⟨t, ht⟩ : ∃ t, (goodW xs && heapB xs) = t := ⟨_, rfl⟩
  have HT := hid ht
  obtain ⟨a, cap, rfl, _, _⟩ := hr
  have hz : t = true → xs.length = 0 := fun e => by
    unfold popB at h
    rw [ht, e] at h
    simpa using h
  have HZ := hid hz
  clear ht h hz
  go_enter Try.func30, Try.ntmps30
  go_wp2_with fail
  refine (igoodHeap_eq _ xs t HT.out _ (HR.out.below (by go_grown))).mono ?_
  rintro e w1 ⟨rfl, b1⟩
  have B1 : Hid (Below w.heap.size w w1) := ((Below.refl _ _).alloc (Nat.le_refl _) _).trans (b1.mono (by simp))
  obtain ⟨hx, hf⟩ := alloc3 w (0, 0, 0)
  have HX := hid (hx.below b1 (by simp))
  obtain ⟨x0, x1, x2⟩ := hx.below b1 (by simp)
  obtain ⟨f0, f1, f2⟩ := hf.below b1 (by simp)
  clear b1 hx hf
  cases t
  · go_wp2
    obtain ⟨e0, e1, e2⟩ := put3_same HX.out (0, 0, 0)
    exact bodyPost_ret (v := .tuple #[.slice none 0 0, .agg #[.int .i64 0, .int .i64 0, .int .i64 0], .bool false]) (by simp [results, Try.results30, go_sem, e0, e1, e2]) rfl ⟨rfl, below_put3 B1.out (Nat.le_refl _) 0 (0, 0, 0)⟩
  · have h0 : xs.length = 0 := HZ.out rfl
    have hd : ((xs.length : Int) == 0) = true := by rw [h0]; rfl
    clear h0
    go_wp2
    obtain ⟨e0, e1, e2⟩ := put3_same HX.out (0, 0, 0)
    exact bodyPost_ret (v := .tuple #[.slice none 0 0, .agg #[.int .i64 0, .int .i64 0, .int .i64 0], .bool false]) (by simp [results, Try.results30, go_sem, e0, e1, e2]) rfl ⟨rfl, below_put3 B1.out (Nat.le_refl _) 0 (0, 0, 0)⟩

set_option maxHeartbeats 4000000 in
theorem iPopHeap_yes (v : Value) (xs : List WkEl) (x : WkEl) (hx0 : x = xs.getD 0 wz) (w : World) (hr : WkReads w v xs) (h : popB xs = true) :
    Calls Try.prog 30 #[v] w fun e w' => ∃ v', e = .returned (.tuple #[v', .agg #[.int .i64 x.1, .int .i64 x.2.1, .int .i64 x.2.2], .bool true]) ∧ WkOwn w.heap.size w'.heap.size w' v' (removeL xs 0) ∧ Below w.heap.size w w' := by
  have HR := hid hr
  unfold popB at h
  rw [Bool.and_eq_true] at h
  have HG := hid h.1
  have hl := goodW_len (Bool.and_eq_true _ _ ▸ h.1).1
  have hpos : 0 < xs.length := by have := h.2; simp at this; exact List.length_pos_iff.2 this
  obtain ⟨a, cap, rfl, _, _⟩ := hr
  have hd : ((xs.length : Int) == 0) = false := by simp; intro h; rw [h] at hpos; simp at hpos
  have HX0 := hid hx0
  clear h hx0
  go_enter Try.func30, Try.ntmps30
  go_wp2_with fail
  refine (igoodHeap_eq _ xs true HG.out _ (HR.out.below (by go_grown))).mono ?_
  rintro e w1 ⟨rfl, b1⟩
  have B1 : Hid (Below w.heap.size w w1) := ((Below.refl _ _).alloc (Nat.le_refl _) _).trans (b1.mono (by simp))
  have hs1 : w.heap.size < w1.heap.size := by have := b1.size; simp at this; omega
  obtain ⟨hx, hf⟩ := alloc3 w (0, 0, 0)
  have X1 := hid (hx.below b1 (by simp))
  have F1 := hid (hf.below b1 (by simp))
  clear b1 hx hf
  go_wp2_with fail
  refine (wclone_any _ xs _ (HR.out.below B1.out) (by omega)).mono ?_
  rintro e w3 ⟨v3, rfl, b3, h3⟩
  have h0 : xs ≠ [] := List.length_pos_iff.1 hpos
  obtain ⟨_, h3⟩ := h3.resolve_left (fun h => h0 h.1)
  obtain ⟨g, c3, rfl, hgb, o3⟩ := WkOwn.nonempty h3 (by omega) h0 (Nat.le_refl _)
  have B3 : Hid (Below w.heap.size w w3) := B1.out.trans (b3.mono B1.out.size)
  have X3 := hid (X1.out.below b3 hs1)
  have F3 := hid (F1.out.below b3 hs1)
  obtain ⟨W, hW⟩ : ∃ W, W = w3.alloc (.cells #[.slice (some ⟨g, 0, none⟩) xs.length c3] 87) := ⟨_, rfl⟩
  have hcW : W.cell? ⟨w3.heap.size, 0, none⟩ = some (.slice (some ⟨g, 0, none⟩) xs.length c3) := by rw [hW]; simp
  have hfW : W.frozen? ⟨w3.heap.size, 0, none⟩ = false := by rw [hW]; simp
  have bW : Below w3.heap.size w3 W := by rw [hW]; exact (Below.refl _ _).alloc (Nat.le_refl _) _
  have hs3 : w.heap.size < w3.heap.size := by have := b3.size; omega
  have XW := hid (X3.out.below bW hs3)
  have FW := hid (F3.out.below bW hs3)
  have PP := hid (pop_any w3.heap.size g xs.length (xs.length - 1) c3 xs x HX0.out W hcW hfW (by omega) (o3.below bW) rfl (by omega) (by omega))
  have BW : Hid (Below w.heap.size w W) := B3.out.trans (bW.mono B3.out.size)
  have hsW : w3.heap.size < W.heap.size := lt_of_cell hcW
  have HWW := hid hW
  clear b3 h3 o3 hW bW h0 B1 B3 X1 F1 X3 F3
  go_wp2_with fail
  rw [← HWW.out]
  refine PP.out.mono ?_
  rintro e w4 ⟨rfl, hc4, o4, b4, _⟩
  have hs4 := b4.size
  have B4 : Hid (Below w.heap.size w w4) := BW.out.trans (b4.to (by omega) (fun j hj h => by omega))
  have O4 := hid (o4.mono (lo' := w.heap.size + 1) (hi' := w4.heap.size) (by omega) (by omega))
  have X4 : Hid (WkCells w4 w.heap.size 0 (0, 0, 0)) := XW.out.of_block (b4.2 _ (by omega) (by omega))
  have F4 : Hid (WkFree w4 w.heap.size 0) := FW.out.of_block (b4.2 _ (by omega) (by omega))
  obtain ⟨V, hV⟩ : ∃ V, V = w4.alloc (.cells #[.int .i64 x.1, .int .i64 x.2.1, .int .i64 x.2.2] 48) := ⟨_, rfl⟩
  obtain ⟨⟨p0, p1, p2⟩, _⟩ := alloc3 w4 x
  rw [← hV] at p0 p1 p2
  have bV : Below w4.heap.size w4 V := by rw [hV]; exact (Below.refl _ _).alloc (Nat.le_refl _) _
  have hcV := (bV.cell (p := ⟨w3.heap.size, 0, none⟩) (by show w3.heap.size < w4.heap.size; omega)).trans hc4
  have XV := hid (X4.out.below bV (by omega))
  obtain ⟨x0, x1, x2⟩ := XV.out
  obtain ⟨f0, f1, f2⟩ := F4.out.below bV (by omega)
  have OV := hid (O4.out.below bV)
  have BV : Hid (Below w.heap.size w V) := B4.out.trans (bV.mono B4.out.size)
  have HSV : Hid (w4.heap.size ≤ V.heap.size) := bV.size
  have HVV := hid hV
  clear o4 b4 hV bV hc4 O4 X4 F4 B4
  go_wp2_with fail
  rw [← HVV.out]
  go_region
  all_goals
    go_wp2
    obtain ⟨e0, e1, e2⟩ := put3_same XV.out x
    refine bodyPost_ret (v := .tuple #[.slice (some ⟨g, 0, none⟩) (xs.length - 1) c3, .agg #[.int .i64 x.1, .int .i64 x.2.1, .int .i64 x.2.2], .bool true]) (by simp [results, Try.results30, go_sem, e0, e1, e2]) rfl ⟨_, rfl, ?_, (below_put3 BV.out (Nat.le_refl _) 0 x).drew⟩
    refine ((OV.out.at fun j h1 h2 _ => ?_).mono (lo' := w.heap.size) (by omega) ?_).below (Below.refl _ _).drew
    · rw [Below.heap_setCell _ _ _ _ (by show j ≠ w.heap.size; omega), Below.heap_setCell _ _ _ _ (by show j ≠ w.heap.size; omega), Below.heap_setCell _ _ _ _ (by show j ≠ w.heap.size; omega)]
    · rw [show (put3 V w.heap.size 0 x).drew.heap.size = V.heap.size from size_put3 _ _ _ _]; exact HSV.out
theorem iPopHeap_any (v : Value) (xs : List WkEl) (w : World) (hr : WkReads w v xs) :
    Calls Try.prog 30 #[v] w fun e w' => ∃ v', e = .returned (.tuple #[v', .agg #[.int .i64 (popX xs).1, .int .i64 (popX xs).2.1, .int .i64 (popX xs).2.2], .bool (popB xs)]) ∧ WkOwn w.heap.size w'.heap.size w' v' (popY xs) ∧ Below w.heap.size w w' := by
  cases h : popB xs with
  | false =>
    rw [(popY_no h).1, (popY_no h).2]
    exact (iPopHeap_no v xs w hr h).mono fun _ _ ⟨a, b⟩ => ⟨_, a, wkown_nil _ _ _ _ _, b⟩
  | true =>
    rw [(popY_yes h).1, (popY_yes h).2]
    exact iPopHeap_yes v xs _ rfl w hr h
end Go.Proofs.Ytndbdioignmaeaa
