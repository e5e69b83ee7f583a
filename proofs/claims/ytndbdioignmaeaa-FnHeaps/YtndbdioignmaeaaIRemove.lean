/-
  impl's methods remove and pop of a list of work that lies in a variable. Nothing else is written.
-/
import Derived.Test.YtndbdioignmaeaaIDelete
import Derived.Test.YtndbdioignmaeaaIUp
import Derived.Test.YtndbdioignmaeaaIDown
import Derived.Deep.DeepCutAuto
import Derived.Test.YtndbdioignmaeaaHeapLaws
namespace Go.Proofs.Ytndbdioignmaeaa
open Go.RowKit

theorem take_swapL (l : List WkEl) (k m : Nat) : (swapL l k m).take m = (l.take m).set k (l.getD m wz) := by
  unfold swapL
  rw [List.take_set_of_le (by omega), List.take_set]
theorem take_swapL_last (l : List WkEl) (m : Nat) : (swapL l m m).take m = l.take m := by
  unfold swapL
  rw [List.take_set_of_le (by omega), List.take_set_of_le (by omega)]
theorem removeL_last (l : List WkEl) (m : Nat) (hl : l.length = m + 1) : removeL l m = l.take m := by
  unfold removeL
  rw [hl, if_neg (by omega)]
  rfl
theorem removeL_at (l : List WkEl) (k m : Nat) (hl : l.length = m + 1) (hk : k < m) : removeL l k = if (upL k ((swapL l k m).take m) k).2 = k then (downL m (upL k ((swapL l k m).take m) k).1 k 0).1 else (upL k ((swapL l k m).take m) k).1 := by
  unfold removeL putAt
  rw [hl, if_pos (by omega), take_swapL l k m]
  rw [show (l.take (m + 1 - 1)) = l.take m from rfl, show m + 1 - 1 = m from rfl, List.length_take, hl, show min m (m + 1) = m by omega]

set_option maxHeartbeats 4000000 in
theorem remove_any (H g n m cap k : Nat) (xs : List WkEl) (w : World) (hc : w.cell? ⟨H, 0, none⟩ = some (.slice (some ⟨g, 0, none⟩) n cap)) (hf : w.frozen? ⟨H, 0, none⟩ = false) (hne : H ≠ g)
    (ho : WkOwn g (g + 1) w (.slice (some ⟨g, 0, none⟩) n cap) xs) (hn : xs.length = n) (hm : n = m + 1) (hk : k < n) (hx : n ≤ 1048576) :
    Calls Try.prog 83 #[.pointer (some ⟨H, 0, none⟩), .int .i64 k] w fun e w' => e = .returned (.tuple #[]) ∧ w'.cell? ⟨H, 0, none⟩ = some (.slice (some ⟨g, 0, none⟩) m cap) ∧ WkOwn g (g + 1) w' (.slice (some ⟨g, 0, none⟩) m cap) (removeL xs k) ∧ But (fun j => j = g ∨ j = H) w w' ∧ w'.frozen? ⟨H, 0, none⟩ = false := by
  have HO := hid ho
  have HN := hid hn
  have HM := hid hm
  have hH : H < w.heap.size := lt_of_cell hc
  have r1 : (n : Int) - 1 = (m : Int) := by omega
  have r2 : (m : Int) + 1 = (n : Int) := by omega
  have hmn : m < n := by omega
  clear ho hn hm
  go_enter Try.func83, Try.ntmps83
  go_wp2_with fail
  refine (wswap_any g n cap xs k m _ HO.out HN.out hk hmn).mono ?_
  rintro e w1 ⟨rfl, o1, b1⟩
  have O1 := hid o1
  have B1 := hid b1
  have hc1 := (b1.cell (p := ⟨H, 0, none⟩) hne hH).trans hc
  have hf1 := (b1.frozen (p := ⟨H, 0, none⟩) hne hH).trans hf
  have hH1 : H < w1.heap.size := lt_of_cell hc1
  clear o1 b1 hc hf
  go_wp2_with fail
  refine (delete_last g n m cap (swapL xs k m) _ O1.out (by rw [length_swapL]; exact HN.out) HM.out hx).mono ?_
  rintro e w2 ⟨rfl, o2, b2⟩
  have O2 := hid o2
  have B2 : Hid (But (fun j => j = g) w w2) := B1.out.trans b2
  have hc2 := (b2.cell (p := ⟨H, 0, none⟩) hne hH1).trans hc1
  have hf2 := (b2.frozen (p := ⟨H, 0, none⟩) hne hH1).trans hf1
  have hH2 : H < w2.heap.size := lt_of_cell hc2
  clear o2 b2 hc1 hf1 O1 B1 hH1
  by_cases hkm : k = m
  · have hd : ((k : Int) == (m : Int)) = true := by simp [hkm]
    have HR : Hid (removeL xs k = (swapL xs k m).take m) := by
      show _ = _
      have hl : xs.length = m + 1 := by rw [HN.out]; exact HM.out
      rw [hkm, take_swapL_last xs m, removeL_last xs m hl]
    clear hkm
    go_wp2
    refine bodyPost_ret (results_none rfl _ _ _) rfl ?_
    refine ⟨rfl, World.cell?_setCell_same _ _ _ hc2, ?_, (B2.out.mono (Q := fun j => j = g ∨ j = H) (fun j h => .inl h)).setCell (.inr rfl) _, by simpa using hf2⟩
    rw [HR.out]
    exact O2.out.at fun j h1 h2 _ => Below.heap_setCell _ _ _ _ (by show j ≠ H; omega)
  · have hd : ((k : Int) == (m : Int)) = false := by simp; omega
    have hkm' : k < m := by omega
    have HR : Hid (removeL xs k = if (upL k ((swapL xs k m).take m) k).2 = k then (downL m (upL k ((swapL xs k m).take m) k).1 k 0).1 else (upL k ((swapL xs k m).take m) k).1) := removeL_at xs k m (by rw [HN.out]; exact HM.out) hkm'
    have HL2 : Hid (((swapL xs k m).take m).length = m) := by show _ = _; rw [List.length_take, length_swapL, HN.out]; omega
    obtain ⟨l, hl⟩ : ∃ l, l = (swapL xs k m).take m := ⟨_, rfl⟩
    rw [← hl] at HR HL2 O2
    obtain ⟨W, hW⟩ : ∃ W, W = w2.setCell ⟨H, 0, none⟩ (.slice (some ⟨g, 0, none⟩) m cap) := ⟨_, rfl⟩
    have hcW : W.cell? ⟨H, 0, none⟩ = some (.slice (some ⟨g, 0, none⟩) m cap) := by rw [hW]; exact World.cell?_setCell_same _ _ _ hc2
    have hfW : W.frozen? ⟨H, 0, none⟩ = false := by rw [hW]; simpa using hf2
    have BW : Hid (But (fun j => j = g ∨ j = H) w W) := by rw [hW]; exact (B2.out.mono (Q := fun j => j = g ∨ j = H) (fun j h => .inl h)).setCell (.inr rfl) _
    have OW : Hid (WkOwn g (g + 1) W (.slice (some ⟨g, 0, none⟩) m cap) l) := by rw [hW]; exact O2.out.at fun j h1 h2 _ => Below.heap_setCell _ _ _ _ (by show j ≠ H; omega)
    have HW := hid hW
    have hHW : H < W.heap.size := lt_of_cell hcW
    have OWd : Hid (WkOwn g (g + 1) W.drew (.slice (some ⟨g, 0, none⟩) m cap) l) := OW.out.below (Below.refl _ _).drew
    obtain ⟨b, hb⟩ : ∃ b, moved k l k = b := ⟨_, rfl⟩
    have HMV := hid hb
    have UP : Hid (∀ wq, WkOwn g (g + 1) wq (.slice (some ⟨g, 0, none⟩) m cap) l → Calls Try.prog 98 #[.int .i64 k, lessV (.slice (some ⟨g, 0, none⟩) m cap), swapV (.slice (some ⟨g, 0, none⟩) m cap)] wq fun e w' => e = .returned (.bool b) ∧ WkOwn g (g + 1) w' (.slice (some ⟨g, 0, none⟩) m cap) (upL k l k).1 ∧ But (fun j => j = g) wq w') := fun wq hq => by
      rw [← hb]
      exact (heapUp_any g m cap l k wq hq HL2.out hkm' (by omega)).mono fun _ _ h => ⟨h.1, h.2.1, h.2.2.1⟩
    clear hl hW hb hkm
    go_upto_region 4 with fail
    rw [← HW.out]
    go_region_held3 (fun w' => w'.cell? ⟨H, 0, none⟩ = some (.slice (some ⟨g, 0, none⟩) m cap)) (go_keep)
      (first | (go_at_call 98; refine (UP.out _ OWd.out).mono ?_; rintro e w3 ⟨rfl, o3, b3⟩; have hc3 := (b3.cell (p := ⟨H, 0, none⟩) hne hHW).trans hcW; have hf3 := (b3.frozen (p := ⟨H, 0, none⟩) hne hHW).trans hfW))
    all_goals
      have O3 := hid o3
      have B3 : Hid (But (fun j => j = g ∨ j = H) w w3) := BW.out.drew.trans (b3.mono (fun j h => .inl h))
      have hH3 : H < w3.heap.size := lt_of_cell hc3
      clear o3 b3 OWd OW BW hcW hc2 hf2 hfW
      have HL3 : Hid ((upL k l k).1.length = m) := by show _ = _; rw [upL_len]; exact HL2.out
      cases b
      · have HR3 : Hid (removeL xs k = (downL m (upL k l k).1 k 0).1) := by
          show _ = _
          rw [HR.out, if_pos]
          have := HMV.out
          unfold moved at this
          simpa using this
        obtain ⟨l3, hl3⟩ : ∃ l3, l3 = (upL k l k).1 := ⟨_, rfl⟩
        rw [← hl3] at HR3 HL3 O3
        clear hl3
        go_wp2_with fail
        go_region_held3 (fun w' => w'.cell? ⟨H, 0, none⟩ = some (.slice (some ⟨g, 0, none⟩) m cap)) (go_keep)
          (first | (go_at_call 105; refine (heapDown_any g m cap l3 k _ (O3.out.below (Below.refl _ _).drew) HL3.out hkm' (by omega)).mono ?_; rintro e w4 ⟨rfl, o4, b4⟩; have hc4 := (b4.cell (p := ⟨H, 0, none⟩) hne hH3).trans hc3; have hf4 := (b4.frozen (p := ⟨H, 0, none⟩) hne hH3).trans hf3))
        all_goals
          go_wp2
          go_end0
          exact ⟨rfl, hc4, by rw [HR3.out]; exact o4, B3.out.drew.trans (b4.mono (fun j h => .inl h)), hf4⟩
      · have HR3 : Hid (removeL xs k = (upL k l k).1) := by
          show _ = _
          rw [HR.out, if_neg]
          have := HMV.out
          unfold moved at this
          simpa using this
        go_wp2
        go_end0
        exact ⟨rfl, hc3, by rw [HR3.out]; exact O3.out, B3.out, hf3⟩
end Go.Proofs.Ytndbdioignmaeaa
