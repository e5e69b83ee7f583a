/-
  impl's method push of a list of work that lies in a variable. Nothing else is written.
-/
import Derived.Test.YtndbdioignmaeaaIUp
import Derived.Test.YtndbdioignmaeaaKWorkApp
import Derived.Deep.DeepCutAuto
import Derived.Deep.AppendLies
import Derived.Deep.RegionLawGrows
namespace Go.Proofs.Ytndbdioignmaeaa
open Go.RowKit

theorem push_far {w W w1 : World} {row : Option Nat} (hg : W.grownBy w1 row) (bW : Below w.heap.size w W) (H : Nat) (hH : H < w.heap.size) (hne : row ≠ some H) : w1.cell? ⟨H, 0, none⟩ = w.cell? ⟨H, 0, none⟩ ∧ w1.frozen? ⟨H, 0, none⟩ = w.frozen? ⟨H, 0, none⟩ :=
  ⟨(hg.cell_far _ (Nat.lt_of_lt_of_le hH bW.size) (Ne.symm hne)).trans (bW.cell hH), (hg.frozen_far _ (Nat.lt_of_lt_of_le hH bW.size) (Ne.symm hne)).trans (bW.frozen hH)⟩
theorem push_but {w W w1 : World} {row : Option Nat} (hg : W.grownBy w1 row) (bW : Below w.heap.size w W) : But (fun j => row = some j) w w1 := (But.of bW).grown hg (fun _ h => h)
set_option maxRecDepth 100000 in
set_option maxHeartbeats 8000000 in
theorem push_own (H base n n1 : Nat) (v : Value) (xs l : List WkEl) (x : WkEl) (hl : l = xs ++ [x]) (hn1 : n1 = n + 1) (w : World) (hc : w.cell? ⟨H, 0, none⟩ = some v) (hf : w.frozen? ⟨H, 0, none⟩ = false) (hne : v.ownBlock ≠ some H)
    (ho : w.ownsRow base 48 3 v n (wkflat xs)) (hn : xs.length = n) (hx : n ≤ 1000000) (hb : base ≤ w.heap.size) :
    Calls Try.prog 72 #[.pointer (some ⟨H, 0, none⟩), .agg #[.int .i64 x.1, .int .i64 x.2.1, .int .i64 x.2.2]] w fun e w' => e = .returned (.tuple #[]) ∧ ∃ g cap, w'.cell? ⟨H, 0, none⟩ = some (.slice (some ⟨g, 0, none⟩) n1 cap) ∧ WkOwn g (g + 1) w' (.slice (some ⟨g, 0, none⟩) n1 cap) (upL n l n).1 ∧ (g ≠ H ∧ (v.ownBlock = some g ∨ w.heap.size ≤ g) ∧ g < w'.heap.size ∧ base ≤ g) ∧ But (fun j => v.ownBlock = some j ∨ j = H) w w' ∧ ((upL n l n).2 = n → w'.ownsRow base 48 3 (.slice (some ⟨g, 0, none⟩) n1 cap) n1 (wkflat l)) ∧ w'.frozen? ⟨H, 0, none⟩ = false := by
  obtain ⟨i0, hi, hz0, hz1, hz2⟩ := info_parts info_work
  have HO := hid ho
  have HN := hid hn
  have HLL := hid hl
  have HN1 := hid hn1
  clear hl hn1
  have hH : H < w.heap.size := lt_of_cell hc
  have HNE := hid hne
  have hvb : Hid (∀ k, v.ownBlock = some k → k < w.heap.size) := fun k h => (ho.lt _ h).2
  clear ho hn hne
  go_enter Try.func72, Try.ntmps72
  go_wp2_with fail
  go_region_law
    ((refine step_append_lies _ (by rfl) _ _ _ (by rfl) base 48 i0 (.agg #[.int .i64 0, .int .i64 0, .int .i64 0]) 3 24 Try.underlying87 hi hz0 hz1 hz2 (by rfl) (by decide) v n (wkflat xs) (by rfl) (by first | exact (HO.out.alloc _).drew.alloc _ | exact ((HO.out.alloc _).alloc _).drew) ⟨w.heap.size + 1, 0, none⟩ 1 1 (wkflat [x]) (by rfl) (by rfl) (wkone_at ⟨by simp, by simp, by simp⟩) (wkflat_one _) (by decide) (by unfold maxLen; omega) (by omega) (by simp; omega) (w.heap.size + 2) (by simp) ?_; intro g cap w1 hown1 hgrow hat hlt; obtain ⟨q0, qf⟩ := push_far hgrow (by go_grown) H hH HNE.out; rw [hc] at q0; rw [hf] at qf; have q1 := hgrow.cell (a := ⟨w.heap.size, 0, none⟩) (v := .int .i64 x.1) (by simp) (fun h => Nat.lt_irrefl _ (hvb.out _ h.symm)); have q2 := hgrow.cell (a := ⟨w.heap.size, 1, none⟩) (v := .int .i64 x.2.1) (by simp) (fun h => Nat.lt_irrefl _ (hvb.out _ h.symm)); have q3 := hgrow.cell (a := ⟨w.heap.size, 2, none⟩) (v := .int .i64 x.2.2) (by simp) (fun h => Nat.lt_irrefl _ (hvb.out _ h.symm)); have B1 := hid (push_but (w := w) hgrow (by go_grown)); have O1 := hid hown1; have HAT := hid hat; clear hgrow hown1 hat))
  all_goals
    have hgH : g ≠ H := by
      rcases HAT.out with h | h
      · exact fun e => HNE.out (by rw [h, e])
      · omega
    have HGB : Hid (base ≤ g ∧ (v.ownBlock = some g ∨ w.heap.size ≤ g)) := by
      rcases HAT.out with h | h
      · exact ⟨(HO.out.lt _ h).1, .inl h⟩
      · exact ⟨by omega, .inr (by omega)⟩
    have hwl : w.heap.size ≤ w1.heap.size := B1.out.size
    have hn1 := HN1.out
    have r1 : (n1 : Int) - 1 = (n : Int) := by omega
    have rw2 : IntKind.i64.wrap (n : Int) = (n : Int) := by rw [IntKind.wrap_i64]; omega
    have hn1' : n < n1 := by omega
    have hn2 : n1 ≤ 1048576 := by omega
    have HNN : Hid (l.length = n1) := by show _ = _; rw [HLL.out, List.length_append, HN.out, hn1]; rfl
    rw [← wkflat_append] at O1
    rw [← HLL.out] at O1
    rw [← hn1] at O1 ⊢
    obtain ⟨W, hW⟩ : ∃ W, W = w1.setCell ⟨H, 0, none⟩ (.slice (some ⟨g, 0, none⟩) n1 cap) := ⟨_, rfl⟩
    have hcW : W.cell? ⟨H, 0, none⟩ = some (.slice (some ⟨g, 0, none⟩) n1 cap) := by rw [hW]; exact World.cell?_setCell_same _ _ _ q0
    have hfW : W.frozen? ⟨H, 0, none⟩ = false := by rw [hW]; simpa using qf
    have b2 : But (fun j => j = H) w1 W := by rw [hW]; exact (But.refl _ _).setCell (P := fun j => j = H) rfl _
    have BW : Hid (But (fun j => v.ownBlock = some j ∨ j = H) w W) := B1.out.mono (Q := fun j => v.ownBlock = some j ∨ j = H) (fun j h => .inl h) |>.trans (b2.mono fun j h => .inr h)
    have OW : Hid (W.ownsRow base 48 3 (.slice (some ⟨g, 0, none⟩) n1 cap) n1 (wkflat l)) := owns_but O1.out b2 (fun k h => by simp [Value.ownBlock] at h; omega)
    have HSW : Hid (w1.heap.size = W.heap.size) := by show _ = _; rw [hW]; simp [World.setCell]
    have HWW := hid hW
    have hHW : H < W.heap.size := lt_of_cell hcW
    have OK : Hid (WkOwn g (g + 1) W.drew (.slice (some ⟨g, 0, none⟩) n1 cap) l) := by
      have := (WkOwn.of_owns OW.out (by rw [HNN.out]; omega)).block (by omega)
      exact this.1.below (Below.refl _ _).drew
    clear hn1 hW b2 q0 q1 q2 q3 qf
    have HLT := hid hlt
    clear hi hz0 hz1 hz2 hlt hc hf
    go_wp2_with fail
    rw [← HWW.out]
    go_region_held3 (fun w' => w'.cell? ⟨H, 0, none⟩ = some (.slice (some ⟨g, 0, none⟩) n1 cap)) (go_keep)
      (first | (go_at_call 98; refine (heapUp_any g n1 cap l n _ OK.out HNN.out hn1' hn2).mono ?_; rintro e w3 ⟨rfl, o3, b3, s3⟩; have hc3 := (b3.cell (p := ⟨H, 0, none⟩) (Ne.symm hgH) hHW).trans hcW; have hf3 := (b3.frozen (p := ⟨H, 0, none⟩) (Ne.symm hgH) hHW).trans hfW))
    all_goals
      go_wp2
      go_end0
      refine ⟨rfl, g, cap, hc3, o3, ⟨hgH, HGB.out.2, ?_, HGB.out.1⟩, ?_, ?_, hf3⟩
      · have h3 : W.heap.size ≤ w3.heap.size := b3.size
        have h4 := HSW.out
        have h5 := HLT.out
        omega
      · refine BW.out.drew.and b3 (fun j hj e => ?_)
        subst e
        rcases HGB.out.2 with h | h
        · exact .inl h
        · omega
      · intro h
        exact owns_but (P := fun _ => False) OW.out ((But.refl _ _).drew.trans (But.of (s3 h))) (fun _ _ h => h)
theorem owns_one {w : World} {base : Nat} {t : TypeId} {v : Value} {cs : List Value} (h : w.ownsRow base t 3 v (0 + 1) cs) : ∃ g cap, v = .slice (some ⟨g, 0, none⟩) 1 cap ∧ base ≤ g ∧ g < w.heap.size := by
  rcases h.2 with ⟨_, h0⟩ | ⟨g, cap, cur, rfl, hg, hh, _⟩
  · omega
  · exact ⟨g, cap, rfl, hg, (Array.getElem?_eq_some_iff.1 hh).1⟩
set_option maxRecDepth 100000 in
set_option maxHeartbeats 8000000 in
theorem push_none (H : Nat) (a : Addr) (x : WkEl) (w : World) (hc : w.cell? ⟨H, 0, none⟩ = some (.slice (some a) 0 0)) (hf : w.frozen? ⟨H, 0, none⟩ = false) :
    Calls Try.prog 72 #[.pointer (some ⟨H, 0, none⟩), .agg #[.int .i64 x.1, .int .i64 x.2.1, .int .i64 x.2.2]] w fun e w' => e = .returned (.tuple #[]) ∧ ∃ g cap, w'.cell? ⟨H, 0, none⟩ = some (.slice (some ⟨g, 0, none⟩) 1 cap) ∧ WkOwn g (g + 1) w' (.slice (some ⟨g, 0, none⟩) 1 cap) [x] ∧ (w.heap.size ≤ g ∧ g < w'.heap.size) ∧ But (fun j => j = H) w w' := by
  obtain ⟨i0, hi, hz0, hz1, hz2⟩ := info_parts info_work
  have hH : H < w.heap.size := lt_of_cell hc
  go_enter Try.func72, Try.ntmps72
  go_wp2_with fail
  go_region_law
    ((refine step_append_grows (by rfl) _ _ _ (by rfl) 48 i0 (.agg #[.int .i64 0, .int .i64 0, .int .i64 0]) 3 24 Try.underlying87 hi hz0 hz1 hz2 (by rfl) (by decide) (some a) 0 0 [] (by rfl) (by intro h; cases h) (by rfl) (by intro b0 _ j u h; simp at h) ⟨w.heap.size + 1, 0, none⟩ 1 1 (wkflat [x]) (by rfl) (by rfl) (wkone_at ⟨by simp, by simp, by simp⟩) (wkflat_one _) (by omega) (by unfold maxLen; omega) (by omega) ?_; intro v1 w1 hown1 hgrow; obtain ⟨g, cap, rfl, hg0, hlt⟩ := owns_one hown1; obtain ⟨q0, qf⟩ := push_far hgrow (by go_grown) H hH (by intro h; cases h); rw [hc] at q0; rw [hf] at qf; have B1 := hid (push_but (w := w) hgrow (by go_grown)); have O1 := hid hown1; have HG0 : Hid (w.heap.size ≤ g) := (by simp at hg0; show _ ≤ _; omega); clear hgrow hown1 hg0))
  all_goals
    have hgH : g ≠ H := by have := HG0.out; omega
    have hwl : w.heap.size ≤ w1.heap.size := B1.out.size
    obtain ⟨W, hW⟩ : ∃ W, W = w1.setCell ⟨H, 0, none⟩ (.slice (some ⟨g, 0, none⟩) 1 cap) := ⟨_, rfl⟩
    have hcW : W.cell? ⟨H, 0, none⟩ = some (.slice (some ⟨g, 0, none⟩) 1 cap) := by rw [hW]; exact World.cell?_setCell_same _ _ _ q0
    have b2 : But (fun j => j = H) w1 W := by rw [hW]; exact (But.refl _ _).setCell (P := fun j => j = H) rfl _
    have BW : Hid (But (fun j => j = H) w W) := (B1.out.mono (Q := fun j => j = H) (fun j h => by cases h)).trans b2
    have OW : Hid (W.ownsRow (w1.heap.size - w1.heap.size) 48 3 (.slice (some ⟨g, 0, none⟩) 1 cap) 1 (wkflat [x])) := owns_but (wkowns_mono O1.out (by omega)) b2 (fun k h => by simp [Value.ownBlock] at h; omega)
    have HSW : Hid (w1.heap.size = W.heap.size) := by show _ = _; rw [hW]; simp [World.setCell]
    have HWW := hid hW
    have hHW : H < W.heap.size := lt_of_cell hcW
    have OK : Hid (WkOwn g (g + 1) W.drew (.slice (some ⟨g, 0, none⟩) 1 cap) [x]) := by
      have := (WkOwn.of_owns OW.out (by simp)).block (by omega)
      exact this.1.below (Below.refl _ _).drew
    have HU : Hid ((upL 0 [x] 0).1 = [x]) := rfl
    have HLT := hid hlt
    have r1 : (1 : Int) - 1 = 0 := by omega
    clear hW b2 q0 qf hi hz0 hz1 hz2 hlt hc hf r1
    go_wp2_with fail
    rw [← HWW.out]
    go_region_held3 (fun w' => w'.cell? ⟨H, 0, none⟩ = some (.slice (some ⟨g, 0, none⟩) 1 cap)) (go_keep)
      (first | (go_at_call 98; refine (heapUp_any g 1 cap [x] 0 _ OK.out rfl (by omega) (by omega)).mono ?_; rintro e w3 ⟨rfl, o3, b3, s3⟩; have hc3 := (b3.cell (p := ⟨H, 0, none⟩) (Ne.symm hgH) hHW).trans hcW))
    all_goals
      go_wp2
      go_end0
      refine ⟨rfl, g, cap, hc3, o3, ⟨HG0.out, ?_⟩, ?_⟩
      · have h3 : W.heap.size ≤ w3.heap.size := b3.size
        have h4 := HSW.out
        have h5 := HLT.out
        omega
      · exact BW.out.drew.and b3 (fun j hj e => by subst e; have := HG0.out; omega)
/-- x behind what is there, up, in memory of the call's own. -/
theorem push_any (H base n n1 : Nat) (v : Value) (xs l : List WkEl) (x : WkEl) (hl : l = xs ++ [x]) (hn1 : n1 = n + 1) (w : World) (hc : w.cell? ⟨H, 0, none⟩ = some v) (hf : w.frozen? ⟨H, 0, none⟩ = false)
    (ho : (xs = [] ∧ ∃ a, v = .slice a 0 0) ∨ (w.ownsRow base 48 3 v n (wkflat xs) ∧ v.ownBlock ≠ some H)) (hn : xs.length = n) (hx : n ≤ 1000000) (hb : base ≤ w.heap.size) (hH : base ≤ H) :
    Calls Try.prog 72 #[.pointer (some ⟨H, 0, none⟩), .agg #[.int .i64 x.1, .int .i64 x.2.1, .int .i64 x.2.2]] w fun e w' => e = .returned (.tuple #[]) ∧ ∃ g cap, w'.cell? ⟨H, 0, none⟩ = some (.slice (some ⟨g, 0, none⟩) n1 cap) ∧ WkOwn g (g + 1) w' (.slice (some ⟨g, 0, none⟩) n1 cap) (upL n l n).1 ∧ (base ≤ g ∧ g < w'.heap.size) ∧ Below base w w' := by
  have own : ∀ v, w.cell? ⟨H, 0, none⟩ = some v → v.ownBlock ≠ some H → w.ownsRow base 48 3 v n (wkflat xs) → Calls Try.prog 72 #[.pointer (some ⟨H, 0, none⟩), .agg #[.int .i64 x.1, .int .i64 x.2.1, .int .i64 x.2.2]] w fun e w' => e = .returned (.tuple #[]) ∧ ∃ g cap, w'.cell? ⟨H, 0, none⟩ = some (.slice (some ⟨g, 0, none⟩) n1 cap) ∧ WkOwn g (g + 1) w' (.slice (some ⟨g, 0, none⟩) n1 cap) (upL n l n).1 ∧ (base ≤ g ∧ g < w'.heap.size) ∧ Below base w w' := fun v hc hne ho =>
    (push_own H base n n1 v xs l x hl hn1 w hc hf hne ho hn hx hb).mono fun e w' ⟨h1, g, cap, h2, h3, h4, h5, _⟩ => ⟨h1, g, cap, h2, h3, ⟨h4.2.2.2, h4.2.2.1⟩, h5.to hb fun k hk h => by
      rcases h with h | h
      · have := (ho.lt _ h).1; omega
      · omega⟩
  rcases ho with ⟨h0, a, rfl⟩ | ⟨ho, hne⟩
  · cases a with
    | none =>
      refine own _ hc (by simp [Value.ownBlock]) ?_
      have : n = 0 := by rw [← hn, h0]; rfl
      subst this
      rw [h0]
      exact World.ownsRow_nil _ _ _ _
    | some a =>
      have : n = 0 := by rw [← hn, h0]; rfl
      subst this
      have e1 : n1 = 1 := hn1
      have e2 : l = [x] := by rw [hl, h0]; rfl
      rw [e1, e2]
      exact (push_none H a x w hc hf).mono fun e w' ⟨h1, g, cap, h2, h3, h4, h5⟩ => ⟨h1, g, cap, h2, h3, ⟨by omega, h4.2⟩, h5.to hb fun k hk h => by omega⟩
  · exact own v hc hne ho
end Go.Proofs.Ytndbdioignmaeaa
