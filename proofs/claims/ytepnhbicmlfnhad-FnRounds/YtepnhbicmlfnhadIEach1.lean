/-
  impl.eachOf over numbers with impl.oneMore: each one's, in memory of its own. Nothing old is written.
-/
import Derived.Test.YtepnhbicmlfnhadIRows
namespace Go.Proofs.Ytepnhbicmlfnhad
open Go.RowKit

set_option maxRecDepth 100000 in
set_option maxHeartbeats 4000000 in
theorem ieach_oneMore (f : Int → Int) (v : Value) (xs : List Int) (w : World) (hr : KReads w v xs) (hl : xs.length ≤ 1000) (hF : ∀ i, i < xs.length → ∀ w, Calls Try.prog 52 #[.int .i64 (fl xs i)] w fun e w' => e = .returned (.int .i64 (f (fl xs i))) ∧ w' = w) :
    Calls Try.prog 34 #[v, .func (.func 52) #[] #[]] w fun e w' => ∃ u, e = .returned u ∧ KOwn w.heap.size w'.heap.size w' u (xs.map f) ∧ Below w.heap.size w w' := by
  have HR := hid hr
  have HF := hid hF
  obtain ⟨a, cap, rfl, hll, _⟩ := hr
  have mkI := run_make_row' (P := Try.prog) 23 3 (.int .i64 0) 8 Try.underlying23 info_int rfl .i64 .i64 xs.length (by omega) (by omega)
  have K0 := hid (IRow.made w xs.length (by omega))
  have B : Hid (Below w.heap.size w (w.alloc (.cells (madeCells #[.int .i64 0] xs.length) 3))) := (Below.refl _ _).alloc (Nat.le_refl _) _
  have hsz : (w.alloc (.cells (madeCells #[.int .i64 0] xs.length) 3)).heap.size = w.heap.size + 1 := World.size_alloc _ _
  clear hF hll
  go_enter Try.func34, Try.ntmps34
  go_wp2
  obtain ⟨W, hW⟩ : ∃ W, W = w.alloc (.cells (madeCells #[.int .i64 0] xs.length) 3) := ⟨_, rfl⟩
  rw [← hW] at K0 B hsz ⊢
  clear hW mkI
  go_loopw [13] (fun i wr => ∃ k : Nat, k ≤ xs.length ∧ i = .int .i64 k ∧ IRow wr w.heap.size xs.length xs.length ((xs.map f).take k ++ List.replicate (xs.length - k) 0) ∧ Below w.heap.size W wr) (fun i _ => xs.length - (intOf i).toNat)
  case atStart => exact ⟨0, Nat.zero_le _, rfl, by simpa using K0.out, Below.refl _ _⟩
  case round =>
    obtain ⟨k, hk, rfl, hrow, hbel⟩ := hrel
    have HROW := hid hrow
    have HB := hid hbel
    clear hrow hbel
    by_cases hlt : k < xs.length
    · obtain ⟨g, o, cap', e, hc⟩ := HR.out.cells k hlt
      cases e
      have hgw := (hc k hlt).lt
      obtain ⟨x, hx⟩ : ∃ x, x = fl xs k := ⟨_, rfl⟩
      have cx : wr.cell? ⟨g, o + k, none⟩ = some (.int .i64 x) := by rw [hx]; exact ((hc k hlt).below B.out hgw).below HB.out hgw
      have HFX : Hid (∀ w, Calls Try.prog 52 #[.int .i64 x] w fun e w' => e = .returned (.int .i64 (f x)) ∧ w' = w) := by rw [hx]; exact HF.out k hlt
      have HS := hid (HROW.out.set k (f (fl xs k)))
      rw [map_part f xs k hlt] at HS
      rw [← hx] at HS
      have c2 : wr.cell? ⟨w.heap.size, k, none⟩ = some (.int .i64 (((xs.map f).take k ++ List.replicate (xs.length - k) 0).getD k 0)) := HROW.out.cell hlt
      have f2 : wr.frozen? ⟨w.heap.size, k, none⟩ = false := HROW.out.free k
      generalize ((xs.map f).take k ++ List.replicate (xs.length - k) 0).getD k 0 = y0 at c2
      obtain ⟨y, hy⟩ : ∃ y, f x = y := ⟨_, rfl⟩
      rw [hy] at HFX HS
      have HB2 : Hid (Below w.heap.size W (wr.setCell ⟨w.heap.size, k, none⟩ (.int .i64 y))) := HB.out.setCell (by show w.heap.size ≤ w.heap.size; omega) _
      have m0 : (0 : Int) ≤ (k : Int) := by omega
      have m1 : (k : Int) < (xs.length : Int) := by omega
      clear hc hx hy HROW HB
      go_wp2_with fail
      refine (HFX.out _).mono ?_
      rintro e w' ⟨rfl, hw⟩; obtain rfl := hw.symm
      go_wp2
      go_roundw
      case rel => exact ⟨k + 1, by omega, by go_num, HS.out, HB2.out⟩
      case measure => simp [intOf]; omega
    · obtain rfl : k = xs.length := by omega
      have HO : Hid (KOwn w.heap.size wr.heap.size wr (.slice (some ⟨w.heap.size, 0, none⟩) xs.length xs.length) (xs.map f)) := by
        have h := HROW.out
        rw [List.take_of_length_le (by simp), Nat.sub_self, List.replicate_zero, List.append_nil] at h
        exact h.own (by omega) (Nat.le_refl _) h.caps.2.2
      have HB2 := hid (B.out.trans (HB.out.mono (Nat.le_refl _)))
      go_wp2
      go_ret
      exact ⟨_, rfl, HO.out, HB2.out⟩
theorem oneMore_eq (x : Int) (h : 1 ≤ x ∧ x ≤ 10000) (w : World) : Calls Try.prog 52 #[.int .i64 x] w fun e w' => e = .returned (.int .i64 (oneMore x)) ∧ w' = w := by
  have hw1 : IntKind.i64.wrap (x + 1) = oneMore x := by rw [IntKind.wrap_i64]; unfold oneMore; omega
  go_enter Try.func52, Try.ntmps52
  go_wp2
  go_ret
  exact ⟨rfl, rfl⟩
end Go.Proofs.Ytepnhbicmlfnhad
