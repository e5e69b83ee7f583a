/-
  impl.eachOf over texts with strings.Clone: the texts, in memory of their own. Nothing old is written.
-/
import Derived.Test.YtijojdempijhbadXApp
import Derived.Test.YtijojdempijhbadCloneX
namespace Go.Proofs.Ytijojdempijhbad
open Go.RowKit

theorem xowns_of_row {w : World} {g n : Nat} {xs : List XEl} (h : w.rowIs g 9 n (fun j => .string (xs.getD j xz))) (hn : xs.length = n) (hm : n ≤ maxLen) (base : Nat) (hb : base ≤ g) : w.ownsRow base 9 1 (.slice (some ⟨g, 0, none⟩) n n) n (xflat xs) := by
  obtain ⟨c, hc, hs, hf⟩ := h
  refine ⟨by rw [length_xflat, hn, Nat.mul_one], .inr ⟨g, n, c, rfl, hb, hc, Nat.le_refl _, hm, by omega, ?_⟩⟩
  apply List.ext_getElem?
  intro j
  by_cases hj : j < n
  · rw [List.getElem?_take, if_pos (by omega), xflat_get xs j (by omega)]
    have := hf j hj
    simpa using this
  · rw [List.getElem?_eq_none (by simp; omega), List.getElem?_eq_none (by rw [length_xflat]; omega)]

set_option maxRecDepth 100000 in
set_option maxHeartbeats 4000000 in
theorem ieachX_any (v : Value) (xs : List XEl) (w : World) (hr : XReads w v xs) (hl : xs.length ≤ 1000) (hs : ∀ s ∈ xs, s.size ≤ 1000) :
    Calls Try.prog 143 #[v, .func (.func 144) #[] #[]] w fun e w' => ∃ u, e = .returned u ∧ w'.ownsRow w.heap.size 9 1 u xs.length (xflat xs) ∧ Below w.heap.size w w' := by
  have HR := hid hr
  have HZ := hid hs
  obtain ⟨a, cap, rfl, hll, _⟩ := hr
  have mkI := run_make_row' (P := Try.prog) 75 9 (.string xz) 16 Try.underlying75 info_str rfl .i64 .i64 xs.length (by omega) (by omega)
  have K0 := hid (World.rowIs_made w (.string xz) xs.length 9)
  have B : Hid (Below w.heap.size w (w.alloc (.cells (madeCells #[.string xz] xs.length) 9))) := (Below.refl _ _).alloc (Nat.le_refl _) _
  clear hll hs
  go_enter Try.func143, Try.ntmps143
  go_wp2
  obtain ⟨W, hW⟩ : ∃ W, W = w.alloc (.cells (madeCells #[.string xz] xs.length) 9) := ⟨_, rfl⟩
  rw [← hW] at K0 B ⊢
  clear hW mkI
  go_loopw [13] (fun i wr => ∃ k : Nat, k ≤ xs.length ∧ i = .int .i64 k ∧ wr.rowIs w.heap.size 9 xs.length (fun j => .string (if j < k then xs.getD j xz else xz)) ∧ Below w.heap.size w wr) (fun i _ => xs.length - (intOf i).toNat)
  case atStart => exact ⟨0, Nat.zero_le _, rfl, K0.out.congr fun j _ => by simp, B.out⟩
  case round =>
    obtain ⟨k, hk, rfl, hrow, hbel⟩ := hrel
    have HROW := hid hrow
    have HB := hid hbel
    clear hrow hbel
    by_cases hlt : k < xs.length
    · obtain ⟨g, o, cap', e, hc⟩ := HR.out.cells k hlt
      cases e
      have hgw := (hc k hlt).lt
      obtain ⟨x, hx⟩ : ∃ x, x = xs.getD k xz := ⟨_, rfl⟩
      have cx : wr.cell? ⟨g, o + k, none⟩ = some (.string x) := by rw [hx]; exact (hc k hlt).below HB.out hgw
      have HXs : Hid (x.size ≤ 1000) := by rw [hx]; exact HZ.out _ (by simp [List.getD_eq_getElem?_getD, hlt])
      have m0 : (0 : Int) ≤ (k : Int) := by omega
      have m1 : (k : Int) < (xs.length : Int) := by omega
      have HX := hid hx
      clear hc hx
      go_wp2_with fail
      refine (clone_any x _ (by have := HXs.out; omega)).mono ?_
      rintro e w2 ⟨rfl, b2⟩
      have hrow2 := HROW.out.of_block (b2.block _ HROW.out.lt)
      have HS := hid (hrow2.set k (.string x))
      have c2 := hrow2.cell (i := k) hlt
      rw [if_neg (Nat.lt_irrefl k)] at c2
      have f2 := hrow2.frozen k
      have HB2 : Hid (Below w.heap.size w (w2.setCell ⟨w.heap.size, k, none⟩ (.string x))) := (HB.out.trans (b2.mono HB.out.size)).setCell (Nat.le_refl _) _
      clear b2 hrow2 HROW HB cx
      go_wp2
      go_roundw
      case rel =>
        refine ⟨k + 1, by omega, by go_num, HS.out.congr fun j hj => ?_, HB2.out⟩
        by_cases e : j = k
        · subst e; rw [if_pos rfl, if_pos (by omega), HX.out]
        · rw [if_neg e]
          by_cases h : j < k
          · rw [if_pos h, if_pos (by omega)]
          · rw [if_neg h, if_neg (by omega)]
      case measure => simp [intOf]; omega
    · obtain rfl : k = xs.length := by omega
      have HO := hid (xowns_of_row (HROW.out.congr fun j hj => by rw [if_pos hj]) rfl (by unfold maxLen; omega) w.heap.size (Nat.le_refl _))
      go_wp2
      go_ret
      exact ⟨_, rfl, HO.out, HB.out⟩
end Go.Proofs.Ytijojdempijhbad
