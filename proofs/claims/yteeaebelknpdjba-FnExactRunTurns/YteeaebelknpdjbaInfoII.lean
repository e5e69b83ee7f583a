/-
  The type of rows of rows of numbers. A fact of the program.
  A row of rows, made anew: plain facts on the memory.
  laws.toIntSS: rows of rows, copied into memory of their own. Nothing old is written.
-/
import Derived.Test.YteeaebelknpdjbaInts
import Derived.Test.YteeaebelknpdjbaQSet
import Derived.Test.YteeaebelknpdjbaIntsTo
namespace Go.Proofs.Yteeaebelknpdjba
open Go.RowKit

theorem info_ints : (Try.prog.info? 22).map (fun i => (i.zero, i.size, i.bytes)) = some (some (.slice none 0 0), 1, 24) := by kernel_rfl
end Go.Proofs.Yteeaebelknpdjba
namespace Go.Proofs.Yteeaebelknpdjba
open Go.RowKit

theorem qmade (w : World) (n : Nat) (xss : List (List KEl)) (hx : xss.length = n) (hn : n ≤ 1048576) : QRow (w.alloc (.cells (madeCells #[.slice none 0 0] n) 22)) (w.heap.size, w.heap.size + 1) (.slice (some ⟨w.heap.size, 0, none⟩) n n) (qpart xss 0) (fun _ => (w.heap.size + 1, w.heap.size + 1)) := by
  refine ⟨by rw [length_qpart]; omega, .inr ⟨w.heap.size, n, fun _ => .slice none 0 0, by rw [length_qpart, hx], by rw [length_qpart]; exact ⟨Nat.le_refl _, Nat.lt_succ_self _, by omega⟩, fun i hi => ?_⟩⟩
  rw [length_qpart] at hi
  rw [qpart_get xss 0 i hi, if_neg (by omega)]
  refine ⟨?_, ?_, kown_nil _ _ _ _ _⟩
  · rw [World.cell?_alloc_new]
    simp [madeCells, show i < n by omega, Nat.mod_one]
  · show World.frozen? _ _ = false
    simp
end Go.Proofs.Yteeaebelknpdjba
namespace Go.Proofs.Yteeaebelknpdjba
open Go.RowKit

set_option maxRecDepth 100000 in
set_option maxHeartbeats 8000000 in
theorem toIntSS_any (va : Value) (xss : List (List KEl)) (w : World) (ha : QReads w va xss) (hx : xss.length ≤ 1048576) (hxs : ∀ i, i < xss.length → (xss.getD i []).length ≤ 1048576) :
    Calls Try.prog 34 #[va] w fun e w' => ∃ v, e = .returned v ∧ ∃ c iv, QRow w' c v xss iv ∧ Apart w.heap.size w'.heap.size (xss.length + 1) (ivc c iv) ∧ Below w.heap.size w w' := by
  have HR := hid ha
  have HX := hid hxs
  obtain ⟨a, cap, rfl, _, _⟩ := ha
  obtain ⟨i0, hi, hz0, hz1, hz2⟩ := info_parts info_ints
  clear hxs
  go_enter Try.func34, Try.ntmps34
  go_wp2_with (at_make; refine wpList_make_row _ rfl _ _ 23 rfl 22 i0 (.slice none 0 0) Try.underlying23 hi hz0 hz1 rfl .i64 .i64 xss.length rfl rfl (by rw [hz2]; omega) (by omega) ?_)
  have O0 := hid (qmade w xss.length xss rfl hx)
  go_loopw [4] (fun i wr => ∃ k : Nat, k ≤ xss.length ∧ i = .int .i64 k ∧ ∃ iv, QRow wr (w.heap.size, w.heap.size + 1) (.slice (some ⟨w.heap.size, 0, none⟩) xss.length xss.length) (qpart xss k) iv ∧ Apart w.heap.size wr.heap.size (xss.length + 1) (ivc (w.heap.size, w.heap.size + 1) iv) ∧ Below w.heap.size w wr) (fun i _ => xss.length - (intOf i).toNat)
  case atStart =>
    refine ⟨0, Nat.zero_le _, rfl, _, O0.out, ⟨fun j _ => ?_, fun j k _ _ hne => ?_⟩, (Below.refl _ _).alloc (Nat.le_refl _) _⟩
    · rcases j with _ | j <;> simp [ivc]
    · rcases j with _ | j <;> rcases k with _ | k <;> simp [ivc, Dj] at hne ⊢
  case round =>
    obtain ⟨k, hk, rfl, iv, hq, hap, hbel⟩ := hrel
    have HQ := hid hq
    have HA := hid hap
    have HB := hid hbel
    clear hq hap hbel O0
    by_cases hlt : k < xss.length
    · obtain ⟨g, o, cap', e, hc⟩ := (HR.out.below HB.out).cells k hlt
      cases e
      obtain ⟨u, cu, hu⟩ := hc k hlt
      have HU := hid hu
      have hl := HX.out k hlt
      have n0 : (0 : Int) ≤ (k : Int) := by omega
      have n1 : (k : Int) < (xss.length : Int) := by omega
      clear hc hu
      go_wp2_with fail
      refine (ktoIntS_any u _ _ HU.out hl).mono ?_
      rintro e w2 ⟨v2, rfl, o2, b2⟩
      obtain ⟨a2, cap2, e2⟩ := o2.form
      obtain ⟨m2, hm2⟩ : ∃ m2, (xss.getD k []).length = m2 := ⟨_, rfl⟩
      rw [hm2] at e2
      subst e2
      have O2 := hid o2
      have B2 : Hid (Below w.heap.size w w2) := HB.out.trans (b2.mono HB.out.size)
      have HQ2 := hid (HQ.out.below b2)
      have hs2 := b2.size
      have hsw := HB.out.size
      obtain ⟨u1, c1, f1, hBc, _⟩ := HQ2.out.cell (length_qpart _ _) k hlt
      have hgt : w.heap.size < wr.heap.size := by have := HA.out.inn 0 (by omega); simp only [ivc] at this; omega
      have HS : Hid (QRow (w2.setCell ⟨w.heap.size, k, none⟩ (.slice a2 m2 cap2)) (w.heap.size, w.heap.size + 1) (.slice (some ⟨w.heap.size, 0, none⟩) xss.length xss.length) (qpart xss (k + 1)) (upd iv k (wr.heap.size, w2.heap.size))) := by
        show QRow _ _ _ _ _
        rw [← qpart_succ]
        exact HQ2.out.set (length_qpart _ _) k hlt _ _ (wr.heap.size, w2.heap.size) O2.out (.inl hgt) HA.out.rows
      have HA2 : Hid (Apart w.heap.size w2.heap.size (xss.length + 1) (ivc (w.heap.size, w.heap.size + 1) (upd iv k (wr.heap.size, w2.heap.size)))) := HA.out.put ⟨Nat.le_refl _, hs2, Nat.le_refl _⟩ hlt
      have HB3 : Hid (Below w.heap.size w (w2.setCell ⟨w.heap.size, k, none⟩ (.slice a2 m2 cap2))) := B2.out.setCell (Nat.le_refl _) _
      clear o2 b2 hBc hm2
      go_wp2
      go_roundw
      case rel => exact ⟨k + 1, by omega, by go_num, _, HS.out, by rw [World.size_setCell]; exact HA2.out, HB3.out⟩
      case measure => simp [intOf]; omega
    · obtain rfl : k = xss.length := by omega
      go_wp2
      go_ret
      exact ⟨_, rfl, _, iv, by have h := HQ.out; rw [qpart_all] at h; exact h, HA.out, HB.out⟩
end Go.Proofs.Yteeaebelknpdjba
