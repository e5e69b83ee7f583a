/-
  laws.sameWorks: true at two lists that read alike; laws.manyOf: how often one is among a list. Nothing old is written.
-/
import Derived.Test.YtndbdioignmaeaaHeapLaws
import Derived.Deep.RegionHeld3
namespace Go.Proofs.Ytndbdioignmaeaa
open Go.RowKit

set_option maxHeartbeats 1000000 in
theorem sameWorks_same (va vb : Value) (xs : List WkEl) (w : World) (ha : WkReads w va xs) (hb : WkReads w vb xs) :
    Calls Try.prog 28 #[va, vb] w fun e w' => e = .returned (.bool true) ∧ Below w.heap.size w w' := by
  have HA := hid ha
  have HB := hid hb
  obtain ⟨a, ca, rfl, _, _⟩ := ha
  obtain ⟨b, cb, rfl, _, _⟩ := hb
  have hd : ((xs.length : Int) != (xs.length : Int)) = false := by simp
  go_enter Try.func28, Try.ntmps28
  go_wp2
  go_loopw [13] (fun i wr => ∃ k : Nat, k ≤ xs.length ∧ i = .int .i64 k ∧ Below w.heap.size w wr) (fun i _ => xs.length - (intOf i).toNat)
  case atStart => exact ⟨0, Nat.zero_le _, rfl, Below.refl _ _⟩
  case round =>
    obtain ⟨k, hk, rfl, hal⟩ := hrel
    by_cases hlt : k < xs.length
    · obtain ⟨ga, oa, cap', e, hca⟩ := (HA.out.below hal).cells k hlt
      cases e
      obtain ⟨gb, ob, cap', e, hcb⟩ := (HB.out.below hal).cells k hlt
      cases e
      obtain ⟨h0, h1, h2⟩ := hca k hlt
      obtain ⟨k0, k1, k2⟩ := hcb k hlt
      have HL := hid hal
      clear hal hca hcb
      generalize (xs.getD k (0, 0, 0)).1 = p at h0 k0
      generalize (xs.getD k (0, 0, 0)).2.1 = q at h1 k1
      generalize (xs.getD k (0, 0, 0)).2.2 = r at h2 k2
      go_wp2_with fail
      go_region_held3 (fun w' => (w'.cell? ⟨ga, oa + k * 3, none⟩ = some (.int .i64 p) ∧ w'.cell? ⟨ga, oa + k * 3 + 1, none⟩ = some (.int .i64 q) ∧ w'.cell? ⟨ga, oa + k * 3 + 2, none⟩ = some (.int .i64 r)) ∧ w'.cell? ⟨gb, ob + k * 3, none⟩ = some (.int .i64 p) ∧ w'.cell? ⟨gb, ob + k * 3 + 1, none⟩ = some (.int .i64 q) ∧ w'.cell? ⟨gb, ob + k * 3 + 2, none⟩ = some (.int .i64 r)) (go_keep) (fail)
      go_wp2
      go_roundw
      case rel => exact ⟨k + 1, by omega, by go_num, HL.out.drew⟩
      case measure => simp [intOf]; omega
    · go_wp2
      go_ret
      exact ⟨rfl, hal⟩
theorem many_step (xs : List WkEl) (x : WkEl) (k : Nat) (hk : k < xs.length) : many (xs.take (k + 1)) x = many (xs.take k) x + if xs.getD k wz = x then 1 else 0 := by
  unfold many
  rw [List.take_succ_eq_append_getElem hk, List.count_append, List.count_singleton]
  rw [show xs.getD k wz = xs[k] by rw [List.getD_eq_getElem?_getD, List.getElem?_eq_getElem hk]; rfl]
  simp only [beq_iff_eq]
theorem many_le (xs : List WkEl) (x : WkEl) : many xs x ≤ xs.length := List.count_le_length
set_option maxHeartbeats 2000000 in
theorem manyOf_any (v : Value) (xs : List WkEl) (x : WkEl) (n : Nat) (hn : n = many xs x) (w : World) (hr : WkReads w v xs) (hx : xs.length ≤ 1048576) :
    Calls Try.prog 31 #[v, .agg #[.int .i64 x.1, .int .i64 x.2.1, .int .i64 x.2.2]] w fun e w' => e = .returned (.int .i64 n) ∧ Below w.heap.size w w' := by
  have HR := hid hr
  have HNN := hid hn
  clear hn
  obtain ⟨a, cap, rfl, _, _⟩ := hr
  go_enter Try.func31, Try.ntmps31
  go_wp2
  go_loopw [5, 10] (fun s i wr => ∃ k c : Nat, k ≤ xs.length ∧ i = .int .i64 k ∧ s = .int .i64 c ∧ c ≤ k ∧ c = many (xs.take k) x ∧ (wr.cell? ⟨w.heap.size, 0, none⟩ = some (.int .i64 x.1) ∧ wr.cell? ⟨w.heap.size, 1, none⟩ = some (.int .i64 x.2.1) ∧ wr.cell? ⟨w.heap.size, 2, none⟩ = some (.int .i64 x.2.2)) ∧ Below w.heap.size w wr) (fun _ i _ => xs.length - (intOf i).toNat)
  case atStart => exact ⟨0, 0, Nat.zero_le _, rfl, rfl, Nat.le_refl _, rfl, ⟨by simp, by simp, by simp⟩, by go_grown⟩
  case round =>
    obtain ⟨k, c, hk, rfl, rfl, hck, hc, ⟨x0, x1, x2⟩, hbel⟩ := hrel
    have HC := hid hc
    have HB := hid hbel
    clear hc hbel
    by_cases hlt : k < xs.length
    · obtain ⟨g, o, cap', e, hcc⟩ := (HR.out.below HB.out).cells k hlt
      cases e
      obtain ⟨y, hy0⟩ : ∃ y, y = xs.getD k (0, 0, 0) := ⟨_, rfl⟩
      have hck' := hcc k hlt
      rw [← hy0] at hck'
      obtain ⟨c0, c1, c2⟩ := hck'
      have HS : Hid (many (xs.take (k + 1)) x = c + if y = x then 1 else 0) := by show _ = _; rw [many_step xs x k hlt, HC.out, hy0]
      have hH : w.heap.size < wr.heap.size := lt_of_cell x0
      have bA : ∀ o, Below wr.heap.size wr (wr.alloc o) := fun o => (Below.refl _ _).alloc (Nat.le_refl _) o
      have HBA := hid bA
      clear hcc hy0 bA
      by_cases e1 : x.1 = y.1
      · have d1 : (x.1 == y.1) = true := by simp [e1]
        by_cases e2 : x.2.1 = y.2.1
        · have d2 : (x.2.1 == y.2.1) = true := by simp [e2]
          by_cases e3 : x.2.2 = y.2.2
          · have hxy : y = x := Prod.ext e1.symm (Prod.ext e2.symm e3.symm)
            have HS2 : Hid (many (xs.take (k + 1)) x = c + 1) := by show _ = _; rw [HS.out, if_pos hxy]
            subst hxy
            clear e1 e2 e3 d1 d2
            go_wp2
            go_roundw
            case rel => exact ⟨k + 1, c + 1, by omega, by go_num, by go_num, by omega, HS2.out.symm, ⟨(HBA.out _).cell (by exact hH) |>.trans x0, (HBA.out _).cell (by exact hH) |>.trans x1, (HBA.out _).cell (by exact hH) |>.trans x2⟩, HB.out.alloc HB.out.size _⟩
            case measure => simp [intOf]; omega
          · have d3 : (x.2.2 == y.2.2) = false := by simp [e3]
            have HS2 : Hid (many (xs.take (k + 1)) x = c) := by show _ = _; rw [HS.out, if_neg (fun h => e3 (by rw [h]))]; rfl
            clear e1 e2 e3
            go_wp2
            go_roundw
            case rel => exact ⟨k + 1, c, by omega, by go_num, by go_num, by omega, HS2.out.symm, ⟨(HBA.out _).cell (by exact hH) |>.trans x0, (HBA.out _).cell (by exact hH) |>.trans x1, (HBA.out _).cell (by exact hH) |>.trans x2⟩, HB.out.alloc HB.out.size _⟩
            case measure => simp [intOf]; omega
        · have d2 : (x.2.1 == y.2.1) = false := by simp [e2]
          have HS2 : Hid (many (xs.take (k + 1)) x = c) := by show _ = _; rw [HS.out, if_neg (fun h => e2 (by rw [h]))]; rfl
          clear e1 e2
          go_wp2
          go_roundw
          case rel => exact ⟨k + 1, c, by omega, by go_num, by go_num, by omega, HS2.out.symm, ⟨(HBA.out _).cell (by exact hH) |>.trans x0, (HBA.out _).cell (by exact hH) |>.trans x1, (HBA.out _).cell (by exact hH) |>.trans x2⟩, HB.out.alloc HB.out.size _⟩
          case measure => simp [intOf]; omega
      · have d1 : (x.1 == y.1) = false := by simp [e1]
        have HS2 : Hid (many (xs.take (k + 1)) x = c) := by show _ = _; rw [HS.out, if_neg (fun h => e1 (by rw [h]))]; rfl
        clear e1
        go_wp2
        go_roundw
        case rel => exact ⟨k + 1, c, by omega, by go_num, by go_num, by omega, HS2.out.symm, ⟨(HBA.out _).cell (by exact hH) |>.trans x0, (HBA.out _).cell (by exact hH) |>.trans x1, (HBA.out _).cell (by exact hH) |>.trans x2⟩, HB.out.alloc HB.out.size _⟩
        case measure => simp [intOf]; omega
    · have hv : Hid (c = n) := by show _ = _; rw [HC.out, HNN.out, List.take_of_length_le (by omega)]
      go_wp2
      go_ret
      exact ⟨by rw [hv.out]; rfl, HB.out⟩
end Go.Proofs.Ytndbdioignmaeaa
