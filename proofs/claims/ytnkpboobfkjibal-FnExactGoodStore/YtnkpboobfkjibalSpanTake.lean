/-
  The first of good spans. Plain arithmetic, no program.
  spec.l2Length: how many numbers are in spans; nothing old is written.
  spec.l13Done, spec.IsDone: whether a block has all. Nothing old is written.
-/
import Derived.Test.YtnkpboobfkjibalSpanMath
import Derived.Test.YtnkpboobfkjibalSpans
import Derived.Test.YtnkpboobfkjibalHasMath
import Derived.Deep.RegionWith
namespace Go.Proofs.Ytnkpboobfkjibal

theorem take_snoc' (xs : List Sp) (k : Nat) (hk : k < xs.length) : xs.take (k + 1) = xs.take k ++ [xs.getD k (0, 0)] := by
  rw [List.take_succ_eq_append_getElem hk]
  simp [List.getD_eq_getElem?_getD, hk]
theorem len_take_succ (xs : List Sp) (k : Nat) (h : k < xs.length) : lenL (xs.take (k + 1)) = lenL (xs.take k) + ((xs.getD k (0, 0)).2 - (xs.getD k (0, 0)).1) := by
  have ap : ∀ (l : List Sp) (x : Sp), lenL (l ++ [x]) = lenL l + (x.2 - x.1) := fun l x => by
    induction l with
    | nil => simp [lenL]
    | cons y l ih => simp only [List.cons_append, lenL, ih]; omega
  rw [List.take_succ_eq_append_getElem h, ap]
  simp [List.getD_eq_getElem?_getD, h]
theorem chain_take {p : Int} {xs : List Sp} (h : chainB p xs = true) (k : Nat) : chainB p (xs.take k) = true := by
  induction xs generalizing p k with
  | nil => simpa using h
  | cons x xs ih =>
    cases k with
    | zero => rfl
    | succ k =>
      rw [chain_cons] at h
      rw [List.take_succ_cons, chain_cons]
      exact ⟨h.1, h.2.1, ih h.2.2 k⟩
theorem chain_mem {p : Int} {xs : List Sp} (h : chainB p xs = true) : ∀ x ∈ xs, spB x = true := by
  induction xs generalizing p with
  | nil => simp
  | cons x xs ih =>
    rw [chain_cons] at h
    intro y hy
    rcases List.mem_cons.1 hy with rfl | hy
    · exact h.2.1
    · exact ih h.2.2 y hy
theorem chain_at {p : Int} {xs : List Sp} (h : chainB p xs = true) (k : Nat) (hk : k < xs.length) : 0 ≤ (xs.getD k (0, 0)).1 ∧ (xs.getD k (0, 0)).1 < (xs.getD k (0, 0)).2 ∧ (xs.getD k (0, 0)).2 ≤ 1000000 :=
  (spB_iff _).1 (chain_mem h _ (by simp [List.getD_eq_getElem?_getD, hk]))
end Go.Proofs.Ytnkpboobfkjibal
namespace Go.Proofs.Ytnkpboobfkjibal
open Go.RowKit
set_option maxRecDepth 100000

set_option maxHeartbeats 1000000 in
theorem slen_any (v : Value) (xs : List Sp) (w : World) (hr : SReads w v xs) (hc : chainB (-1) xs = true) :
    Calls Try.prog 28 #[v] w fun e w' => e = .returned (.int .i64 (lenL xs)) ∧ Below w.heap.size w w' := by
  obtain ⟨a, cap, rfl, hl, hx⟩ := hr
  have HC := hid hx
  have HG := hid hc
  clear hx hc
  go_enter Try.func28, Try.ntmps28
  go_wp2
  go_loopw [3, 8] (fun m i wr => ∃ k : Nat, k ≤ xs.length ∧ i = .int .i64 k ∧ m = .int .i64 (lenL (xs.take k)) ∧ Below w.heap.size w wr) (fun _ i _ => xs.length - (intOf i).toNat)
  case atStart => exact ⟨0, Nat.zero_le _, rfl, rfl, Below.refl _ _⟩
  case round =>
    obtain ⟨k, hk, rfl, rfl, hal⟩ := hrel
    by_cases hlt : k < xs.length
    · obtain ⟨ga, oa, rfl, hca⟩ : ∃ b off, a = some ⟨b, off, none⟩ ∧ ∀ i, i < xs.length → w.cell? ⟨b, off + i * 2, none⟩ = some (.int .i64 (xs.getD i (0, 0)).1) ∧ w.cell? ⟨b, off + i * 2 + 1, none⟩ = some (.int .i64 (xs.getD i (0, 0)).2) := by
        rcases HC.out with h | h
        · subst h; simp at hlt
        · exact h
      have h1 := (hal.cell (p := ⟨ga, oa + k * 2, none⟩) (lt_of_cell (hca k hlt).1)).trans (hca k hlt).1
      have h2 := (hal.cell (p := ⟨ga, oa + k * 2 + 1, none⟩) (lt_of_cell (hca k hlt).2)).trans (hca k hlt).2
      have HL := hid hal
      have hs := hid (len_take_succ xs k hlt)
      have hb := chain_at HG.out k hlt
      have hn := len_bounds (chain_take HG.out k) (Int.le_refl _)
      have hn2 := len_bounds (chain_take HG.out (k + 1)) (Int.le_refl _)
      rw [len_take_succ xs k hlt] at hn2
      obtain ⟨p, hp⟩ : ∃ p, p = (xs.getD k (0, 0)).1 := ⟨_, rfl⟩
      obtain ⟨q, hq⟩ : ∃ q, q = (xs.getD k (0, 0)).2 := ⟨_, rfl⟩
      obtain ⟨n, hnn⟩ : ∃ n, n = lenL (xs.take k) := ⟨_, rfl⟩
      rw [← hp, ← hq] at hb
      rw [← hp] at h1
      rw [← hq] at h2
      rw [← hp, ← hq, ← hnn] at hn2
      rw [← hnn] at hn
      rw [← hnn]
      have hs2 : Hid (lenL (xs.take (k + 1)) = n + (q - p)) := by
        show _ = _
        rw [hs.out, hp, hq, hnn]
      have w1 : IntKind.i64.wrap (q - p) = q - p := by rw [IntKind.wrap_i64]; omega
      have w2 : IntKind.i64.wrap (n + (q - p)) = n + (q - p) := by rw [IntKind.wrap_i64]; omega
      clear hca hal hp hq hnn hn hn2 hs
      go_wp2
      go_roundw
      case rel => exact ⟨k + 1, by omega, by go_num, by rw [hs2.out], HL.out.alloc HL.out.size _⟩
      case measure => simp [intOf]; omega
    · obtain rfl : k = xs.length := by omega
      rw [List.take_length]
      go_wp2
      go_ret
      exact ⟨rfl, hal⟩
end Go.Proofs.Ytnkpboobfkjibal
namespace Go.Proofs.Ytnkpboobfkjibal
open Go.RowKit

set_option maxRecDepth 100000 in
set_option maxHeartbeats 4000000 in
theorem sdoneBl_eq (v : Value) (D : BlD) (t : Bool) (h : doneBl D = t) (w : World) (hr : BlReads w v D) (hc : chainB (-1) D.f3 = true) :
    Calls Try.prog 12 #[v] w fun e w' => e = .returned (.bool t) ∧ Below w.heap.size w w' := by
  obtain ⟨v3, rfl, r3⟩ := hr
  have R3 := hid r3
  unfold doneBl at h
  obtain ⟨l, hl⟩ : ∃ l, l = D.f1 := ⟨_, rfl⟩
  obtain ⟨n, hn⟩ : ∃ n, n = lenL D.f3 := ⟨_, rfl⟩
  rw [← hl, ← hn] at h
  rw [← hl]
  have PB := hid (boxL_new w [.int .i64 D.f0, .int .i64 l, .string D.f2, v3] 38)
  obtain ⟨W, hW⟩ : ∃ W, W = w.alloc (.cells #[.int .i64 D.f0, .int .i64 l, .string D.f2, v3] 38) := ⟨_, rfl⟩
  have BW : Hid (Below w.heap.size w W) := by rw [hW]; exact (Below.refl _ _).alloc (Nat.le_refl _) _
  have HT : Hid ((n == l) = t) := by show _ = _; rw [← h, Bool.eq_iff_iff, beq_iff_eq, decide_eq_true_eq]
  have HN := hid hn
  have HC := hid hc
  clear h hn hl r3 hc
  obtain ⟨q0, q1, q2, q3⟩ := PB.out.four
  go_enter Try.func12, Try.ntmps12
  go_wp2_with fail
  rw [← hW] at PB q0 q1 q2 q3 ⊢
  clear hW
  have bd : Below W.heap.size W W.drew := (Below.refl _ _).drew
  go_region_with (go_at_call 28; refine (slen_any _ D.f3 _ (R3.out.below (BW.out.trans (bd.mono BW.out.size))).s HC.out).mono ?_; rintro e w1 ⟨rfl, bb⟩; rw [← HN.out]; have B1 := hid (BW.out.trans ((bd.trans bb).mono BW.out.size)); obtain ⟨y0, y1, y2, y3⟩ := (PB.out.below (bd.trans bb) PB.out.lt).four; clear bb)
  all_goals rw [HT.out]
  all_goals go_wp2
  all_goals go_ret
  all_goals exact ⟨rfl, B1.out⟩
end Go.Proofs.Ytnkpboobfkjibal
