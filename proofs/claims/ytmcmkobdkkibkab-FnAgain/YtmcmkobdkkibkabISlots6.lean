/-
  impl.slotsOf: an iterator that gives the places of a number among slots, rising. Nothing is written.
-/
import Derived.Test.YtmcmkobdkkibkabRFKit
import Derived.Test.YtmcmkobdkkibkabFirstMath
namespace Go.Proofs.Ytmcmkobdkkibkab
open Go.RowKit Go.Shelf

abbrev encS (x : Nat) : Array Value := #[.int .i64 x]
/-- What a round keeps: the block of the number, and that of the slots. -/
def KeepS (B2 gs : Nat) (A B : World) : Prop := B.heap[B2]? = A.heap[B2]? ∧ B.heap[gs]? = A.heap[gs]?
theorem KeepS.t {B2 gs : Nat} {A B C : World} (h : KeepS B2 gs A B) (k : KeepS B2 gs B C) : KeepS B2 gs A C := ⟨k.1.trans h.1, k.2.trans h.2⟩
theorem KeepS.b {B2 gs : Nat} {w : World} (h1 : B2 < w.heap.size) (h2 : gs < w.heap.size) (W : World) (l : Nat) (o o' : Obj) (hl : w.heap.size ≤ l) (_ : W.heap[l]? = some o) (_ : o.isCells = false) (_ : o.isWalk = false) : KeepS B2 gs W (W.putObj l o') :=
  ⟨World.putObj_heap_other (by omega), World.putObj_heap_other (by omega)⟩

set_option maxRecDepth 100000 in
set_option maxHeartbeats 4000000 in
theorem slots1_in (n : Nat) (hn : 1 ≤ n) (l B1 B2 gs os len cap k : Nat) (s : Nat → Int) (J Jx : List Nat → World → Prop) (hlen : len ≤ 1000)
    (hY : ∀ pre x W, J pre W → pre.length < 1000 → YieldAt Fence.wide (n - 1) Try.prog l (encS x) W fun e W' =>
      (e = .returned (.bool true) ∧ J (pre ++ [x]) W' ∧ KeepS B2 gs W W') ∨ (e = .returned (.bool false) ∧ Jx (pre ++ [x]) W'))
    (W : World) (hb1 : W.cell? ⟨B1, 0, none⟩ = some (.slice (some ⟨gs, os, none⟩) len cap)) (hb2 : W.cell? ⟨B2, 0, none⟩ = some (.int .i64 k)) (hc : ∀ i, i < len → W.cell? ⟨gs, os + i, none⟩ = some (.int .i64 (s i))) (h0 : J [] W) :
    CallsIn Fence.wide n Try.prog 126 #[.func (.yield l) #[] #[], .pointer (some ⟨B1, 0, none⟩), .pointer (some ⟨B2, 0, none⟩)] W fun e W' => (∃ v, e = .returned v) ∧
      ((∃ ys, ys = occU s k len ∧ J ys W') ∨ (∃ pre, pre <+: occU s k len ∧ Jx pre W')) := by
  have HY := hid hY
  have HC := hid hc
  have H2 := hid hb2
  clear hY hc hb2
  refine callsIn_of_wp Try.func126 rfl trivial ?_ rfl
  simp only [Try.ntmps126, List.size_toArray, List.length_cons, List.length_nil, Nat.reduceAdd, Nat.reduceSub, Array.replicate_succ, Array.replicate_zero, List.push_toArray, List.append_toArray, List.nil_append, List.cons_append]
  gi_wp2
  gi_loopw [8] (fun i wr => ∃ t : Nat, t ≤ len ∧ i = .int .i64 t ∧ J (occU s k t) wr ∧ KeepS B2 gs W wr) (fun i _ => len - (intOf i).toNat)
  case atStart => exact ⟨0, Nat.zero_le _, rfl, h0, rfl, rfl⟩
  case round =>
    obtain ⟨t, ht, rfl, hJ, hK⟩ := hrel
    have HJ := hid hJ
    have HK := hid hK
    clear hJ hK
    by_cases hlt : t < len
    · obtain ⟨x, hx⟩ : ∃ x, x = s t := ⟨_, rfl⟩
      have c1 : wr.cell? ⟨gs, os + t, none⟩ = some (.int .i64 x) := by rw [hx]; exact (World.cell?_of_block (a := ⟨gs, os + t, none⟩) HK.out.2).trans (HC.out t hlt)
      have c2 : wr.cell? ⟨B2, 0, none⟩ = some (.int .i64 k) := (World.cell?_of_block (a := ⟨B2, 0, none⟩) HK.out.1).trans H2.out
      have n0 : (0 : Int) ≤ (t : Int) := by omega
      have n1 : (t : Int) < (len : Int) := by omega
      by_cases hk : x = (k : Int)
      · have HO : Hid (occU s k (t + 1) = occU s k t ++ [t]) := by show (if _ then _ else _) = _; rw [if_pos (by rw [← hx]; exact hk)]
        have hle := occU_le s k t
        have e1 : (x == (k : Int)) = true := by simpa using hk
        obtain ⟨fn, tmps, assign, body, hy, hR⟩ := HY.out (occU s k t) t wr HJ.out (by omega)
        dsimp only [encS] at hy
        have HRd := hid hR
        clear hR hx hk
        gi_wp2
        refine HRd.out.mono ?_
        rintro e W3 (⟨rfl, hJ3, hk3⟩ | ⟨rfl, hJx3⟩)
        · have J3 : Hid (J (occU s k (t + 1)) W3) := by show J _ _; rw [HO.out]; exact hJ3
          have K3 := hid (HK.out.t hk3)
          clear hJ3 hk3
          gi_wp2
          go_roundw
          case rel => exact ⟨t + 1, by omega, by go_num, J3.out, K3.out⟩
          case measure => simp [intOf]; omega
        · gi_wp2
          refine bodyPost_ret (results_none rfl _ _ _) rfl ?_
          exact ⟨⟨_, rfl⟩, .inr ⟨occU s k t ++ [t], by rw [← HO.out]; exact occU_pre s k (by omega), hJx3⟩⟩
      · have HO : Hid (occU s k (t + 1) = occU s k t) := by show (if _ then _ else _) = _; rw [if_neg (by rw [← hx]; exact hk)]
        have e1 : (x == (k : Int)) = false := by rw [beq_eq_false_iff_ne]; exact hk
        have J3 : Hid (J (occU s k (t + 1)) wr) := by show J _ _; rw [HO.out]; exact HJ.out
        clear hx hk
        gi_wp2
        refine ⟨fun _ h => (by cases h), ?_⟩
        gi_wp2
        go_roundw
        case rel => exact ⟨t + 1, by omega, by go_num, J3.out, HK.out⟩
        case measure => simp [intOf]; omega
    · obtain rfl : t = len := by omega
      gi_wp2
      go_end0
      exact ⟨⟨_, rfl⟩, .inl ⟨_, rfl, HJ.out⟩⟩
theorem slotsOf_any (a : Option Addr) (len cap k : Nat) (w : World) : Calls Try.prog 91 #[.slice a len cap, .int .i64 k] w fun e w' => e = .returned (.func (.func 126) #[] #[.pointer (some ⟨w.heap.size, 0, none⟩), .pointer (some ⟨w.heap.size + 1, 0, none⟩)]) ∧ w' = (w.alloc (.cells #[.slice a len cap] 42)).alloc (.cells #[.int .i64 k] 3) := by
  go_enter Try.func91, Try.ntmps91
  go_wp2
  go_ret
  exact ⟨rfl, rfl⟩
theorem slots_stops (n : Nat) (hn : 1 ≤ n) (B1 B2 gs os len cap k : Nat) (s : Nat → Int) (hlen : len ≤ 1000) (w : World) (h1 : B1 < w.heap.size) (h2 : B2 < w.heap.size) (h3 : gs < w.heap.size)
    (hb1 : w.cell? ⟨B1, 0, none⟩ = some (.slice (some ⟨gs, os, none⟩) len cap)) (hb2 : w.cell? ⟨B2, 0, none⟩ = some (.int .i64 k)) (hc : ∀ i, i < len → w.cell? ⟨gs, os + i, none⟩ = some (.int .i64 (s i))) :
    SeqStopsK Fence.wide n Try.prog 126 #[.pointer (some ⟨B1, 0, none⟩), .pointer (some ⟨B2, 0, none⟩)] encS (KeepS B2 gs) (fun ys => ys = occU s k len) (fun pre => pre <+: occU s k len) 1000 w := fun l J Jx W hW _ _ hY h0 =>
  slots1_in n hn l B1 B2 gs os len cap k s J Jx hlen hY W ((hW.cell (p := ⟨B1, 0, none⟩) h1).trans hb1) ((hW.cell (p := ⟨B2, 0, none⟩) h2).trans hb2) (fun i hi => (hW.cell (p := ⟨gs, os + i, none⟩) h3).trans (hc i hi)) h0
end Go.Proofs.Ytmcmkobdkkibkab
