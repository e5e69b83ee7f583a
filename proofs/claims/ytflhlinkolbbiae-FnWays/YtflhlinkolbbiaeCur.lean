/-
  The cursor from which the laws draw their inputs: spec.l1Cur's next answers with a number below 256 and goes on; it writes into the cursor alone.
-/
import Derived.Test.YtflhlinkolbbiaeInts
import Derived.Test.YtflhlinkolbbiaeBits64
namespace Go.Proofs.Ytflhlinkolbbiae
open Go.RowKit

/-- The bytes that a cursor reads lie below block B. -/
def CodeOk (B : Nat) (w : World) (v : Value) : Prop :=
  ∃ a len cap, v = .slice a len cap ∧ len ≤ 1048576 ∧ (len = 0 ∨ ∃ cb off, a = some ⟨cb, off, none⟩ ∧ cb < B ∧ ∀ i, i < len → ∃ x : Nat, x < 256 ∧ w.cell? ⟨cb, off + i, none⟩ = some (.int .u8 x))

/-- Block b is a cursor that has gone at most N steps. -/
def Cur (B : Nat) (w : World) (b N : Nat) : Prop :=
  B ≤ b ∧ B ≤ w.heap.size ∧ ∃ v f, ∃ at_ sd : Nat, w.rowIs b 69 3 f ∧ f 0 = v ∧ f 1 = .int .i64 at_ ∧ f 2 = .int .u64 sd ∧ at_ ≤ N ∧ sd < 18446744073709551616 ∧ CodeOk B w v

theorem only_refl (w : World) (r : Option Nat) : w.grownBy w r := ⟨rfl, rfl, rfl, Nat.le_refl _, fun _ _ _ => rfl⟩
theorem only_drew {w w' : World} {r : Option Nat} (h : w.grownBy w' r) : w.grownBy w'.drew r := ⟨h.os, h.tape, h.output, h.size, h.block⟩
theorem only_set {w w' : World} {b : Nat} (h : w.grownBy w' (some b)) (i : Nat) (u : Value) : w.grownBy (w'.setCell ⟨b, i, none⟩ u) (some b) :=
  ⟨h.os, h.tape, h.output, by simpa using h.size, fun k hk hn => (Below.heap_setCell w' ⟨b, i, none⟩ u k (fun e => hn (by rw [e]))).trans (h.block k hk hn)⟩
theorem only_trans {w w' w'' : World} {r : Option Nat} (h : w.grownBy w' r) (k : w'.grownBy w'' r) : w.grownBy w'' r :=
  ⟨k.os.trans h.os, k.tape.trans h.tape, k.output.trans h.output, Nat.le_trans h.size k.size, fun j hj hn => (k.block j (Nat.lt_of_lt_of_le hj h.size) hn).trans (h.block j hj hn)⟩
theorem only_of_below {w w' : World} {r : Option Nat} (h : Below w.heap.size w w') : w.grownBy w' r := ⟨h.os, h.tape, h.output, h.size, fun k hk _ => h.block k hk⟩
theorem only_below {w w' : World} {B b : Nat} (h : w.grownBy w' (some b)) (hB : B ≤ b) (hw : B ≤ w.heap.size) : Below B w w' :=
  ⟨h.os, h.tape, h.output, h.size, fun k hk => h.block k (by omega) (by intro e; cases e; omega)⟩

theorem CodeOk.below {B : Nat} {w w' : World} {v : Value} (h : CodeOk B w v) (hb : Below B w w') : CodeOk B w' v := by
  obtain ⟨a, len, cap, rfl, hl, hx⟩ := h
  refine ⟨a, len, cap, rfl, hl, ?_⟩
  rcases hx with hx | ⟨cb, off, rfl, hlt, hc⟩
  · exact .inl hx
  · exact .inr ⟨cb, off, rfl, hlt, fun i hi => by
      obtain ⟨x, hx, hc⟩ := hc i hi
      exact ⟨x, hx, (hb.cell (p := ⟨cb, off + i, none⟩) hlt).trans hc⟩⟩

theorem Cur.below {B b N : Nat} {w w' : World} (h : Cur B w b N) (hb : Below w.heap.size w w') : Cur B w' b N := by
  obtain ⟨h1, h2, v, f, at_, sd, hr, e0, e1, e2, hN, hsd, hc⟩ := h
  exact ⟨h1, Nat.le_trans h2 hb.size, v, f, at_, sd, hr.of_block (hb.block b hr.lt), e0, e1, e2, hN, hsd, hc.below (hb.mono h2)⟩

theorem only_then {w W w' : World} {r : Option Nat} (h : w.grownBy W r) (k : Below w.heap.size W w') : w.grownBy w' r :=
  ⟨k.os.trans h.os, k.tape.trans h.tape, k.output.trans h.output, Nat.le_trans h.size k.size, fun j hj hn => (k.block j hj).trans (h.block j hj hn)⟩

theorem Cur.under {B b N C : Nat} {w w' : World} (h : Cur B w b N) (hC : b < C) (hBC : B ≤ C) (hb : Below C w w') : Cur B w' b N := by
  obtain ⟨h1, h2, v, f, at_, sd, hr, e0, e1, e2, hN, hsd, hc⟩ := h
  exact ⟨h1, Nat.le_trans h2 hb.size, v, f, at_, sd, hr.of_block (hb.block b hC), e0, e1, e2, hN, hsd, hc.below (hb.mono hBC)⟩

theorem Cur.mono {B b N N' : Nat} {w : World} (h : Cur B w b N) (hN : N ≤ N') : Cur B w b N' := by
  obtain ⟨h1, h2, v, f, at_, sd, hr, e0, e1, e2, hN0, r⟩ := h
  exact ⟨h1, h2, v, f, at_, sd, hr, e0, e1, e2, by omega, r⟩

theorem Cur.drew {B b N : Nat} {w : World} (h : Cur B w b N) : Cur B w.drew b N := h

theorem Cur.step {B b N at_ sd : Nat} {w : World} {v : Value} {f : Nat → Value} (hB : B ≤ b) (hBw : B ≤ w.heap.size) (hr : w.rowIs b 69 3 f) (he : f 0 = v ∧ f 1 = .int .i64 at_ ∧ f 2 = .int .u64 sd) (hat : at_ ≤ N) (hc : CodeOk B w v) (z : Int) :
    Cur B ((w.setCell ⟨b, 1, none⟩ (.int .i64 ((at_ : Int) + 1))).setCell ⟨b, 2, none⟩ (.int .u64 (IntKind.u64.wrap z))) b (N + 1) := by
  obtain ⟨m, hm, hlt⟩ := wrap_u64_nat z
  have hr2 := (hr.set 1 (.int .i64 ((at_ : Int) + 1))).set 2 (.int .u64 (IntKind.u64.wrap z))
  have hb : Below B w ((w.setCell ⟨b, 1, none⟩ (.int .i64 ((at_ : Int) + 1))).setCell ⟨b, 2, none⟩ (.int .u64 (IntKind.u64.wrap z))) := ((Below.refl B w).setCell (p := ⟨b, 1, none⟩) hB _).setCell (p := ⟨b, 2, none⟩) hB _
  exact ⟨hB, by have := hb.size; omega, v, _, at_ + 1, m, hr2, by simpa using he.1, by simp, by simp [hm], by omega, hlt, hc.below hb⟩

set_option maxHeartbeats 2000000 in
theorem next_any (B b N : Nat) (w : World) (h : Cur B w b N) (hN : N ≤ 1152921504606846975) :
    Calls Try.prog 104 #[.pointer (some ⟨b, 0, none⟩)] w fun e w' => ∃ x : Nat, x < 256 ∧ e = .returned (.int .i64 x) ∧ Cur B w' b (N + 1) ∧ w.grownBy w' (some b) := by
  obtain ⟨hB, hBw, v, f, at_, sd, hr, e0, e1, e2, hat, hsd, hc⟩ := h
  have c0 := hr.cell (i := 0) (by omega)
  have c1 := hr.cell (i := 1) (by omega)
  have c2 := hr.cell (i := 2) (by omega)
  have f1 := hr.frozen 1
  have f2 := hr.frozen 2
  rw [e0] at c0
  rw [e1] at c1
  rw [e2] at c2
  have HC := hid hc
  obtain ⟨a, len, cap, rfl, hlen, hx⟩ := hc
  have HR := hid hr
  have HE := hid (And.intro e0 (And.intro e1 e2))
  clear hr e0 e1 e2
  by_cases hlt : at_ < len
  · obtain ⟨cb, off, rfl, hcb, hcs⟩ : ∃ cb off, a = some ⟨cb, off, none⟩ ∧ cb < B ∧ ∀ i, i < len → ∃ x : Nat, x < 256 ∧ w.cell? ⟨cb, off + i, none⟩ = some (.int .u8 x) := by
      rcases hx with hx | hx
      · omega
      · exact hx
    obtain ⟨x, hx256, hcx⟩ := hcs at_ hlt
    clear hcs hx
    go_enter Try.func104, Try.ntmps104
    go_wp2
    go_region
    all_goals go_wp2
    all_goals go_region
    all_goals go_wp2
    all_goals go_region
    all_goals go_wp2
    go_ret
    exact ⟨x, hx256, rfl, (Cur.step hB hBw HR.out HE.out hat HC.out _).drew.drew.drew, only_drew (only_drew (only_drew (only_set (only_set (only_refl w _) 1 _) 2 _)))⟩
  · clear hx
    go_enter Try.func104, Try.ntmps104
    go_wp2
    go_region
    all_goals go_wp2
    all_goals go_region
    all_goals go_wp2
    go_ret
    obtain ⟨n, hn, he⟩ := and_255_back (IntKind.u64.wrap (IntKind.u64.wrap ((sd : Int) * 6364136223846793005)) + 1442695040888963407)
    exact ⟨n, hn, congrArg (fun z => Ending.returned (.int .i64 z)) he, (Cur.step hB hBw HR.out HE.out hat HC.out _).drew.drew, only_drew (only_drew (only_set (only_set (only_refl w _) 1 _) 2 _))⟩
end Go.Proofs.Ytflhlinkolbbiae
