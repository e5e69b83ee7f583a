/-
  Rows of Block: what they read as, and which lie in cells of their own. Plain facts on the memory.
  Rows of Block (a name for what lies in their Rows text).
  Store: what it reads as, and which lies in cells of its own. Plain facts on the memory.
  Stores of blocks in plain words: whether one is good. No program.
-/
import Derived.Test.YtnkpboobfkjibalKSpanSf
import Derived.Test.YtnkpboobfkjibalRpMark
import Derived.Test.YtnkpboobfkjibalQSet
import Derived.Test.YtnkpboobfkjibalBlMath
namespace Go.Proofs.Ytnkpboobfkjibal
open Go.RowKit

abbrev BlsEl := BlD
def blZ : BlD := ⟨0, 0, ⟨#[]⟩, []⟩
theorem info_bl : (Try.prog.info? 38).map (fun i => (i.zero, i.size, i.bytes)) = some (some (.agg #[.int .i64 0, .int .i64 0, .string ⟨#[]⟩, .slice none 0 0]), 4, 56) := by kernel_rfl
def rpBl : Rp BlD where
  n := 4
  z := blZ
  R := fun w vs D => vs.length = 4 ∧ BlReads w (.agg vs.toArray) D
  O := fun S w vs D => vs.length = 4 ∧ BlOwn S w (.agg vs.toArray) D
  npos := by omega
  len := fun h => h.1
  reads := fun h => ⟨h.1, h.2.reads⟩
  below := fun h hb => ⟨h.1, h.2.below hb⟩
  keep := fun h hk => ⟨h.1, h.2.at hk⟩
  mono := fun h hs => ⟨h.1, h.2.mono hs⟩
theorem rpBl_R {w : World} {vs : List Value} {D : BlD} (h : rpBl.R w vs D) : ∃ v3, vs = [.int .i64 D.f0, .int .i64 D.f1, .string D.f2, v3] ∧ BlReads w (.agg #[.int .i64 D.f0, .int .i64 D.f1, .string D.f2, v3]) D := by
  obtain ⟨hl, v3, e, h3⟩ := h
  have e2 : vs = [.int .i64 D.f0, .int .i64 D.f1, .string D.f2, v3] := by simpa using e
  exact ⟨v3, e2, v3, rfl, h3⟩
def BlsReads (w : World) (v : Value) (xs : List BlD) : Prop := RowR rpBl w v xs
theorem BlsReads.cells {w : World} {v : Value} {xs : List BlD} (h : BlsReads w v xs) (k : Nat) (hk : k < xs.length) : ∃ b off cap, v = .slice (some ⟨b, off, none⟩) xs.length cap ∧ ∀ i, i < xs.length → ∃ v3, (w.cell? ⟨b, off + i * 4, none⟩ = some (.int .i64 (xs.getD i blZ).f0) ∧ w.cell? ⟨b, off + i * 4 + 1, none⟩ = some (.int .i64 (xs.getD i blZ).f1) ∧ w.cell? ⟨b, off + i * 4 + 2, none⟩ = some (.string (xs.getD i blZ).f2) ∧ w.cell? ⟨b, off + i * 4 + 3, none⟩ = some (v3)) ∧ BlReads w (.agg #[.int .i64 (xs.getD i blZ).f0, .int .i64 (xs.getD i blZ).f1, .string (xs.getD i blZ).f2, v3]) (xs.getD i blZ) := by
  obtain ⟨b, off, cap, e, hc⟩ := RowR.cells h k hk
  refine ⟨b, off, cap, e, fun i hi => ?_⟩
  obtain ⟨vs, h1, h2⟩ := hc i hi
  obtain ⟨v3, rfl, h3⟩ := rpBl_R h2
  exact ⟨v3, h1.four, h3⟩
def BlsOwn (lo hi : Nat) (w : World) (v : Value) (xs : List BlD) : Prop := RowO rpBl (Iv lo hi) w v xs
theorem BlsReads.below {w w' : World} {v : Value} {xs : List BlD} (h : BlsReads w v xs) (hb : Below w.heap.size w w') : BlsReads w' v xs := RowR.below h hb
theorem BlsOwn.reads {lo hi : Nat} {w : World} {v : Value} {xs : List BlD} (h : BlsOwn lo hi w v xs) : BlsReads w v xs := RowO.reads h
theorem BlsOwn.at {lo hi : Nat} {w w' : World} {v : Value} {xs : List BlD} (h : BlsOwn lo hi w v xs) (hk : ∀ g, lo ≤ g → g < hi → g < w.heap.size → w'.heap[g]? = w.heap[g]?) : BlsOwn lo hi w' v xs := RowO.keep h fun g hg hl => hk g hg.1 hg.2 hl
theorem BlsOwn.below {lo hi : Nat} {w w' : World} {v : Value} {xs : List BlD} (h : BlsOwn lo hi w v xs) (hb : Below w.heap.size w w') : BlsOwn lo hi w' v xs := RowO.below h hb
theorem BlsOwn.mono {lo hi lo' hi' : Nat} {w : World} {v : Value} {xs : List BlD} (h : BlsOwn lo hi w v xs) (h1 : lo' ≤ lo) (h2 : hi ≤ hi') : BlsOwn lo' hi' w v xs := RowO.mono h fun g hg => ⟨by have := hg.1; omega, by have := hg.2; omega⟩
theorem BlsOwn.sform {lo hi : Nat} {w : World} {v : Value} {xs : List BlD} (h : BlsOwn lo hi w v xs) : ∃ a n k, v = .slice a n k := RowO.sform h
theorem BlsOwn.onlyP {lo hi : Nat} {w w' : World} {v : Value} {xs : List BlD} {Q : Nat → Prop} (h : BlsOwn lo hi w v xs) (ho : OnlyP Q w w') (hd : ∀ g, lo ≤ g → g < hi → ¬ Q g) : BlsOwn lo hi w' v xs := h.at fun g h1 h2 _ => ho.2.1 g (hd g h1 h2)
theorem BlsOwn.onlyS {lo hi : Nat} {S : Nat → Prop} {w w' : World} {v : Value} {xs : List BlD} (h : BlsOwn lo hi w v xs) (ho : OnlyS S w w') (hd : ∀ g, lo ≤ g → g < hi → ¬ S g) : BlsOwn lo hi w' v xs := h.at fun g h1 h2 h3 => ho g h3 (hd g h1 h2)
/-- How much lies in them, and how many they are. -/
def blsTot (xs : List BlD) : Nat := xs.length + preC blTot xs xs.length
theorem blsTot_el (xs : List BlD) (i : Nat) (h : i < xs.length) : blTot (xs.getD i blZ) ≤ blsTot xs := by
  have := preC_el blTot xs i h blZ
  unfold blsTot
  omega
theorem blsTot_len (xs : List BlD) : xs.length ≤ blsTot xs := by unfold blsTot; omega
end Go.Proofs.Ytnkpboobfkjibal
namespace Go.Proofs.Ytnkpboobfkjibal
open Go.RowKit

end Go.Proofs.Ytnkpboobfkjibal
namespace Go.Proofs.Ytnkpboobfkjibal
open Go.RowKit

structure StD where
  f0 : List BlsEl
  f1 : List Int
def StReads (w : World) (v : Value) (D : StD) : Prop := ∃ v0 v1, v = .agg #[v0, v1] ∧ BlsReads w v0 D.f0 ∧ KReads w v1 D.f1
def stIv (c0 c1 : Nat × Nat) : Nat → Nat × Nat
  | 0 => c0
  | 1 => c1
  | _ => (0, 0)
def StOwn (S : Nat → Prop) (w : World) (v : Value) (D : StD) : Prop := ∃ v0 v1 c0 c1, v = .agg #[v0, v1] ∧ Aset S (2) (stIv c0 c1) ∧ BlsOwn c0.1 c0.2 w v0 D.f0 ∧ KOwn c1.1 c1.2 w v1 D.f1
theorem StOwn.reads {S : Nat → Prop} {w : World} {v : Value} {D : StD} (h : StOwn S w v D) : StReads w v D := by
  obtain ⟨v0, v1, c0, c1, rfl, _, h0, h1⟩ := h
  exact ⟨v0, v1, rfl, h0.reads, h1.reads⟩
theorem StOwn.mono {S S' : Nat → Prop} {w : World} {v : Value} {D : StD} (h : StOwn S w v D) (hs : ∀ g, S g → S' g) : StOwn S' w v D := by
  obtain ⟨v0, v1, c0, c1, rfl, ha, hr⟩ := h
  exact ⟨v0, v1, c0, c1, rfl, ha.mono hs, hr⟩
theorem StOwn.at {S : Nat → Prop} {w w' : World} {v : Value} {D : StD} (h : StOwn S w v D) (hk : ∀ g, S g → g < w.heap.size → w'.heap[g]? = w.heap[g]?) : StOwn S w' v D := by
  obtain ⟨v0, v1, c0, c1, rfl, ha, h0, h1⟩ := h
  have n0 := ha.inn 0 (by omega)
  have n1 := ha.inn 1 (by omega)
  exact ⟨v0, v1, c0, c1, rfl, ha, h0.at fun g g1 g2 g3 => hk g (n0.2 g g1 g2) g3, h1.at fun g g1 g2 g3 => hk g (n1.2 g g1 g2) g3⟩
theorem StOwn.below {S : Nat → Prop} {w w' : World} {v : Value} {D : StD} (h : StOwn S w v D) (hb : Below w.heap.size w w') : StOwn S w' v D := h.at fun g _ hg => hb.block g hg
theorem StOwn.onlyS {S S' : Nat → Prop} {w w' : World} {v : Value} {D : StD} (h : StOwn S w v D) (ho : OnlyS S' w w') (hd : ∀ g, S g → S' g → False) : StOwn S w' v D := h.at fun g h1 h2 => ho g h2 (hd g h1)
theorem StOwn.form {S : Nat → Prop} {w : World} {v : Value} {D : StD} (h : StOwn S w v D) : ∃ a0 n0 k0 a1 n1 k1, v = .agg #[.slice a0 n0 k0, .slice a1 n1 k1] := by
  obtain ⟨v0, v1, c0, c1, rfl, _, h0, h1⟩ := h
  obtain ⟨a0, n0, k0, rfl⟩ := h0.sform
  obtain ⟨a1, n1, k1, rfl⟩ := h1.sform
  exact ⟨a0, n0, k0, a1, n1, k1, rfl⟩
theorem StReads.below {w w' : World} {v : Value} {D : StD} (h : StReads w v D) (hb : Below w.heap.size w w') : StReads w' v D := by
  obtain ⟨v0, v1, rfl, h0, h1⟩ := h
  exact ⟨v0, v1, rfl, h0.below hb, h1.below hb⟩
/-- How many numbers lie in its rows. -/
def stN (D : StD) : Nat := 0 * D.f0.length + D.f1.length
def stTot (D : StD) : Nat := blsTot D.f0 + D.f1.length
end Go.Proofs.Ytnkpboobfkjibal
namespace Go.Proofs.Ytnkpboobfkjibal

/-- The first k blocks are good, not done, not told, by rising id. -/
def blksU (l : List BlD) (told : List Int) : Nat → Bool
  | 0 => true
  | k + 1 => blksU l told k && (goodBl (l.getD k blZ) && (!doneBl (l.getD k blZ) && (!told.contains (l.getD k blZ).f0 && (decide (k = 0) || decide ((l.getD (k - 1) blZ).f0 < (l.getD k blZ).f0)))))
theorem blksU_no {l : List BlD} {told : List Int} {k : Nat} (h : blksU l told k = false) : ∀ j, k ≤ j → blksU l told j = false
  | 0, hj => by obtain rfl : k = 0 := by omega
                exact h
  | j + 1, hj => by
    by_cases e : k = j + 1
    · rw [← e]; exact h
    · simp only [blksU]; rw [blksU_no h j (by omega)]; rfl
def limB (D : StD) : Bool := decide (D.f0.length ≤ 10) && (decide (D.f1.length ≤ 100) && risB D.f1 1001)
def goodSt (D : StD) : Bool := blksU D.f0 D.f1 D.f0.length && limB D
end Go.Proofs.Ytnkpboobfkjibal
