/-
  Part: what its cells read as. Plain facts.
  A text cut into parts: plain words.
  Parts appended to a row of one's own: what the laws on append want. Plain facts.
-/
import Derived.Test.YtnkpboobfkjibakRp
import Derived.Test.YtnkpboobfkjibakBlMath
import Derived.Test.YtnkpboobfkjibakRpApp
namespace Go.Proofs.Ytnkpboobfkjibak
open Go.RowKit

structure PtD where
  f0 : Int
  f1 : Int
  f2 : Int
  f3 : ByteArray
def ptZ : PtD := ⟨0, 0, 0, ByteArray.empty⟩
def ptEnc (D : PtD) : List Value := [.int .i64 D.f0, .int .i64 D.f1, .int .i64 D.f2, .string D.f3]
def rpPt : Rp PtD := Rp.flat ptEnc 4 ptZ (by omega) (fun _ => rfl)
end Go.Proofs.Ytnkpboobfkjibak
namespace Go.Proofs.Ytnkpboobfkjibak

/-- How many parts a text of so many bytes has. -/
def prtN (n : Nat) : Nat := (n + 3) / 4
def prtK (z : Int) (s : ByteArray) (k : Nat) : PtD := ⟨z, (4 * k : Nat), (s.size : Nat), s.extract (4 * k) (min s.size (4 * k + 4))⟩
def prtU (z : Int) (s : ByteArray) (k : Nat) : List PtD := (List.range k).map (prtK z s)
theorem length_prtU (z : Int) (s : ByteArray) (k : Nat) : (prtU z s k).length = k := by simp [prtU]
theorem prtU_succ (z : Int) (s : ByteArray) (k : Nat) : prtU z s (k + 1) = prtU z s k ++ [prtK z s k] := by simp [prtU, List.range_succ]
def prtB (z : Int) (s : ByteArray) : Bool := idB z (s.size : Nat)
def prtL (z : Int) (s : ByteArray) : List PtD := bif prtB z s then prtU z s (prtN s.size) else []
theorem prtB_size {z : Int} {s : ByteArray} (h : prtB z s = true) : 1 ≤ s.size ∧ s.size ≤ 40 := by
  unfold prtB idB at h
  rw [Bool.and_eq_true, decide_eq_true_eq, decide_eq_true_eq] at h
  omega
theorem prtL_len (z : Int) (s : ByteArray) : (prtL z s).length ≤ 1048576 := by
  unfold prtL
  cases h : prtB z s
  · simp
  · have := prtB_size h
    show (prtU z s (prtN s.size)).length ≤ _
    rw [length_prtU]
    unfold prtN
    omega
end Go.Proofs.Ytnkpboobfkjibak
namespace Go.Proofs.Ytnkpboobfkjibak
open Go.RowKit

theorem info_pt : (Try.prog.info? 55).map (fun i => (i.zero, i.size, i.bytes)) = some (some (.agg #[.int .i64 0, .int .i64 0, .int .i64 0, .string ⟨#[]⟩]), 4, 40) := by kernel_rfl
def ptFlat (xs : List PtD) : List Value := xs.flatMap ptEnc
theorem ptFlat_snoc (xs : List PtD) (x : PtD) : ptFlat (xs ++ [x]) = ptFlat xs ++ ptEnc x := by simp [ptFlat]
theorem ptEnc_one (x : PtD) : ∀ u ∈ ptEnc x, u.oneCell' = true := by
  intro u hu
  simp [ptEnc] at hu
  rcases hu with rfl | rfl | rfl | rfl <;> rfl
theorem ptEnc_new (w : World) (x : PtD) : ∀ j u, (ptEnc x)[j]? = some u → (w.alloc (.cells #[.int .i64 x.f0, .int .i64 x.f1, .int .i64 x.f2, .string x.f3] 55)).cell? ((⟨w.heap.size, 0, none⟩ : Addr).add j) = some u := cells_new w (ptEnc x) 55
theorem ptRow_of {base m : Nat} {w : World} {v : Value} {xs : List PtD} (h : w.ownsRow base 55 4 v m (ptFlat xs)) (hm : xs.length = m) (hb : m ≤ 1152921504606846975) : RowO rpPt (Iv base w.heap.size) w v xs := rowO_of_flat ptEnc 4 ptZ _ _ h hm hb
end Go.Proofs.Ytnkpboobfkjibak
