/-
  impl.SplitPieces: a text split into texts of one length, in memory of their own, or the zero answer; nothing old is written.
-/
import Derived.Test.YtijojdempijhbadSplMath
import Derived.Test.YtijojdempijhbadPcRow
import Derived.Laws.IdiomCopy
import Derived.Lib.LazyBuf
import Derived.Lib.SliceRun
namespace Go.Proofs.Ytijojdempijhbad
open Go.RowKit

theorem rowIs_setCells {b : Nat} {t : TypeId} {n : Nat} : ∀ (vs : List Value) (o : Nat) (w : World) (f : Nat → Value), w.rowIs b t n f → (w.setCells b o vs).rowIs b t n (fun j => if o ≤ j ∧ j < o + vs.length then vs.getD (j - o) undef else f j)
  | [], o, w, f, h => h.congr fun j _ => by rw [if_neg (by simp)]
  | v :: r, o, w, f, h => by
    refine (rowIs_setCells r (o + 1) _ _ (h.set o v)).congr fun j _ => ?_
    by_cases e : j = o
    · subst e
      rw [if_neg (by omega), if_pos rfl, if_pos (by simp)]
      simp
    · by_cases h1 : o + 1 ≤ j ∧ j < o + 1 + r.length
      · rw [if_pos h1, if_pos (by simp; omega), show j - o = (j - (o + 1)) + 1 by omega, List.getD_cons_succ]
      · rw [if_neg h1, if_neg e, if_neg (by simp; omega)]
def uv (l : List UInt8) : List Value := l.map fun x => Value.int .u8 (x.toNat : Int)
theorem u8size : ∀ w, (Go.sizeOf 5).run Try.prog w = .ok 1 w := by
  intro w
  obtain ⟨i0, hi, hz0, hz1, hz2⟩ := info_parts info_u8
  simp [Go.sizeOf, typeInfo, hi, hz1]
/-- copy of a text into a row: as many bytes as both have. -/
theorem run_copy_text (w : World) (ty : TypeId) (b n cap : Nat) (t : ByteArray) (f : Nat → Value) (hr : w.rowIs b 5 n f) :
    (Builtin.copy_ #[22, 9] ty #[.slice (some ⟨b, 0, none⟩) n cap, .string t]).run Try.prog w = .ok (.int .i64 ((Nat.min t.size n : Nat) : Int)) (w.setCells b 0 ((uv t.data.toList).take (Nat.min t.size n))) := by
  have hlen : ((uv t.data.toList).take (Nat.min t.size n)).length = Nat.min t.size n := by
    rw [List.length_take]
    unfold uv
    rw [List.length_map]
    have : t.data.toList.length = t.size := by simp
    rw [this]
    exact Nat.min_eq_left (Nat.min_le_left _ _)
  have hmn : Nat.min t.size n ≤ n := Nat.min_le_right _ _
  have hst := run_storeCells_cells (P := Try.prog) b 0 ((uv t.data.toList).take (Nat.min t.size n)) 0 w
    (by rw [hlen]; intro j hj; simp only [Nat.zero_add, Nat.add_zero]; rw [hr.cell (by omega)]; rfl) (by intro j _; simp only [Nat.zero_add, Nat.add_zero]; exact hr.frozen j) (by
    intro v hv
    obtain ⟨x, _, rfl⟩ := List.mem_map.1 (List.mem_of_mem_take hv)
    rfl)
  have hz := u8size
  simp only [Nat.add_zero] at hst
  simp [Builtin.copy_, run_underlying Try.underlying22, Builtin.lenOf, Builtin.firstCells, hz]
  unfold uv at hst
  rw [hst]
  rfl
theorem run_clear_none (w : World) (ty : TypeId) (a : Option Addr) (cap : Nat) : (Builtin.clear_ #[22] ty #[.slice a 0 cap]).run Try.prog w = .ok (.tuple #[]) w := by
  cases a <;> simp [Builtin.clear_, run_underlying Try.underlying22]
theorem zeroU8 : ∀ w, (zeroValue 5).run Try.prog w = .ok (.int .u8 0) w := by
  intro w
  kernel_rfl
end Go.Proofs.Ytijojdempijhbad
