/-
  Rows of bytes: made, written, and turned into texts. Plain facts on the memory.
-/
import Derived.Test.YtnkpboobfkjibakPcMath
import Derived.Deep.OwnRows
import Derived.Deep.RegionWith
import Derived.Laws.IdiomStrings
namespace Go.Proofs.Ytnkpboobfkjibak
open Go.RowKit

theorem info_u8 : (Try.prog.info? 5).map (fun i => (i.zero, i.size, i.bytes)) = some (some (.int .u8 0), 1, 1) := by kernel_rfl

/-- A row of bytes that reads as l becomes the text of l. -/
theorem conv_row (W : World) (B cap : Nat) (l : List UInt8) (hrow : ∀ j, j < l.length → W.cell? ⟨B, j, none⟩ = some (.int .u8 ((l.getD j 0).toNat : Nat))) :
    (convert 87 9 (.slice (some ⟨B, 0, none⟩) l.length cap)).run Try.prog W = .ok (.string ⟨l.toArray⟩) W := by
  refine run_convert_bytes_back (P := Try.prog) W 87 9 5 ⟨B, 0, none⟩ cap l Try.underlying87 Try.underlying5 Try.underlying9 (fun j hj => ?_)
  have := hrow j hj
  rw [List.getD_eq_getElem?_getD, List.getElem?_eq_getElem hj] at this
  rcases j with _ | j <;> simpa [Addr.add] using this
/-- The cells of bytes. -/
def bflat (l : List UInt8) : List Value := l.map fun b => Value.int .u8 (b.toNat : Nat)
theorem length_bflat (l : List UInt8) : (bflat l).length = l.length := by simp [bflat]
theorem bflat_append (a b : List UInt8) : bflat (a ++ b) = bflat a ++ bflat b := by simp [bflat]
theorem bflat_get (l : List UInt8) (j : Nat) (h : j < l.length) : (bflat l)[j]? = some (.int .u8 ((l.getD j 0).toNat : Nat)) := by simp [bflat, List.getD_eq_getElem?_getD, h]
/-- A row of bytes of one's own that reads as l becomes the text of l. -/
theorem conv_own (W : World) (base : Nat) (v : Value) (n : Nat) (l : List UInt8) (h : W.ownsRow base 5 1 v n (bflat l)) :
    (convert 87 9 v).run Try.prog W = .ok (.string ⟨l.toArray⟩) W := by
  obtain ⟨hn, h⟩ := h
  rw [length_bflat] at hn
  obtain rfl : l.length = n := by omega
  rcases h with ⟨rfl, h0⟩ | ⟨g, cap, cur, rfl, hg, hh, hc, hm, hs, ht⟩
  · obtain rfl := List.eq_nil_of_length_eq_zero h0
    rw [run_convert_bytes_string W 87 9 5 none 0 0 Try.underlying87 Try.underlying5 Try.underlying9]
    rfl
  · refine conv_row W g cap l fun j hj => ?_
    have e : (cur.toList.take (l.length * 1))[j]? = (bflat l)[j]? := by rw [ht]
    rw [List.getElem?_take, if_pos (by omega), bflat_get l j hj] at e
    rw [← e]
    simp [World.cell?, hh]
end Go.Proofs.Ytnkpboobfkjibak
