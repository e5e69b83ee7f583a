/-
  The bytes that are handed in are what a cursor reads. Plain facts on the memory.
-/
import Derived.Test.YtflhlinkolbbiaeCur
import Derived.Test.YtflhlinkolbbiaeIsRow
import Derived.OpenShut
namespace Go.Proofs.Ytflhlinkolbbiae
open Go.RowKit

theorem code_of_row {w : World} {a : Option Addr} {len cap : Nat} {zs : List Int} (h : IsRow .u8 w a len cap zs) (hl : len ≤ 1048576) : CodeOk w.heap.size w (.slice a len cap) := by
  rcases h with ⟨rfl, rfl, rfl, rfl⟩ | ⟨x, rfl, hlc, hcm, hz, hcell, hwf⟩
  · exact ⟨none, 0, 0, rfl, by omega, .inl rfl⟩
  · refine ⟨some x, len, cap, rfl, hl, ?_⟩
    by_cases h0 : len = 0
    · exact .inl h0
    · right
      obtain ⟨b, off, spot⟩ := x
      have hspot : spot = none := by simpa [Addr.add] using World.cell?_spot (hcell 0 (by omega))
      subst hspot
      have hc : ∀ i, i < len → w.cell? ⟨b, off + i, none⟩ = some (.int .u8 (zs.getD i 0)) := fun i hi => by
        have := hcell i (by omega)
        rcases i with _ | i <;> simpa [Addr.add] using this
      refine ⟨b, off, rfl, lt_of_cell (hc 0 (by omega)), fun i hi => ?_⟩
      have hr := range_u8 hwf i
      refine ⟨(zs.getD i 0).toNat, ?_, ?_⟩
      · rw [List.getD_eq_getElem?_getD]; omega
      · rw [hc i hi, List.getD_eq_getElem?_getD]
        congr 2
        omega
end Go.Proofs.Ytflhlinkolbbiae
