/-
  A new court in plain words. Plain facts.
-/
import Derived.Test.YtdlkilacnnjglaaCoU
namespace Go.Proofs.Ytdlkilacnnjglaa
open Go.RowKit

def casesOf (es : List Int) : List CaEl := es.map fun e => (e, false, 0, 0)
def zeroCo : CoD := ⟨0, [], []⟩
def newC (es : List Int) : CoD × Bool := if (decide (es.length ≤ 6) && es.all fun k => decide (0 ≤ k ∧ k ≤ 100)) = true then (⟨0, casesOf es, []⟩, true) else (zeroCo, false)
theorem length_casesOf (es : List Int) : (casesOf es).length = es.length := by simp [casesOf]
theorem casesOf_take (es : List Int) (k : Nat) (hk : k < es.length) : casesOf (es.take (k + 1)) = casesOf (es.take k) ++ [(es.getD k 0, false, 0, 0)] := by
  unfold casesOf
  rw [List.take_succ_eq_append_getElem hk, List.map_append]
  congr 1
  simp [List.getD_eq_getElem?_getD, hk]
theorem newC_len (es : List Int) : (newC es).1.f1.length ≤ 6 ∧ (newC es).1.f2 = [] := by
  unfold newC
  split
  · rename_i h
    rw [Bool.and_eq_true, decide_eq_true_eq] at h
    exact ⟨by rw [length_casesOf]; exact h.1, rfl⟩
  · exact ⟨by decide, rfl⟩
theorem BoxL.frozen3 {w : World} {b : Nat} {a0 a1 a2 : Value} (h : BoxL w b [a0, a1, a2]) : w.frozen? ⟨b, 0, none⟩ = false ∧ w.frozen? ⟨b, 1, none⟩ = false ∧ w.frozen? ⟨b, 2, none⟩ = false := ⟨(h.2 0 (by simp)).2, (h.2 1 (by simp)).2, (h.2 2 (by simp)).2⟩
theorem BoxL.grownB {b : Nat} {w w' : World} {row : Option Nat} {vs : List Value} (h : BoxL w b vs) (hg : w.grownBy w' row) (hn : row ≠ some b) : BoxL w' b vs := h.of_block (hg.block b h.lt fun e => hn e.symm)
theorem BoxL.but {P : Nat → Prop} {w w' : World} {b : Nat} {vs : List Value} (h : BoxL w b vs) (hb : But P w w') (hp : ¬ P b) : BoxL w' b vs := h.of_block (hb.2 b h.lt hp)
end Go.Proofs.Ytdlkilacnnjglaa
