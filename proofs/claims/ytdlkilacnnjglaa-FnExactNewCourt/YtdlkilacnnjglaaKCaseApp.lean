/-
  Rows of Case that are appended to. Plain facts on the memory.
-/
import Derived.Test.YtdlkilacnnjglaaKCaseRows
import Derived.ArgAppend
import Derived.Deep.Upon
import Derived.Lib.SlFresh
import Derived.Lib.SliceRun
import Derived.Maps.AppendAt
namespace Go.Proofs.Ytdlkilacnnjglaa
open Go.RowKit

theorem caowns_mono {w : World} {base base' : Nat} {t : TypeId} {size n : Nat} {v : Value} {cs : List Value} (h : w.ownsRow base t size v n cs) (hb : base' ≤ base) : w.ownsRow base' t size v n cs := by
  obtain ⟨h1, h2⟩ := h
  refine ⟨h1, ?_⟩
  rcases h2 with h | ⟨g, cap, cur, hv, hg, h⟩
  · exact .inl h
  · exact .inr ⟨g, cap, cur, hv, by omega, h⟩
theorem caowns_block {w : World} {base : Nat} {t : TypeId} {size n : Nat} {v : Value} {cs : List Value} (h : w.ownsRow base t size v n cs) : ∀ k, v.ownBlock = some k → base ≤ k := by
  intro k hk
  rcases h.2 with ⟨rfl, _⟩ | ⟨g, cap, cur, rfl, hg, _⟩
  · simp [Value.ownBlock] at hk
  · simp [Value.ownBlock] at hk; omega
theorem canothing_run {w : World} {i0 : TypeInfo} (hi : Try.prog.info? 70 = some i0) (hsz : i0.size = 4) (ty : TypeId) (ao : Option Addr) (n c : Nat) (hle : n ≤ c) (a : Option Addr) (cy : Nat) :
    (Builtin.append_ #[23, 23] ty #[.slice ao n c, .slice a 0 cy]).run Try.prog w = .ok (.slice ao n c) w := by
  refine run_append_nothing _ _ _ _ _ i0 Try.underlying23 hi _ _ _ hle _ ?_
  rw [hsz]
  cases a with
  | none => exact Src.ofNil _ Try.underlying23 cy
  | some ad => exact Src.ofSlice _ Try.underlying23 ad 0 cy [] rfl (by intro j u h; simp at h) (by intro u h; simp at h)
theorem caone_at {W : World} {b : Nat} {y : CaEl} (hc : W.cell? ⟨b, 0, none⟩ = some (.int .i64 y.1) ∧ W.cell? ⟨b, 1, none⟩ = some (.bool y.2.1) ∧ W.cell? ⟨b, 2, none⟩ = some (.int .i64 y.2.2.1) ∧ W.cell? ⟨b, 3, none⟩ = some (.int .i64 y.2.2.2)) : ∀ j u, (caflat [y])[j]? = some u → W.cell? ((⟨b, 0, none⟩ : Addr).add j) = some u := by
  intro j u hj
  rcases j with _ | _ | _ | _ | j
  · simp [caflat] at hj; subst hj; simpa [Addr.add] using hc.1
  · simp [caflat] at hj; subst hj; simpa [Addr.add] using hc.2.1
  · simp [caflat] at hj; subst hj; simpa [Addr.add] using hc.2.2.1
  · simp [caflat] at hj; subst hj; simpa [Addr.add] using hc.2.2.2
  · simp [caflat] at hj
end Go.Proofs.Ytdlkilacnnjglaa
