/-
  New turns, laid into the answer's box: what is left behind. Plain facts on the memory.
-/
import Derived.Test.YteeaebelknpdjbaTurnFns
import Derived.Test.YteeaebelknpdjbaBut5
import Derived.Test.YteeaebelknpdjbaInfoII
namespace Go.Proofs.Yteeaebelknpdjba
open Go.RowKit

def newT (xs : List Int) : TuD := ⟨xs, List.replicate xs.length [], List.replicate xs.length 0, List.replicate xs.length 0, 0⟩
abbrev put5 (w : World) (b : Nat) (v0 v1 v2 v3 v4 : Value) : World := ((((w.setCell ⟨b, 0, none⟩ v0).setCell ⟨b, 1, none⟩ v1).setCell ⟨b, 2, none⟩ v2).setCell ⟨b, 3, none⟩ v3).setCell ⟨b, 4, none⟩ v4
theorem put5_box {w : World} {b : Nat} {z0 z1 z2 z3 z4 : Value} (h : BoxL w b [z0, z1, z2, z3, z4]) (v0 v1 v2 v3 v4 : Value) : BoxL (put5 w b v0 v1 v2 v3 v4) b [v0, v1, v2, v3, v4] :=
  ((((h.set 0 (by simp) v0).set 1 (by simp) v1).set 2 (by simp) v2).set 3 (by simp) v3).set 4 (by simp) v4
theorem put5_only (w : World) (b : Nat) (v0 v1 v2 v3 v4 : Value) : OnlyP (fun j => j = b) w (put5 w b v0 v1 v2 v3 v4) :=
  ((((onlyP_set _ _ _ _).trans (onlyP_set _ _ _ _)).trans (onlyP_set _ _ _ _)).trans (onlyP_set _ _ _ _)).trans (onlyP_set _ _ _ _)
theorem qpart_nil (xss : List (List KEl)) : qpart xss 0 = List.replicate xss.length [] := by
  apply List.ext_getElem
  · simp [qpart]
  · intro j h1 h2
    simp [qpart]
theorem snew_leaf {w V : World} {xs : List Int} {u0 u1 u2 u3 z0 z1 z2 z3 z4 : Value} {c0 c1 c2 c3 : Nat × Nat} (hB : BoxL V w.heap.size [z0, z1, z2, z3, z4]) (hbel : Below w.heap.size w V)
    (h0 : KOwn c0.1 c0.2 V u0 xs) (h1 : QRow V c1 u1 (List.replicate xs.length []) (fun _ => (c1.2, c1.2))) (h2 : KOwn c2.1 c2.2 V u2 (List.replicate xs.length 0)) (h3 : KOwn c3.1 c3.2 V u3 (List.replicate xs.length 0))
    (hin : (w.heap.size < c0.1 ∧ c0.1 ≤ c0.2 ∧ c0.2 ≤ V.heap.size) ∧ (w.heap.size < c1.1 ∧ c1.1 ≤ c1.2 ∧ c1.2 ≤ V.heap.size) ∧ (w.heap.size < c2.1 ∧ c2.1 ≤ c2.2 ∧ c2.2 ≤ V.heap.size) ∧ (w.heap.size < c3.1 ∧ c3.1 ≤ c3.2 ∧ c3.2 ≤ V.heap.size))
    (hdj : Dj c0 c1 ∧ Dj c0 c2 ∧ Dj c0 c3 ∧ Dj c1 c2 ∧ Dj c1 c3 ∧ Dj c2 c3) :
    TuOwn (Iv w.heap.size (put5 V w.heap.size u0 u1 u2 u3 (.int .i64 0)).heap.size) (put5 V w.heap.size u0 u1 u2 u3 (.int .i64 0)) (.agg #[u0, u1, u2, u3, .int .i64 0]) (newT xs) ∧ Below w.heap.size w (put5 V w.heap.size u0 u1 u2 u3 (.int .i64 0)) ∧ BoxL (put5 V w.heap.size u0 u1 u2 u3 (.int .i64 0)) w.heap.size [u0, u1, u2, u3, .int .i64 0] := by
  have op := put5_only V w.heap.size u0 u1 u2 u3 (.int .i64 0)
  have hs : (put5 V w.heap.size u0 u1 u2 u3 (.int .i64 0)).heap.size = V.heap.size := op.1
  have hl := hB.lt
  obtain ⟨i0, i1, i2, i3⟩ := hin
  obtain ⟨d01, d02, d03, d12, d13, d23⟩ := hdj
  unfold Dj at d01 d02 d03 d12 d13 d23
  refine ⟨⟨u0, u1, u2, u3, c0, c1, c2, c3, fun _ => (c1.2, c1.2), rfl, ⟨fun j hj => ?_, fun j r hj hr hne => ?_⟩, h0.onlyP op (fun g g1 g2 e => by omega), h1.onlyP op (fun g g1 g2 e => by omega) (fun r hr g g1 g2 e => by simp only at g1 g2; omega), h2.onlyP op (fun g g1 g2 e => by omega), h3.onlyP op (fun g g1 g2 e => by omega)⟩, hbel.trans (op.below fun j e => by omega), put5_box hB _ _ _ _ _⟩
  · rcases j with _ | _ | _ | _ | j <;> simp only [tuIv] <;> exact ⟨by omega, fun g g1 g2 => ⟨by omega, by omega⟩⟩
  · rcases j with _ | _ | _ | _ | j <;> rcases r with _ | _ | _ | _ | r <;> simp only [tuIv, Dj] <;> omega
/-- Turns of which nothing is told. -/
def noT : TuD := ⟨[], [], [], [], 0⟩
theorem noT_own (n m : Nat) (w : World) : TuOwn (Iv n m) w (.agg #[.slice none 0 0, .slice none 0 0, .slice none 0 0, .slice none 0 0, .int .i64 0]) noT :=
  ⟨_, _, _, _, (m, m), (m, m), (m, m), (m, m), fun _ => (m, m), rfl, ⟨fun j hj => by
    have hj : j < 4 := hj
    rcases j with _ | _ | _ | _ | j <;> simp only [tuIv] <;> exact ⟨Nat.le_refl _, fun g g1 g2 => by omega⟩, fun j r hj hr hne => by
    have hj : j < 4 := hj
    have hr : r < 4 := hr
    rcases j with _ | _ | _ | _ | j <;> rcases r with _ | _ | _ | _ | r <;> simp only [tuIv, Dj] <;> omega⟩, kown_nil _ _ _ _ _, qrow_nil _ _ _ _ _, kown_nil _ _ _ _ _, kown_nil _ _ _ _ _⟩
theorem newT_tot {xs : List Int} (h : xs.length ≤ 4) : tuTot (newT xs) ≤ 1048576 := by
  have e : preL (List.replicate xs.length []) xs.length = 0 := by
    unfold preL
    rw [List.take_replicate, List.map_replicate]
    simp
  unfold tuTot newT
  simp only [List.length_replicate, e]
  omega
end Go.Proofs.Yteeaebelknpdjba
