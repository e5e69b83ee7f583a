/-
  'But P w w'': of what was there no block has turned but those of P; new ones may have come.
-/
import Derived.Test.YtdlkilacnnjglaaKIntRows
namespace Go.Proofs.Ytdlkilacnnjglaa
open Go.RowKit

def But (P : Nat → Prop) (w w' : World) : Prop := Below 0 w w' ∧ ∀ k, k < w.heap.size → ¬ P k → w'.heap[k]? = w.heap[k]?
theorem But.refl (P : Nat → Prop) (w : World) : But P w w := ⟨Below.refl _ _, fun _ _ _ => rfl⟩
theorem But.size {P : Nat → Prop} {a b : World} (h : But P a b) : a.heap.size ≤ b.heap.size := h.1.size
theorem But.trans {P : Nat → Prop} {a b c : World} (h : But P a b) (k : But P b c) : But P a c := ⟨h.1.trans k.1, fun j hj hp => (k.2 j (Nat.lt_of_lt_of_le hj h.size) hp).trans (h.2 j hj hp)⟩
theorem But.mono {P Q : Nat → Prop} {a b : World} (h : But P a b) (hq : ∀ k, P k → Q k) : But Q a b := ⟨h.1, fun j hj hp => h.2 j hj fun hP => hp (hq j hP)⟩
theorem But.of {P : Nat → Prop} {a b : World} (h : Below a.heap.size a b) : But P a b := ⟨h.mono (Nat.zero_le _), fun j hj _ => h.block j hj⟩
theorem But.to {P : Nat → Prop} {a b : World} (h : But P a b) {B : Nat} (hB : B ≤ a.heap.size) (hp : ∀ k, k < B → ¬ P k) : Below B a b := ⟨h.1.os, h.1.tape, h.1.output, h.size, fun k hk => h.2 k (by omega) (hp k hk)⟩
theorem But.drew {P : Nat → Prop} {a b : World} (h : But P a b) : But P a b.drew := ⟨h.1.drew, h.2⟩
theorem But.setCell {P : Nat → Prop} {a b : World} (h : But P a b) {p : Addr} (hp : P p.block) (u : Value) : But P a (b.setCell p u) :=
  ⟨h.1.setCell (Nat.zero_le _) u, fun j hj hn => (Below.heap_setCell _ _ _ _ (fun e => hn (by rw [e]; exact hp))).trans (h.2 j hj hn)⟩
theorem But.alloc {P : Nat → Prop} {a b : World} (h : But P a b) (o : Obj) : But P a (b.alloc o) := h.trans (But.of ((Below.refl _ _).alloc (Nat.le_refl _) _))
theorem But.grown {P : Nat → Prop} {a b c : World} {row : Option Nat} (h : But P a b) (hg : b.grownBy c row) (hr : ∀ k, row = some k → P k) : But P a c :=
  h.trans ⟨⟨hg.os, hg.tape, hg.output, hg.size, fun k hk => by omega⟩, fun j hj hp => hg.block j hj fun e => hp (hr j e.symm)⟩
theorem But.cell {P : Nat → Prop} {a b : World} (h : But P a b) {p : Addr} (hp : ¬ P p.block) (hs : p.block < a.heap.size) : b.cell? p = a.cell? p := World.cell?_of_block (w := a) (h.2 p.block hs hp)
theorem But.frozen {P : Nat → Prop} {a b : World} (h : But P a b) {p : Addr} (hp : ¬ P p.block) (hs : p.block < a.heap.size) : b.frozen? p = a.frozen? p := World.frozen?_of_block (w := a) (h.2 p.block hs hp)
theorem owns_but {P : Nat → Prop} {w w' : World} {base : Nat} {t : TypeId} {size n : Nat} {v : Value} {cs : List Value} (h : w.ownsRow base t size v n cs) (hb : But P w w') (hp : ∀ k, v.ownBlock = some k → ¬ P k) : w'.ownsRow base t size v n cs := by
  obtain ⟨h1, h2⟩ := h
  refine ⟨h1, ?_⟩
  rcases h2 with h | ⟨g, cap, cur, rfl, hg, hh, hr⟩
  · exact .inl h
  · refine .inr ⟨g, cap, cur, rfl, hg, ?_, hr⟩
    rw [hb.2 g (Array.getElem?_eq_some_iff.1 hh).1 (hp g rfl)]
    exact hh
/-- What is written then lies in new blocks, or in such as may be written. -/
theorem But.and {P Q : Nat → Prop} {a b c : World} (h : But P a b) (k : But Q b c) (hq : ∀ j, j < a.heap.size → Q j → P j) : But P a c :=
  ⟨h.1.trans k.1, fun j hj hp => (k.2 j (Nat.lt_of_lt_of_le hj h.size) fun q => hp (hq j hj q)).trans (h.2 j hj hp)⟩
theorem But.setNew {P : Nat → Prop} {a b : World} (h : But P a b) {p : Addr} (hp : a.heap.size ≤ p.block) (u : Value) : But P a (b.setCell p u) :=
  h.and (Q := fun j => j = p.block) ((But.refl _ _).setCell (P := fun j => j = p.block) rfl u) (fun j hj e => by omega)
end Go.Proofs.Ytdlkilacnnjglaa
