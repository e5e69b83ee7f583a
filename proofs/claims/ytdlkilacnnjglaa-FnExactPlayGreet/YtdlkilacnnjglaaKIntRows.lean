/-
  Slices of Int: what they read as, which are new: plain facts on the memory.
  'But P w w'': of what was there no block has turned but those of P; new ones may have come.
-/
import Derived.Test.YtdlkilacnnjglaaInts
namespace Go.Proofs.Ytdlkilacnnjglaa
open Go.RowKit

abbrev KEl := Int

/-- The cells of one, from an offset on. -/
def KCells (w : World) (b o : Nat) (x : KEl) : Prop := w.cell? ⟨b, o, none⟩ = some (.int .i64 x)
def KFree (w : World) (b o : Nat) : Prop := w.frozen? ⟨b, o, none⟩ = false
theorem KCells.of_block {w w' : World} {b o : Nat} {x : KEl} (h : KCells w b o x) (e : w'.heap[b]? = w.heap[b]?) : KCells w' b o x :=
  (World.cell?_of_block (a := ⟨b, o, none⟩) e).trans h
theorem KFree.of_block {w w' : World} {b o : Nat} (h : KFree w b o) (e : w'.heap[b]? = w.heap[b]?) : KFree w' b o :=
  (World.frozen?_of_block (a := ⟨b, o, none⟩) e).trans h
theorem KCells.lt {w : World} {b o : Nat} {x : KEl} (h : KCells w b o x) : b < w.heap.size := lt_of_cell h
theorem KCells.below {w w' : World} {b o B : Nat} {x : KEl} (h : KCells w b o x) (hb : Below B w w') (hB : b < B) : KCells w' b o x := h.of_block (hb.block b hB)

/-- The slice v reads as xs. -/
def KReads (w : World) (v : Value) (xs : List KEl) : Prop :=
  ∃ a cap, v = .slice a xs.length cap ∧ (xs.length ≤ 1152921504606846975 ∧ xs.length ≤ cap) ∧ (xs = [] ∨ ∃ b off, a = some ⟨b, off, none⟩ ∧ ∀ i, i < xs.length → KCells w b (off + i) (xs.getD i 0))
/-- The slice v reads as xs, in cells of its own, in blocks from lo on, below hi, that may be written; or it is empty and has no room. -/
def KOwn (lo hi : Nat) (w : World) (v : Value) (xs : List KEl) : Prop :=
  xs.length ≤ 1152921504606846975 ∧ ((∃ a cap, v = .slice a 0 cap ∧ xs = []) ∨ ∃ g cap, v = .slice (some ⟨g, 0, none⟩) xs.length cap ∧ (lo ≤ g ∧ g < hi ∧ xs.length ≤ cap) ∧ ∀ i, i < xs.length → KCells w g (i) (xs.getD i 0) ∧ KFree w g (i))

theorem KReads.cells {w : World} {v : Value} {xs : List KEl} (h : KReads w v xs) (k : Nat) (hk : k < xs.length) : ∃ b off cap, v = .slice (some ⟨b, off, none⟩) xs.length cap ∧ ∀ i, i < xs.length → KCells w b (off + i) (xs.getD i 0) := by
  obtain ⟨a, cap, rfl, _, h⟩ := h
  rcases h with h | ⟨b, off, rfl, hc⟩
  · subst h; simp at hk
  · exact ⟨b, off, cap, rfl, hc⟩
theorem KReads.below {w w' : World} {v : Value} {xs : List KEl} (h : KReads w v xs) (hb : Below w.heap.size w w') : KReads w' v xs := by
  obtain ⟨a, cap, rfl, hl, hx⟩ := h
  refine ⟨a, cap, rfl, hl, ?_⟩
  rcases hx with hx | ⟨b, off, rfl, hc⟩
  · exact .inl hx
  · exact .inr ⟨b, off, rfl, fun i hi => (hc i hi).of_block (hb.block b (hc i hi).lt)⟩
theorem kreads_nil (w : World) (a : Option Addr) (cap : Nat) : KReads w (.slice a 0 cap) [] := ⟨a, cap, rfl, by simp, .inl rfl⟩
theorem KOwn.reads {lo hi : Nat} {w : World} {v : Value} {xs : List KEl} (h : KOwn lo hi w v xs) : KReads w v xs := by
  obtain ⟨hl, h⟩ := h
  rcases h with ⟨a, cap, rfl, rfl⟩ | ⟨g, cap, rfl, hg, hf⟩
  · exact ⟨a, cap, rfl, by simp, .inl rfl⟩
  · exact ⟨_, cap, rfl, ⟨hl, hg.2.2⟩, .inr ⟨g, 0, rfl, fun i hi => by rw [Nat.zero_add]; exact (hf i hi).1⟩⟩
theorem KOwn.mono {lo hi lo' hi' : Nat} {w : World} {v : Value} {xs : List KEl} (h : KOwn lo hi w v xs) (h1 : lo' ≤ lo) (h2 : hi ≤ hi') : KOwn lo' hi' w v xs := by
  obtain ⟨hl, h⟩ := h
  rcases h with h | ⟨g, cap, rfl, hg, hr⟩
  · exact ⟨hl, .inl h⟩
  · exact ⟨hl, .inr ⟨g, cap, rfl, by omega, hr⟩⟩
theorem KOwn.at {lo hi : Nat} {w w' : World} {v : Value} {xs : List KEl} (h : KOwn lo hi w v xs) (hk : ∀ g, lo ≤ g → g < hi → g < w.heap.size → w'.heap[g]? = w.heap[g]?) : KOwn lo hi w' v xs := by
  obtain ⟨hl, h⟩ := h
  rcases h with h | ⟨g, cap, rfl, hg, hf⟩
  · exact ⟨hl, .inl h⟩
  · refine ⟨hl, .inr ⟨g, cap, rfl, hg, fun i hi => ?_⟩⟩
    have e := hk g hg.1 hg.2.1 (hf i hi).1.lt
    exact ⟨(hf i hi).1.of_block e, (hf i hi).2.of_block e⟩
theorem KOwn.below {lo hi : Nat} {w w' : World} {v : Value} {xs : List KEl} (h : KOwn lo hi w v xs) (hb : Below w.heap.size w w') : KOwn lo hi w' v xs := h.at fun g _ _ hg => hb.block g hg
theorem KOwn.keep {lo hi B : Nat} {w w' : World} {v : Value} {xs : List KEl} (h : KOwn lo hi w v xs) (hb : Below B w w') (hB : hi ≤ B) : KOwn lo hi w' v xs := h.at fun g _ h2 _ => hb.block g (by omega)
theorem KOwn.only {lo hi l h' : Nat} {w w' : World} {v : Value} {xs : List KEl} (h : KOwn lo hi w v xs) (ho : Only l h' w w') (hd : hi ≤ l ∨ h' ≤ lo) : KOwn lo hi w' v xs := h.at fun g h1 h2 _ => ho.2 g (by omega)
theorem kown_nil (lo hi : Nat) (w : World) (a : Option Addr) (cap : Nat) : KOwn lo hi w (.slice a 0 cap) [] := ⟨by simp, .inl ⟨a, cap, rfl, rfl⟩⟩

/-- The cells, one behind the other. -/
def kflat (xs : List KEl) : List Value := xs.map (Value.int .i64)
theorem length_kflat (xs : List KEl) : (kflat xs).length = xs.length := by simp [kflat]
theorem kflat_get (xs : List KEl) (i : Nat) (h : i < xs.length) : (kflat xs)[i]? = some (.int .i64 (xs.getD i 0)) := by simp [kflat, List.getD_eq_getElem?_getD, h]
theorem kflat_append (xs ys : List KEl) : kflat (xs ++ ys) = kflat xs ++ kflat ys := by simp [kflat]
theorem kflat_drop (xs : List KEl) (k : Nat) : kflat (xs.drop k) = (kflat xs).drop k := by simp [kflat]
theorem kflat_take (xs : List KEl) (k : Nat) : kflat (xs.take k) = (kflat xs).take k := by simp [kflat]
theorem kmade_zero (n : Nat) : (madeCells (Value.int .i64 0).cells n).toList = kflat (List.replicate n 0) := by
  apply List.ext_getElem
  · simp [madeCells, kflat]
  · intro j h1 h2
    simp [madeCells, kflat, Value.cells, Nat.mod_one]
theorem kflat_one (xs : List KEl) : ∀ u ∈ kflat xs, u.oneCell' = true := by
  intro u hu
  obtain ⟨x, _, rfl⟩ := List.mem_map.1 hu
  rfl
theorem kown_cells {w : World} {g : Nat} {cur : Array Value} {t n : Nat} {xs : List KEl} (hh : w.heap[g]? = some (.cells cur t (0, 0))) (ht : cur.toList.take n = kflat xs) (hn : xs.length ≤ n) :
    ∀ i, i < xs.length → KCells w g i (xs.getD i 0) ∧ KFree w g i := by
  intro i hi
  have key : ∀ j, j < xs.length → w.cell? ⟨g, j, none⟩ = (kflat xs)[j]? := fun j hj => by
    rw [← ht, List.getElem?_take, if_pos (by omega)]
    simp [World.cell?, hh]
  refine ⟨(key _ (by omega)).trans (kflat_get xs i hi), ?_⟩
  simp [KFree, World.frozen?, hh]
theorem KOwn.of_owns {base : Nat} {w : World} {v : Value} {n : Nat} {xs : List KEl} (h : w.ownsRow base 3 1 v n (kflat xs)) (hl : xs.length ≤ 1152921504606846975) : KOwn base w.heap.size w v xs := by
  obtain ⟨hn, h⟩ := h
  rw [length_kflat] at hn
  obtain rfl : xs.length = n := by omega
  refine ⟨hl, ?_⟩
  rcases h with ⟨rfl, h0⟩ | ⟨g, cap, cur, rfl, hg, hh, hc, hm, hs, ht⟩
  · exact .inl ⟨none, 0, rfl, List.eq_nil_of_length_eq_zero h0⟩
  · exact .inr ⟨g, cap, rfl, ⟨hg, (Array.getElem?_eq_some_iff.1 hh).1, hc⟩, kown_cells hh ht (by omega)⟩
/-- The cells of what is read, one behind the other. -/
theorem kflat_cells {w : World} {b off : Nat} {xs : List KEl} (hc : ∀ i, i < xs.length → KCells w b (off + i) (xs.getD i 0)) :
    ∀ j u, (kflat xs)[j]? = some u → w.cell? ((⟨b, off, none⟩ : Addr).add j) = some u := by
  intro j u hj
  have hlt : j < xs.length := by
    have := (List.getElem?_eq_some_iff.1 hj).1
    rwa [length_kflat] at this
  rw [show (⟨b, off, none⟩ : Addr).add j = ⟨b, off + j, none⟩ by rcases j with _ | j <;> simp [Addr.add]]
  rw [kflat_get xs j hlt] at hj
  rw [hc j hlt, ← hj]
/-- A row that owns its cells and is known as such. -/
theorem KOwn.of_row {base : Nat} {w : World} {v : Value} {xs : List Int} (h : Own base w v xs) : KOwn base w.heap.size w v xs := by
  obtain ⟨hl, h⟩ := h
  refine ⟨hl, ?_⟩
  rcases h with ⟨rfl, rfl⟩ | ⟨g, cap, f, rfl, hg, hc, hm, hr, hf⟩
  · exact .inl ⟨none, 0, rfl, rfl⟩
  · exact .inr ⟨g, cap, rfl, ⟨hg, hr.lt, hc⟩, fun i hi => ⟨by show _ = _; rw [hr.cell (by omega), hf i hi], hr.frozen i⟩⟩
theorem KReads.r {w : World} {v : Value} {xs : List Int} (h : KReads w v xs) : Reads w v xs := by
  obtain ⟨a, cap, rfl, hl, hx⟩ := h
  exact ⟨a, cap, rfl, hl.1, hx⟩
/-- All numbers of one are written. -/
theorem KOwn.set {lo hi g cap : Nat} {w : World} {xs : List KEl} (h : KOwn lo hi w (.slice (some ⟨g, 0, none⟩) xs.length cap) xs) (i : Nat) (x : KEl) (hi' : i < xs.length) :
    KOwn lo hi (w.setCell ⟨g, i, none⟩ (.int .i64 x)) (.slice (some ⟨g, 0, none⟩) xs.length cap) (xs.set i x) ∧ (lo ≤ g ∧ g < hi) ∧ KFree w g (i) ∧ KCells w g (i) (xs.getD i 0) := by
  obtain ⟨hl, h⟩ := h
  rcases h with ⟨a, cap', _, rfl⟩ | ⟨g', cap', e, hg, hf⟩
  · simp at hi'
  · cases e
    refine ⟨⟨by simpa using hl, .inr ⟨g, cap, by simp, by simpa using hg, fun j hj => ?_⟩⟩, ⟨hg.1, hg.2.1⟩, (hf i hi').2, (hf i hi').1⟩
    have hj' : j < xs.length := by simpa using hj
    refine ⟨?_, by have := (hf j hj').2; unfold KFree at this ⊢; simpa using this⟩
    by_cases e : j = i
    · subst e
      have hx : (xs.set j x).getD j 0 = x := by simp [List.getD_eq_getElem?_getD, hj']
      rw [hx]
      exact World.cell?_setCell_same _ _ _ (u := .int .i64 (xs.getD j 0)) (by exact (hf j hj').1)
    · have hx : (xs.set i x).getD j 0 = xs.getD j 0 := by simp [List.getD_eq_getElem?_getD, Ne.symm e]
      rw [hx]
      show World.cell? _ _ = _
      rw [World.cell?_setCell_other _ _ _ _ (by simp <;> omega)]
      exact (hf j hj').1
end Go.Proofs.Ytdlkilacnnjglaa
namespace Go.Proofs.Ytdlkilacnnjglaa
open Go.RowKit

def But (P : Nat → Prop) (w w' : World) : Prop := Below 0 w w' ∧ ∀ k, k < w.heap.size → ¬ P k → w'.heap[k]? = w.heap[k]?
theorem But.refl (P : Nat → Prop) (w : World) : But P w w := ⟨Below.refl _ _, fun _ _ _ => rfl⟩
theorem But.size {P : Nat → Prop} {a b : World} (h : But P a b) : a.heap.size ≤ b.heap.size := h.1.size
theorem But.trans {P : Nat → Prop} {a b c : World} (h : But P a b) (k : But P b c) : But P a c := ⟨h.1.trans k.1, fun j hj hp => (k.2 j (Nat.lt_of_lt_of_le hj h.size) hp).trans (h.2 j hj hp)⟩
theorem But.mono {P Q : Nat → Prop} {a b : World} (h : But P a b) (hq : ∀ k, P k → Q k) : But Q a b := ⟨h.1, fun j hj hp => h.2 j hj fun hP => hp (hq j hP)⟩
theorem But.of {P : Nat → Prop} {a b : World} (h : Below a.heap.size a b) : But P a b := ⟨h.mono (Nat.zero_le _), fun j hj _ => h.block j hj⟩
theorem But.to {P : Nat → Prop} {a b : World} (h : But P a b) {B : Nat} (hB : B ≤ a.heap.size) (hp : ∀ k, k < B → ¬ P k) : Below B a b := ⟨h.1.os, h.1.tape, h.1.output, h.size, fun k hk => h.2 k (by omega) (hp k hk)⟩
theorem But.drew {P : Nat → Prop} {a b : World} (h : But P a b) : But P a b.drew := ⟨h.1.drew, h.2⟩
theorem But.setCell {P : Nat → Prop} {a b : World} (h : But P a b) {p : Addr} (hp : P p.block) (u : Value) : But P a (b.setCell p u) :=
  ⟨h.1.setCell (Nat.zero_le _) u, fun j hj hn => (Below.heap_setCell _ _ _ _ (fun e => hn (by rw [e]; exact hp))).trans (h.2 j hj hn)⟩
theorem But.alloc {P : Nat → Prop} {a b : World} (h : But P a b) (o : Obj) : But P a (b.alloc o) := h.trans (But.of ((Below.refl _ _).alloc (Nat.le_refl _) _))
theorem But.grown {P : Nat → Prop} {a b c : World} {row : Option Nat} (h : But P a b) (hg : b.grownBy c row) (hr : ∀ k, row = some k → P k) : But P a c :=
  h.trans ⟨⟨hg.os, hg.tape, hg.output, hg.size, fun k hk => by omega⟩, fun j hj hp => hg.block j hj fun e => hp (hr j e.symm)⟩
theorem But.cell {P : Nat → Prop} {a b : World} (h : But P a b) {p : Addr} (hp : ¬ P p.block) (hs : p.block < a.heap.size) : b.cell? p = a.cell? p := World.cell?_of_block (w := a) (h.2 p.block hs hp)
theorem But.frozen {P : Nat → Prop} {a b : World} (h : But P a b) {p : Addr} (hp : ¬ P p.block) (hs : p.block < a.heap.size) : b.frozen? p = a.frozen? p := World.frozen?_of_block (w := a) (h.2 p.block hs hp)
theorem owns_but {P : Nat → Prop} {w w' : World} {base : Nat} {t : TypeId} {size n : Nat} {v : Value} {cs : List Value} (h : w.ownsRow base t size v n cs) (hb : But P w w') (hp : ∀ k, v.ownBlock = some k → ¬ P k) : w'.ownsRow base t size v n cs := by
  obtain ⟨h1, h2⟩ := h
  refine ⟨h1, ?_⟩
  rcases h2 with h | ⟨g, cap, cur, rfl, hg, hh, hr⟩
  · exact .inl h
  · refine .inr ⟨g, cap, cur, rfl, hg, ?_, hr⟩
    rw [hb.2 g (Array.getElem?_eq_some_iff.1 hh).1 (hp g rfl)]
    exact hh
/-- What is written then lies in new blocks, or in such as may be written. -/
theorem But.and {P Q : Nat → Prop} {a b c : World} (h : But P a b) (k : But Q b c) (hq : ∀ j, j < a.heap.size → Q j → P j) : But P a c :=
  ⟨h.1.trans k.1, fun j hj hp => (k.2 j (Nat.lt_of_lt_of_le hj h.size) fun q => hp (hq j hj q)).trans (h.2 j hj hp)⟩
theorem But.setNew {P : Nat → Prop} {a b : World} (h : But P a b) {p : Addr} (hp : a.heap.size ≤ p.block) (u : Value) : But P a (b.setCell p u) :=
  h.and (Q := fun j => j = p.block) ((But.refl _ _).setCell (P := fun j => j = p.block) rfl u) (fun j hj e => by omega)
end Go.Proofs.Ytdlkilacnnjglaa
