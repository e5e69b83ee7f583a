/-
  Slices of GreetStep (a struct of 2 numbers): what they read as, which are new: plain facts on the memory.
  laws.markGreetStepS writes k, k + 1, .. into ones of its own; laws.heldGreetStepS finds them there; nothing else is written.
  laws.szGreetStepS: what is left of a bound behind a list's length.
-/
import Derived.Test.YtdlkilacnnjglaaInts
namespace Go.Proofs.Ytdlkilacnnjglaa
open Go.RowKit

abbrev GsEl := Int × Int
theorem info_greetStep : (Try.prog.info? 91).map (fun i => (i.zero, i.size, i.bytes)) = some (some (.agg #[.int .i64 0, .int .i64 0]), 2, 16) := by kernel_rfl

/-- The cells of one, from an offset on. -/
def GsCells (w : World) (b o : Nat) (x : GsEl) : Prop := w.cell? ⟨b, o, none⟩ = some (.int .i64 x.1) ∧ w.cell? ⟨b, o + 1, none⟩ = some (.int .i64 x.2)
def GsFree (w : World) (b o : Nat) : Prop := w.frozen? ⟨b, o, none⟩ = false ∧ w.frozen? ⟨b, o + 1, none⟩ = false
theorem GsCells.of_block {w w' : World} {b o : Nat} {x : GsEl} (h : GsCells w b o x) (e : w'.heap[b]? = w.heap[b]?) : GsCells w' b o x :=
  ⟨(World.cell?_of_block (a := ⟨b, o, none⟩) e).trans h.1, (World.cell?_of_block (a := ⟨b, o + 1, none⟩) e).trans h.2⟩
theorem GsFree.of_block {w w' : World} {b o : Nat} (h : GsFree w b o) (e : w'.heap[b]? = w.heap[b]?) : GsFree w' b o :=
  ⟨(World.frozen?_of_block (a := ⟨b, o, none⟩) e).trans h.1, (World.frozen?_of_block (a := ⟨b, o + 1, none⟩) e).trans h.2⟩
theorem GsCells.lt {w : World} {b o : Nat} {x : GsEl} (h : GsCells w b o x) : b < w.heap.size := lt_of_cell h.1
theorem GsCells.below {w w' : World} {b o B : Nat} {x : GsEl} (h : GsCells w b o x) (hb : Below B w w') (hB : b < B) : GsCells w' b o x := h.of_block (hb.block b hB)

/-- The slice v reads as xs. -/
def GsReads (w : World) (v : Value) (xs : List GsEl) : Prop :=
  ∃ a cap, v = .slice a xs.length cap ∧ (xs.length ≤ 1152921504606846975 ∧ xs.length ≤ cap) ∧ (xs = [] ∨ ∃ b off, a = some ⟨b, off, none⟩ ∧ ∀ i, i < xs.length → GsCells w b (off + i * 2) (xs.getD i (0, 0)))
/-- The slice v reads as xs, in cells of its own, in blocks from lo on, below hi, that may be written; or it is empty and has no room. -/
def GsOwn (lo hi : Nat) (w : World) (v : Value) (xs : List GsEl) : Prop :=
  xs.length ≤ 1152921504606846975 ∧ ((∃ a cap, v = .slice a 0 cap ∧ xs = []) ∨ ∃ g cap, v = .slice (some ⟨g, 0, none⟩) xs.length cap ∧ (lo ≤ g ∧ g < hi ∧ xs.length ≤ cap) ∧ ∀ i, i < xs.length → GsCells w g (i * 2) (xs.getD i (0, 0)) ∧ GsFree w g (i * 2))

theorem GsReads.cells {w : World} {v : Value} {xs : List GsEl} (h : GsReads w v xs) (k : Nat) (hk : k < xs.length) : ∃ b off cap, v = .slice (some ⟨b, off, none⟩) xs.length cap ∧ ∀ i, i < xs.length → GsCells w b (off + i * 2) (xs.getD i (0, 0)) := by
  obtain ⟨a, cap, rfl, _, h⟩ := h
  rcases h with h | ⟨b, off, rfl, hc⟩
  · subst h; simp at hk
  · exact ⟨b, off, cap, rfl, hc⟩
theorem GsReads.below {w w' : World} {v : Value} {xs : List GsEl} (h : GsReads w v xs) (hb : Below w.heap.size w w') : GsReads w' v xs := by
  obtain ⟨a, cap, rfl, hl, hx⟩ := h
  refine ⟨a, cap, rfl, hl, ?_⟩
  rcases hx with hx | ⟨b, off, rfl, hc⟩
  · exact .inl hx
  · exact .inr ⟨b, off, rfl, fun i hi => (hc i hi).of_block (hb.block b (hc i hi).lt)⟩
theorem gsreads_nil (w : World) (a : Option Addr) (cap : Nat) : GsReads w (.slice a 0 cap) [] := ⟨a, cap, rfl, by simp, .inl rfl⟩
theorem GsOwn.reads {lo hi : Nat} {w : World} {v : Value} {xs : List GsEl} (h : GsOwn lo hi w v xs) : GsReads w v xs := by
  obtain ⟨hl, h⟩ := h
  rcases h with ⟨a, cap, rfl, rfl⟩ | ⟨g, cap, rfl, hg, hf⟩
  · exact ⟨a, cap, rfl, by simp, .inl rfl⟩
  · exact ⟨_, cap, rfl, ⟨hl, hg.2.2⟩, .inr ⟨g, 0, rfl, fun i hi => by rw [Nat.zero_add]; exact (hf i hi).1⟩⟩
theorem GsOwn.mono {lo hi lo' hi' : Nat} {w : World} {v : Value} {xs : List GsEl} (h : GsOwn lo hi w v xs) (h1 : lo' ≤ lo) (h2 : hi ≤ hi') : GsOwn lo' hi' w v xs := by
  obtain ⟨hl, h⟩ := h
  rcases h with h | ⟨g, cap, rfl, hg, hr⟩
  · exact ⟨hl, .inl h⟩
  · exact ⟨hl, .inr ⟨g, cap, rfl, by omega, hr⟩⟩
theorem GsOwn.at {lo hi : Nat} {w w' : World} {v : Value} {xs : List GsEl} (h : GsOwn lo hi w v xs) (hk : ∀ g, lo ≤ g → g < hi → g < w.heap.size → w'.heap[g]? = w.heap[g]?) : GsOwn lo hi w' v xs := by
  obtain ⟨hl, h⟩ := h
  rcases h with h | ⟨g, cap, rfl, hg, hf⟩
  · exact ⟨hl, .inl h⟩
  · refine ⟨hl, .inr ⟨g, cap, rfl, hg, fun i hi => ?_⟩⟩
    have e := hk g hg.1 hg.2.1 (hf i hi).1.lt
    exact ⟨(hf i hi).1.of_block e, (hf i hi).2.of_block e⟩
theorem GsOwn.below {lo hi : Nat} {w w' : World} {v : Value} {xs : List GsEl} (h : GsOwn lo hi w v xs) (hb : Below w.heap.size w w') : GsOwn lo hi w' v xs := h.at fun g _ _ hg => hb.block g hg
theorem GsOwn.keep {lo hi B : Nat} {w w' : World} {v : Value} {xs : List GsEl} (h : GsOwn lo hi w v xs) (hb : Below B w w') (hB : hi ≤ B) : GsOwn lo hi w' v xs := h.at fun g _ h2 _ => hb.block g (by omega)
theorem GsOwn.only {lo hi l h' : Nat} {w w' : World} {v : Value} {xs : List GsEl} (h : GsOwn lo hi w v xs) (ho : Only l h' w w') (hd : hi ≤ l ∨ h' ≤ lo) : GsOwn lo hi w' v xs := h.at fun g h1 h2 _ => ho.2 g (by omega)
theorem gsown_nil (lo hi : Nat) (w : World) (a : Option Addr) (cap : Nat) : GsOwn lo hi w (.slice a 0 cap) [] := ⟨by simp, .inl ⟨a, cap, rfl, rfl⟩⟩

/-- The cells, one behind the other. -/
def gsflat (xs : List GsEl) : List Value := xs.flatMap fun x => [.int .i64 x.1, .int .i64 x.2]
theorem length_gsflat (xs : List GsEl) : (gsflat xs).length = xs.length * 2 := by
  induction xs with
  | nil => rfl
  | cons x xs ih => simp only [gsflat, List.flatMap_cons, List.length_append, List.length_cons, List.length_nil] at ih ⊢; omega
theorem gsflat_get : ∀ (xs : List GsEl) (i : Nat), i < xs.length → (gsflat xs)[i * 2]? = some (.int .i64 (xs.getD i (0, 0)).1) ∧ (gsflat xs)[i * 2 + 1]? = some (.int .i64 (xs.getD i (0, 0)).2)
  | x :: xs, 0, _ => ⟨rfl, rfl⟩
  | x :: xs, i + 1, h => by
    have := gsflat_get xs i (by simpa using h)
    have e : gsflat (x :: xs) = .int .i64 x.1 :: .int .i64 x.2 :: gsflat xs := rfl
    rw [e, show (i + 1) * 2 = i * 2 + 2 by omega]
    simpa using this
theorem gsflat_append (xs ys : List GsEl) : gsflat (xs ++ ys) = gsflat xs ++ gsflat ys := by simp [gsflat]
theorem gsflat_drop (xs : List GsEl) (k : Nat) : gsflat (xs.drop k) = (gsflat xs).drop (k * 2) := by
  induction xs generalizing k with
  | nil => simp [gsflat]
  | cons x xs ih =>
    cases k with
    | zero => rfl
    | succ k =>
      rw [List.drop_succ_cons, ih, show (k + 1) * 2 = k * 2 + 1 + 1 by omega]
      rfl
theorem gsflat_take (xs : List GsEl) (k : Nat) : gsflat (xs.take k) = (gsflat xs).take (k * 2) := by
  induction xs generalizing k with
  | nil => simp [gsflat]
  | cons x xs ih =>
    cases k with
    | zero => rfl
    | succ k =>
      rw [List.take_succ_cons, show (k + 1) * 2 = k * 2 + 1 + 1 by omega]
      show _ :: _ :: gsflat (xs.take k) = _ :: _ :: (gsflat xs).take (k * 2)
      rw [ih]
theorem gsflat_zero : ∀ n : Nat, gsflat (List.replicate n (0, 0)) = List.replicate (n * 2) (.int .i64 0)
  | 0 => rfl
  | n + 1 => by
    rw [List.replicate_succ, show (n + 1) * 2 = n * 2 + 1 + 1 by omega, List.replicate_succ, List.replicate_succ, ← gsflat_zero n]
    rfl
theorem gsmade_zero (n : Nat) : (madeCells (Value.agg #[.int .i64 0, .int .i64 0]).cells (n * 2)).toList = gsflat (List.replicate n (0, 0)) := by
  rw [gsflat_zero]
  apply List.ext_getElem
  · simp [madeCells]
  · intro j h1 h2
    have hz : ∀ k, k < 2 → (#[Value.int .i64 0, Value.int .i64 0] : Array Value)[k]! = .int .i64 0 := fun k hk => by
      rcases (by omega : k = 0 ∨ k = 1) with rfl | rfl <;> rfl
    simp only [madeCells, Array.toList_map, List.getElem_map, List.getElem_replicate]
    exact hz _ (Nat.mod_lt _ (by decide))
theorem gsflat_one (xs : List GsEl) : ∀ u ∈ gsflat xs, u.oneCell' = true := by
  intro u hu
  obtain ⟨x, _, hx⟩ := List.mem_flatMap.1 hu
  simp at hx
  rcases hx with rfl | rfl <;> rfl
theorem gsown_cells {w : World} {g : Nat} {cur : Array Value} {t n : Nat} {xs : List GsEl} (hh : w.heap[g]? = some (.cells cur t (0, 0))) (ht : cur.toList.take n = gsflat xs) (hn : xs.length * 2 ≤ n) :
    ∀ i, i < xs.length → GsCells w g (i * 2) (xs.getD i (0, 0)) ∧ GsFree w g (i * 2) := by
  intro i hi
  have key : ∀ j, j < xs.length * 2 → w.cell? ⟨g, j, none⟩ = (gsflat xs)[j]? := fun j hj => by
    rw [← ht, List.getElem?_take, if_pos (by omega)]
    simp [World.cell?, hh]
  have h1 := gsflat_get xs i hi
  refine ⟨⟨(key _ (by omega)).trans h1.1, (key _ (by omega)).trans h1.2⟩, ?_, ?_⟩ <;> simp [World.frozen?, hh]
theorem GsOwn.of_owns {base : Nat} {w : World} {v : Value} {n : Nat} {xs : List GsEl} (h : w.ownsRow base 91 2 v n (gsflat xs)) (hl : xs.length ≤ 1152921504606846975) : GsOwn base w.heap.size w v xs := by
  obtain ⟨hn, h⟩ := h
  rw [length_gsflat] at hn
  obtain rfl : xs.length = n := by omega
  refine ⟨hl, ?_⟩
  rcases h with ⟨rfl, h0⟩ | ⟨g, cap, cur, rfl, hg, hh, hc, hm, hs, ht⟩
  · exact .inl ⟨none, 0, rfl, List.eq_nil_of_length_eq_zero h0⟩
  · exact .inr ⟨g, cap, rfl, ⟨hg, (Array.getElem?_eq_some_iff.1 hh).1, hc⟩, gsown_cells hh ht (Nat.le_refl _)⟩
/-- The cells of what is read, one behind the other. -/
theorem gsflat_cells {w : World} {b off : Nat} {xs : List GsEl} (hc : ∀ i, i < xs.length → GsCells w b (off + i * 2) (xs.getD i (0, 0))) :
    ∀ j u, (gsflat xs)[j]? = some u → w.cell? ((⟨b, off, none⟩ : Addr).add j) = some u := by
  intro j u hj
  have hlt : j < xs.length * 2 := by
    have := (List.getElem?_eq_some_iff.1 hj).1
    rwa [length_gsflat] at this
  have h1 := gsflat_get xs (j / 2) (by omega)
  have h2 := hc (j / 2) (by omega)
  rw [show (⟨b, off, none⟩ : Addr).add j = ⟨b, off + j, none⟩ by rcases j with _ | j <;> simp [Addr.add]]
  rcases (by omega : j = j / 2 * 2 ∨ j = j / 2 * 2 + 1) with e | e
  · have a1 := h1.1
    have a2 := h2.1
    rw [← e] at a1
    rw [show off + j / 2 * 2 = off + j by omega] at a2
    rw [a1] at hj
    rw [a2, ← hj]
  · have a1 := h1.2
    have a2 := h2.2
    rw [← e] at a1
    rw [show off + j / 2 * 2 + 1 = off + j by omega] at a2
    rw [a1] at hj
    rw [a2, ← hj]
/-- All numbers of one are written. -/
theorem GsOwn.set {lo hi g cap : Nat} {w : World} {xs : List GsEl} (h : GsOwn lo hi w (.slice (some ⟨g, 0, none⟩) xs.length cap) xs) (i : Nat) (x : GsEl) (hi' : i < xs.length) :
    GsOwn lo hi ((w.setCell ⟨g, i * 2, none⟩ (.int .i64 x.1)).setCell ⟨g, i * 2 + 1, none⟩ (.int .i64 x.2)) (.slice (some ⟨g, 0, none⟩) xs.length cap) (xs.set i x) ∧ (lo ≤ g ∧ g < hi) ∧ GsFree w g (i * 2) ∧ GsCells w g (i * 2) (xs.getD i (0, 0)) := by
  obtain ⟨hl, h⟩ := h
  rcases h with ⟨a, cap', _, rfl⟩ | ⟨g', cap', e, hg, hf⟩
  · simp at hi'
  · cases e
    refine ⟨⟨by simpa using hl, .inr ⟨g, cap, by simp, by simpa using hg, fun j hj => ?_⟩⟩, ⟨hg.1, hg.2.1⟩, (hf i hi').2, (hf i hi').1⟩
    have hj' : j < xs.length := by simpa using hj
    refine ⟨?_, by have := (hf j hj').2; unfold GsFree at this ⊢; simpa using this⟩
    by_cases e : j = i
    · subst e
      have hx : (xs.set j x).getD j (0, 0) = x := by simp [List.getD_eq_getElem?_getD, hj']
      rw [hx]
      refine ⟨?_, ?_⟩
      · rw [World.cell?_setCell_other _ _ _ _ (by simp)]; exact World.cell?_setCell_same _ _ _ (u := .int .i64 (xs.getD j (0, 0)).1) (by exact (hf j hj').1.1)
      · exact World.cell?_setCell_same _ _ _ (u := .int .i64 (xs.getD j (0, 0)).2) (by rw [World.cell?_setCell_other _ _ _ _ (by simp)]; exact (hf j hj').1.2)
    · have hx : (xs.set i x).getD j (0, 0) = xs.getD j (0, 0) := by simp [List.getD_eq_getElem?_getD, Ne.symm e]
      rw [hx]
      refine ⟨?_, ?_⟩
      · rw [World.cell?_setCell_other _ _ _ _ (by simp <;> omega), World.cell?_setCell_other _ _ _ _ (by simp <;> omega)]; exact (hf j hj').1.1
      · rw [World.cell?_setCell_other _ _ _ _ (by simp <;> omega), World.cell?_setCell_other _ _ _ _ (by simp <;> omega)]; exact (hf j hj').1.2
end Go.Proofs.Ytdlkilacnnjglaa
namespace Go.Proofs.Ytdlkilacnnjglaa
open Go.RowKit

def gsmarks (k : Int) (n : Nat) : List GsEl := (List.range n).map fun (i : Nat) => (k + (2 * i : Nat), k + (2 * i + 1 : Nat))
def gsmarked (xs : List GsEl) (k : Int) (j : Nat) : List GsEl := gsmarks k j ++ xs.drop j
theorem length_gsmarks (k : Int) (n : Nat) : (gsmarks k n).length = n := by simp [gsmarks]
theorem gsmarks_get (k : Int) (n i : Nat) (h : i < n) : (gsmarks k n).getD i (0, 0) = (k + (2 * i : Nat), k + (2 * i + 1 : Nat)) := by simp [gsmarks, List.getD_eq_getElem?_getD, h]
theorem length_gsmarked (xs : List GsEl) (k : Int) (j : Nat) (h : j ≤ xs.length) : (gsmarked xs k j).length = xs.length := by simp [gsmarked, length_gsmarks]; omega
theorem gsmarked_zero (xs : List GsEl) (k : Int) : gsmarked xs k 0 = xs := by simp [gsmarked, gsmarks]
theorem gsmarked_all (xs : List GsEl) (k : Int) : gsmarked xs k xs.length = gsmarks k xs.length := by simp [gsmarked]
theorem gsmarked_step (xs : List GsEl) (k : Int) (i : Nat) (h : i < xs.length) : (gsmarked xs k i).set i (k + (2 * i : Nat), k + (2 * i + 1 : Nat)) = gsmarked xs k (i + 1) := by
  have e : xs.drop i = xs[i] :: xs.drop (i + 1) := List.drop_eq_getElem_cons h
  unfold gsmarked
  rw [e, List.set_append_right _ _ (by simp [length_gsmarks])]
  have : gsmarks k (i + 1) = gsmarks k i ++ [(k + (2 * i : Nat), k + (2 * i + 1 : Nat))] := by simp [gsmarks, List.range_succ]
  simp only [length_gsmarks, Nat.sub_self, List.set_cons_zero]
  rw [this, List.append_assoc]
  rfl

set_option maxHeartbeats 1000000 in
theorem markGreetStepS_any (lo hi : Nat) (v : Value) (xs : List GsEl) (k m : Int) (w : World) (ho : GsOwn lo hi w v xs) (hx : xs.length ≤ 1048576) (h0 : 0 ≤ k) (h1 : k ≤ 1152921504606846975) (hm : m = k + (2 * xs.length : Nat)) :
    Calls Try.prog 32 #[v, .int .i64 k] w fun e w' => e = .returned (.int .i64 m) ∧ GsOwn lo hi w' v (gsmarks k xs.length) ∧ Below lo w w' ∧ Only lo hi w w' := by
  subst hm
  rcases (show (∃ a cap, v = .slice a 0 cap ∧ xs = []) ∨ ∃ g cap, v = .slice (some ⟨g, 0, none⟩) xs.length cap from by
    rcases ho.2 with h | ⟨g, cap, h, _⟩
    · exact .inl h
    · exact .inr ⟨g, cap, h⟩) with ⟨a, cap, rfl, rfl⟩ | ⟨g, cap, rfl⟩
  · go_enter Try.func32, Try.ntmps32
    go_wp2
    go_rounds 1
    all_goals (go_ret; exact ⟨by simp, ho, Below.refl _ _, Only.refl _ _ _⟩)
  have HO := hid ho
  clear ho
  go_enter Try.func32, Try.ntmps32
  go_wp2
  go_loopw [1, 5] (fun m i wr => ∃ j : Nat, j ≤ xs.length ∧ i = .int .i64 j ∧ m = .int .i64 (k + (2 * j : Nat)) ∧ GsOwn lo hi wr (.slice (some ⟨g, 0, none⟩) xs.length cap) (gsmarked xs k j) ∧ Below lo w wr ∧ Only lo hi w wr) (fun _ i _ => xs.length - (intOf i).toNat)
  case atStart => exact ⟨0, Nat.zero_le _, rfl, by simp, by rw [gsmarked_zero]; exact HO.out, Below.refl _ _, Only.refl _ _ _⟩
  case round =>
    obtain ⟨j, hj, rfl, rfl, hown, hbel, hoth⟩ := hrel
    by_cases hlt : j < xs.length
    · have hl2 := length_gsmarked xs k j hj
      have hset := GsOwn.set (xs := gsmarked xs k j) (by rw [hl2]; exact hown) j (k + (2 * j : Nat), k + (2 * j + 1 : Nat)) (by omega)
      rw [gsmarked_step xs k j hlt, hl2] at hset
      obtain ⟨hown2, hgb, ⟨f0, f1⟩, c0, c1⟩ := hset
      have HO2 := hid hown2
      have HB := hid hbel
      have HT := hid hoth
      clear hown hown2 hl2 hbel hoth
      generalize ((gsmarked xs k j).getD j (0, 0)).1 = y0 at c0
      generalize ((gsmarked xs k j).getD j (0, 0)).2 = y1 at c1
      go_wp2
      go_roundw
      case rel =>
        refine ⟨j + 1, by omega, by go_num, by go_num, ?_, (HB.out.setCell hgb.1 _).setCell hgb.1 _, (HT.out.setCell hgb.1 hgb.2 _).setCell hgb.1 hgb.2 _⟩
        have := HO2.out
        have e1 : k + (2 * j + 1 : Nat) = k + (2 * j : Nat) + 1 := by omega
        simp only [e1] at this
        exact this
      case measure => simp [intOf]; omega
    · obtain rfl : j = xs.length := by omega
      rw [gsmarked_all] at hown
      go_wp2
      go_ret
      exact ⟨rfl, hown, hbel, hoth⟩

end Go.Proofs.Ytdlkilacnnjglaa
namespace Go.Proofs.Ytdlkilacnnjglaa
open Go.RowKit

theorem szGreetStepS_at (left : Int) (a : Option Addr) (len cap : Nat) (w : World) (h0 : 0 ≤ left) (h1 : left ≤ 1048576) (hl : (len : Int) ≤ left) :
    Calls Try.prog 25 #[.slice a len cap, .int .i64 left] w fun e w' => e = .returned (.int .i64 (left - len)) ∧ w' = w := by
  have hw : IntKind.i64.wrap (left - (len : Int)) = left - len := by rw [IntKind.wrap_i64]; omega
  have hd : decide (left - (len : Int) < 0) = false := by simp; omega
  go_enter Try.func25, Try.ntmps25
  go_wp2
  go_ret
  exact ⟨rfl, rfl⟩
theorem szGreetStepS_over (left : Int) (a : Option Addr) (len cap : Nat) (w : World) (h0 : 0 ≤ left) (h1 : left ≤ 1048576) (hl : ¬ (len : Int) ≤ left) (hm : len ≤ maxLen) :
    Calls Try.prog 25 #[.slice a len cap, .int .i64 left] w fun e w' => e = .returned (.int .i64 (-1)) ∧ w' = w := by
  unfold maxLen at hm
  have hw : IntKind.i64.wrap (left - (len : Int)) = left - len := by rw [IntKind.wrap_i64]; omega
  have hd : decide (left - (len : Int) < 0) = true := by simp; omega
  go_enter Try.func25, Try.ntmps25
  go_wp2
  go_ret
  exact ⟨rfl, rfl⟩
end Go.Proofs.Ytdlkilacnnjglaa
