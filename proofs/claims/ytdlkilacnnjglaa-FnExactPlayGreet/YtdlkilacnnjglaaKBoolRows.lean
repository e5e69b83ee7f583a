/-
  Slices of bool: what they read as, which are new: plain facts on the memory.
  laws.eqBoolS with true for two slices that read alike; nothing old is written.
  laws.markBoolS writes k, k + 1, .. into ones of its own; laws.heldBoolS finds them there; nothing else is written.
-/
import Derived.Test.YtdlkilacnnjglaaInts
namespace Go.Proofs.Ytdlkilacnnjglaa
open Go.RowKit

abbrev BoEl := Bool

/-- The cells of one, from an offset on. -/
def BoCells (w : World) (b o : Nat) (x : BoEl) : Prop := w.cell? ⟨b, o, none⟩ = some (.bool x)
def BoFree (w : World) (b o : Nat) : Prop := w.frozen? ⟨b, o, none⟩ = false
theorem BoCells.of_block {w w' : World} {b o : Nat} {x : BoEl} (h : BoCells w b o x) (e : w'.heap[b]? = w.heap[b]?) : BoCells w' b o x :=
  (World.cell?_of_block (a := ⟨b, o, none⟩) e).trans h
theorem BoFree.of_block {w w' : World} {b o : Nat} (h : BoFree w b o) (e : w'.heap[b]? = w.heap[b]?) : BoFree w' b o :=
  (World.frozen?_of_block (a := ⟨b, o, none⟩) e).trans h
theorem BoCells.lt {w : World} {b o : Nat} {x : BoEl} (h : BoCells w b o x) : b < w.heap.size := lt_of_cell h
theorem BoCells.below {w w' : World} {b o B : Nat} {x : BoEl} (h : BoCells w b o x) (hb : Below B w w') (hB : b < B) : BoCells w' b o x := h.of_block (hb.block b hB)

/-- The slice v reads as xs. -/
def BoReads (w : World) (v : Value) (xs : List BoEl) : Prop :=
  ∃ a cap, v = .slice a xs.length cap ∧ (xs.length ≤ 1152921504606846975 ∧ xs.length ≤ cap) ∧ (xs = [] ∨ ∃ b off, a = some ⟨b, off, none⟩ ∧ ∀ i, i < xs.length → BoCells w b (off + i) (xs.getD i false))
/-- The slice v reads as xs, in cells of its own, in blocks from lo on, below hi, that may be written; or it is empty and has no room. -/
def BoOwn (lo hi : Nat) (w : World) (v : Value) (xs : List BoEl) : Prop :=
  xs.length ≤ 1152921504606846975 ∧ ((∃ a cap, v = .slice a 0 cap ∧ xs = []) ∨ ∃ g cap, v = .slice (some ⟨g, 0, none⟩) xs.length cap ∧ (lo ≤ g ∧ g < hi ∧ xs.length ≤ cap) ∧ ∀ i, i < xs.length → BoCells w g (i) (xs.getD i false) ∧ BoFree w g (i))

theorem BoReads.cells {w : World} {v : Value} {xs : List BoEl} (h : BoReads w v xs) (k : Nat) (hk : k < xs.length) : ∃ b off cap, v = .slice (some ⟨b, off, none⟩) xs.length cap ∧ ∀ i, i < xs.length → BoCells w b (off + i) (xs.getD i false) := by
  obtain ⟨a, cap, rfl, _, h⟩ := h
  rcases h with h | ⟨b, off, rfl, hc⟩
  · subst h; simp at hk
  · exact ⟨b, off, cap, rfl, hc⟩
theorem BoReads.below {w w' : World} {v : Value} {xs : List BoEl} (h : BoReads w v xs) (hb : Below w.heap.size w w') : BoReads w' v xs := by
  obtain ⟨a, cap, rfl, hl, hx⟩ := h
  refine ⟨a, cap, rfl, hl, ?_⟩
  rcases hx with hx | ⟨b, off, rfl, hc⟩
  · exact .inl hx
  · exact .inr ⟨b, off, rfl, fun i hi => (hc i hi).of_block (hb.block b (hc i hi).lt)⟩
theorem boreads_nil (w : World) (a : Option Addr) (cap : Nat) : BoReads w (.slice a 0 cap) [] := ⟨a, cap, rfl, by simp, .inl rfl⟩
theorem BoOwn.reads {lo hi : Nat} {w : World} {v : Value} {xs : List BoEl} (h : BoOwn lo hi w v xs) : BoReads w v xs := by
  obtain ⟨hl, h⟩ := h
  rcases h with ⟨a, cap, rfl, rfl⟩ | ⟨g, cap, rfl, hg, hf⟩
  · exact ⟨a, cap, rfl, by simp, .inl rfl⟩
  · exact ⟨_, cap, rfl, ⟨hl, hg.2.2⟩, .inr ⟨g, 0, rfl, fun i hi => by rw [Nat.zero_add]; exact (hf i hi).1⟩⟩
theorem BoOwn.mono {lo hi lo' hi' : Nat} {w : World} {v : Value} {xs : List BoEl} (h : BoOwn lo hi w v xs) (h1 : lo' ≤ lo) (h2 : hi ≤ hi') : BoOwn lo' hi' w v xs := by
  obtain ⟨hl, h⟩ := h
  rcases h with h | ⟨g, cap, rfl, hg, hr⟩
  · exact ⟨hl, .inl h⟩
  · exact ⟨hl, .inr ⟨g, cap, rfl, by omega, hr⟩⟩
theorem BoOwn.at {lo hi : Nat} {w w' : World} {v : Value} {xs : List BoEl} (h : BoOwn lo hi w v xs) (hk : ∀ g, lo ≤ g → g < hi → g < w.heap.size → w'.heap[g]? = w.heap[g]?) : BoOwn lo hi w' v xs := by
  obtain ⟨hl, h⟩ := h
  rcases h with h | ⟨g, cap, rfl, hg, hf⟩
  · exact ⟨hl, .inl h⟩
  · refine ⟨hl, .inr ⟨g, cap, rfl, hg, fun i hi => ?_⟩⟩
    have e := hk g hg.1 hg.2.1 (hf i hi).1.lt
    exact ⟨(hf i hi).1.of_block e, (hf i hi).2.of_block e⟩
theorem BoOwn.below {lo hi : Nat} {w w' : World} {v : Value} {xs : List BoEl} (h : BoOwn lo hi w v xs) (hb : Below w.heap.size w w') : BoOwn lo hi w' v xs := h.at fun g _ _ hg => hb.block g hg
theorem BoOwn.keep {lo hi B : Nat} {w w' : World} {v : Value} {xs : List BoEl} (h : BoOwn lo hi w v xs) (hb : Below B w w') (hB : hi ≤ B) : BoOwn lo hi w' v xs := h.at fun g _ h2 _ => hb.block g (by omega)
theorem BoOwn.only {lo hi l h' : Nat} {w w' : World} {v : Value} {xs : List BoEl} (h : BoOwn lo hi w v xs) (ho : Only l h' w w') (hd : hi ≤ l ∨ h' ≤ lo) : BoOwn lo hi w' v xs := h.at fun g h1 h2 _ => ho.2 g (by omega)
theorem boown_nil (lo hi : Nat) (w : World) (a : Option Addr) (cap : Nat) : BoOwn lo hi w (.slice a 0 cap) [] := ⟨by simp, .inl ⟨a, cap, rfl, rfl⟩⟩

/-- The cells, one behind the other. -/
def boflat (xs : List BoEl) : List Value := xs.map Value.bool
theorem length_boflat (xs : List BoEl) : (boflat xs).length = xs.length := by simp [boflat]
theorem boflat_get (xs : List BoEl) (i : Nat) (h : i < xs.length) : (boflat xs)[i]? = some (.bool (xs.getD i false)) := by simp [boflat, List.getD_eq_getElem?_getD, h]
theorem boflat_append (xs ys : List BoEl) : boflat (xs ++ ys) = boflat xs ++ boflat ys := by simp [boflat]
theorem boflat_drop (xs : List BoEl) (k : Nat) : boflat (xs.drop k) = (boflat xs).drop k := by simp [boflat]
theorem boflat_take (xs : List BoEl) (k : Nat) : boflat (xs.take k) = (boflat xs).take k := by simp [boflat]
theorem bomade_zero (n : Nat) : (madeCells (Value.bool false).cells n).toList = boflat (List.replicate n false) := by
  apply List.ext_getElem
  · simp [madeCells, boflat]
  · intro j h1 h2
    simp [madeCells, boflat, Value.cells, Nat.mod_one]
theorem boflat_one (xs : List BoEl) : ∀ u ∈ boflat xs, u.oneCell' = true := by
  intro u hu
  obtain ⟨x, _, rfl⟩ := List.mem_map.1 hu
  rfl
theorem boown_cells {w : World} {g : Nat} {cur : Array Value} {t n : Nat} {xs : List BoEl} (hh : w.heap[g]? = some (.cells cur t (0, 0))) (ht : cur.toList.take n = boflat xs) (hn : xs.length ≤ n) :
    ∀ i, i < xs.length → BoCells w g i (xs.getD i false) ∧ BoFree w g i := by
  intro i hi
  have key : ∀ j, j < xs.length → w.cell? ⟨g, j, none⟩ = (boflat xs)[j]? := fun j hj => by
    rw [← ht, List.getElem?_take, if_pos (by omega)]
    simp [World.cell?, hh]
  refine ⟨(key _ (by omega)).trans (boflat_get xs i hi), ?_⟩
  simp [BoFree, World.frozen?, hh]
theorem BoOwn.of_owns {base : Nat} {w : World} {v : Value} {n : Nat} {xs : List BoEl} (h : w.ownsRow base 4 1 v n (boflat xs)) (hl : xs.length ≤ 1152921504606846975) : BoOwn base w.heap.size w v xs := by
  obtain ⟨hn, h⟩ := h
  rw [length_boflat] at hn
  obtain rfl : xs.length = n := by omega
  refine ⟨hl, ?_⟩
  rcases h with ⟨rfl, h0⟩ | ⟨g, cap, cur, rfl, hg, hh, hc, hm, hs, ht⟩
  · exact .inl ⟨none, 0, rfl, List.eq_nil_of_length_eq_zero h0⟩
  · exact .inr ⟨g, cap, rfl, ⟨hg, (Array.getElem?_eq_some_iff.1 hh).1, hc⟩, boown_cells hh ht (by omega)⟩
/-- The cells of what is read, one behind the other. -/
theorem boflat_cells {w : World} {b off : Nat} {xs : List BoEl} (hc : ∀ i, i < xs.length → BoCells w b (off + i) (xs.getD i false)) :
    ∀ j u, (boflat xs)[j]? = some u → w.cell? ((⟨b, off, none⟩ : Addr).add j) = some u := by
  intro j u hj
  have hlt : j < xs.length := by
    have := (List.getElem?_eq_some_iff.1 hj).1
    rwa [length_boflat] at this
  rw [show (⟨b, off, none⟩ : Addr).add j = ⟨b, off + j, none⟩ by rcases j with _ | j <;> simp [Addr.add]]
  rw [boflat_get xs j hlt] at hj
  rw [hc j hlt, ← hj]
/-- All numbers of one are written. -/
theorem BoOwn.set {lo hi g cap : Nat} {w : World} {xs : List BoEl} (h : BoOwn lo hi w (.slice (some ⟨g, 0, none⟩) xs.length cap) xs) (i : Nat) (x : BoEl) (hi' : i < xs.length) :
    BoOwn lo hi (w.setCell ⟨g, i, none⟩ (.bool x)) (.slice (some ⟨g, 0, none⟩) xs.length cap) (xs.set i x) ∧ (lo ≤ g ∧ g < hi) ∧ BoFree w g (i) ∧ BoCells w g (i) (xs.getD i false) := by
  obtain ⟨hl, h⟩ := h
  rcases h with ⟨a, cap', _, rfl⟩ | ⟨g', cap', e, hg, hf⟩
  · simp at hi'
  · cases e
    refine ⟨⟨by simpa using hl, .inr ⟨g, cap, by simp, by simpa using hg, fun j hj => ?_⟩⟩, ⟨hg.1, hg.2.1⟩, (hf i hi').2, (hf i hi').1⟩
    have hj' : j < xs.length := by simpa using hj
    refine ⟨?_, by have := (hf j hj').2; unfold BoFree at this ⊢; simpa using this⟩
    by_cases e : j = i
    · subst e
      have hx : (xs.set j x).getD j false = x := by simp [List.getD_eq_getElem?_getD, hj']
      rw [hx]
      exact World.cell?_setCell_same _ _ _ (u := .bool (xs.getD j false)) (by exact (hf j hj').1)
    · have hx : (xs.set i x).getD j false = xs.getD j false := by simp [List.getD_eq_getElem?_getD, Ne.symm e]
      rw [hx]
      show World.cell? _ _ = _
      rw [World.cell?_setCell_other _ _ _ _ (by simp <;> omega)]
      exact (hf j hj').1
end Go.Proofs.Ytdlkilacnnjglaa
namespace Go.Proofs.Ytdlkilacnnjglaa
open Go.RowKit

set_option maxHeartbeats 1000000 in
theorem eqBoolS_same (va vb : Value) (xs : List BoEl) (w : World) (ha : BoReads w va xs) (hb : BoReads w vb xs) :
    Calls Try.prog 30 #[va, vb] w fun e w' => e = .returned (.bool true) ∧ Below w.heap.size w w' := by
  obtain ⟨a, ca, rfl, hl, hxa⟩ := ha
  obtain ⟨b, cb, rfl, _, hxb⟩ := hb
  have hd : ((xs.length : Int) != (xs.length : Int)) = false := by simp
  have HA := hid hxa
  have HB := hid hxb
  clear hxa hxb
  go_enter Try.func30, Try.ntmps30
  go_wp2
  go_loopw [5] (fun i wr => ∃ k : Nat, k ≤ xs.length ∧ i = .int .i64 k ∧ Below w.heap.size w wr) (fun i _ => xs.length - (intOf i).toNat)
  case atStart => exact ⟨0, Nat.zero_le _, rfl, Below.refl _ _⟩
  case round =>
    obtain ⟨k, hk, rfl, hal⟩ := hrel
    by_cases hlt : k < xs.length
    · obtain ⟨ga, oa, rfl, hca⟩ : ∃ b off, a = some ⟨b, off, none⟩ ∧ ∀ i, i < xs.length → BoCells w b (off + i) (xs.getD i false) := by
        rcases HA.out with h | h
        · subst h; simp at hlt
        · exact h
      obtain ⟨gb, ob, rfl, hcb⟩ : ∃ a off, b = some ⟨a, off, none⟩ ∧ ∀ i, i < xs.length → BoCells w a (off + i) (xs.getD i false) := by
        rcases HB.out with h | h
        · subst h; simp at hlt
        · exact h
      have h0 : _ = _ := (hca k hlt).below hal (hca k hlt).lt
      have k0 : _ = _ := (hcb k hlt).below hal (hcb k hlt).lt
      have HL := hid hal
      clear hal hca hcb
      generalize (xs.getD k false) = p at h0 k0
      have hp : (p != p) = false := by simp
      go_wp2_with fail
      go_region
      all_goals go_wp2
      all_goals go_roundw
      all_goals first
        | exact ⟨k + 1, by omega, by go_num, HL.out.drew⟩
        | (simp [intOf]; omega)
    · go_wp2
      go_ret
      exact ⟨rfl, hal⟩
end Go.Proofs.Ytdlkilacnnjglaa
namespace Go.Proofs.Ytdlkilacnnjglaa
open Go.RowKit

/-- What markBoolS writes. -/
def b3 (k : Int) : Bool := (k % 3 == 0)
def bmarks (k : Int) (n : Nat) : List BoEl := (List.range n).map fun (i : Nat) => (b3 (k + (i : Int)))
def bmarked (xs : List BoEl) (k : Int) (j : Nat) : List BoEl := bmarks k j ++ xs.drop j
theorem length_bmarks (k : Int) (n : Nat) : (bmarks k n).length = n := by simp [bmarks]
theorem bmarks_get (k : Int) (n i : Nat) (h : i < n) : (bmarks k n).getD i false = (b3 (k + (i : Int))) := by simp [bmarks, List.getD_eq_getElem?_getD, h]
theorem length_bmarked (xs : List BoEl) (k : Int) (j : Nat) (h : j ≤ xs.length) : (bmarked xs k j).length = xs.length := by simp [bmarked, length_bmarks]; omega
theorem bmarked_zero (xs : List BoEl) (k : Int) : bmarked xs k 0 = xs := by simp [bmarked, bmarks]
theorem bmarked_all (xs : List BoEl) (k : Int) : bmarked xs k xs.length = bmarks k xs.length := by simp [bmarked]
theorem bmarked_step (xs : List BoEl) (k : Int) (i : Nat) (h : i < xs.length) : (bmarked xs k i).set i (b3 (k + (i : Int))) = bmarked xs k (i + 1) := by
  have e : xs.drop i = xs[i] :: xs.drop (i + 1) := List.drop_eq_getElem_cons h
  unfold bmarked
  rw [e, List.set_append_right _ _ (by simp [length_bmarks])]
  have : bmarks k (i + 1) = bmarks k i ++ [(b3 (k + (i : Int)))] := by simp [bmarks, List.range_succ]
  simp only [length_bmarks, Nat.sub_self, List.set_cons_zero]
  rw [this, List.append_assoc]
  rfl

set_option maxHeartbeats 1000000 in
theorem kmarkBoolS_any (lo hi : Nat) (v : Value) (xs : List BoEl) (k m : Int) (w : World) (ho : BoOwn lo hi w v xs) (hx : xs.length ≤ 1048576) (h0 : 0 ≤ k) (h1 : k ≤ 1152921504606846975) (hm : m = k + (xs.length : Nat)) :
    Calls Try.prog 34 #[v, .int .i64 k] w fun e w' => e = .returned (.int .i64 m) ∧ BoOwn lo hi w' v (bmarks k xs.length) ∧ Below lo w w' ∧ Only lo hi w w' := by
  subst hm
  rcases (show (∃ a cap, v = .slice a 0 cap ∧ xs = []) ∨ ∃ g cap, v = .slice (some ⟨g, 0, none⟩) xs.length cap from by
    rcases ho.2 with h | ⟨g, cap, h, _⟩
    · exact .inl h
    · exact .inr ⟨g, cap, h⟩) with ⟨a, cap, rfl, rfl⟩ | ⟨g, cap, rfl⟩
  · go_enter Try.func34, Try.ntmps34
    go_wp2
    go_rounds 1
    all_goals (go_ret; exact ⟨by simp, ho, Below.refl _ _, Only.refl _ _ _⟩)
  have HO := hid ho
  clear ho
  go_enter Try.func34, Try.ntmps34
  go_wp2
  go_loopw [1, 5] (fun m i wr => ∃ j : Nat, j ≤ xs.length ∧ i = .int .i64 j ∧ m = .int .i64 (k + (j : Nat)) ∧ BoOwn lo hi wr (.slice (some ⟨g, 0, none⟩) xs.length cap) (bmarked xs k j) ∧ Below lo w wr ∧ Only lo hi w wr) (fun _ i _ => xs.length - (intOf i).toNat)
  case atStart => exact ⟨0, Nat.zero_le _, rfl, by simp, by rw [bmarked_zero]; exact HO.out, Below.refl _ _, Only.refl _ _ _⟩
  case round =>
    obtain ⟨j, hj, rfl, rfl, hown, hbel, hoth⟩ := hrel
    by_cases hlt : j < xs.length
    · have hl2 := length_bmarked xs k j hj
      have hset := BoOwn.set (xs := bmarked xs k j) (by rw [hl2]; exact hown) j (b3 (k + (j : Nat))) (by omega)
      rw [bmarked_step xs k j hlt, hl2] at hset
      obtain ⟨hown2, hgb, f0, c0⟩ := hset
      have HO2 := hid hown2
      have HB := hid hbel
      have HT := hid hoth
      clear hown hown2 hl2 hbel hoth
      generalize ((bmarked xs k j).getD j false) = y0 at c0
      replace f0 : _ = _ := f0
      replace c0 : _ = _ := c0
      go_wp2
      go_roundw
      case rel =>
        refine ⟨j + 1, by omega, by go_num, by go_num, ?_, HB.out.setCell hgb.1 _, HT.out.setCell hgb.1 hgb.2 _⟩
        exact HO2.out
      case measure => simp [intOf]; omega
    · obtain rfl : j = xs.length := by omega
      rw [bmarked_all] at hown
      go_wp2
      go_ret
      exact ⟨rfl, hown, hbel, hoth⟩

set_option maxHeartbeats 1000000 in
theorem kheldBoolS_any (v : Value) (n : Nat) (k m : Int) (w : World) (hr : BoReads w v (bmarks k n)) (hn : n ≤ 1048576) (h0 : 0 ≤ k) (h1 : k ≤ 1152921504606846975) (hm : m = k + (n : Nat)) :
    Calls Try.prog 36 #[v, .int .i64 k] w fun e w' => e = .returned (.int .i64 m) ∧ w' = w := by
  subst hm
  obtain ⟨a, cap, rfl, hl, hx⟩ := hr
  rw [length_bmarks] at hl hx ⊢
  rcases hx with hx | ⟨b, off, rfl, hc⟩
  · have hn : n = 0 := by have := length_bmarks k n; rw [hx] at this; simpa using this.symm
    subst hn
    clear hx
    go_enter Try.func36, Try.ntmps36
    go_wp2
    go_rounds 1
    all_goals (go_ret; exact ⟨by simp, rfl⟩)
  have HC : Hid (∀ i, i < n → BoCells w b (off + i) (b3 (k + (i : Int)))) := fun i hi => by have := hc i hi; rw [bmarks_get k n i hi] at this; exact this
  clear hc
  go_enter Try.func36, Try.ntmps36
  go_wp2
  go_loopw [1, 5] (fun m i wr => ∃ j : Nat, j ≤ n ∧ i = .int .i64 j ∧ m = .int .i64 (k + (j : Nat)) ∧ w = wr) (fun _ i _ => n - (intOf i).toNat)
  case atStart => exact ⟨0, Nat.zero_le _, rfl, by simp, rfl⟩
  case round =>
    obtain ⟨j, hj, rfl, rfl, rfl⟩ := hrel
    by_cases hlt : j < n
    · have c0 : w.cell? ⟨b, off + j, none⟩ = some (.bool ((k + (j : Int)) % 3 == 0)) := HC.out j hlt
      have hq : (((k + (j : Int)) % 3 == 0) != ((k + (j : Int)) % 3 == 0)) = false := by simp
      go_wp2
      go_roundw
      case rel => exact ⟨j + 1, by omega, by go_num, by go_num, trivial⟩
      case measure => simp [intOf]; omega
    · obtain rfl : j = n := by omega
      go_wp2
      go_ret
      exact ⟨rfl, rfl⟩
end Go.Proofs.Ytdlkilacnnjglaa
