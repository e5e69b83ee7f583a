/-
  'But P w w'': of what was there no block has turned but those of P; new ones may have come.
  Rows of numbers in a block of their own, with the room behind them: read, written, cut. Plain facts on the memory.
  Nothing is appended to numbers: they lie as they lay. A plain fact on the memory.
  Numbers appended to a row of one's own, whatever they are, none too: plain facts on the memory.
  impl.numbersBelow: the numbers from nought on, in memory of their own. Nothing old is written.
-/
import Derived.Test.YtnkpboobfkjibadKIntRows
import Derived.Laws.OwnMore
import Derived.ArgAppend
import Derived.Deep.Upon
import Derived.Lib.SlFresh
import Derived.Lib.SliceRun
import Derived.Maps.AppendAt
namespace Go.Proofs.Ytnkpboobfkjibad
open Go.RowKit

def But (P : Nat → Prop) (w w' : World) : Prop := Below 0 w w' ∧ ∀ k, k < w.heap.size → ¬ P k → w'.heap[k]? = w.heap[k]?
theorem But.refl (P : Nat → Prop) (w : World) : But P w w := ⟨Below.refl _ _, fun _ _ _ => rfl⟩
theorem But.size {P : Nat → Prop} {a b : World} (h : But P a b) : a.heap.size ≤ b.heap.size := h.1.size
theorem But.trans {P : Nat → Prop} {a b c : World} (h : But P a b) (k : But P b c) : But P a c := ⟨h.1.trans k.1, fun j hj hp => (k.2 j (Nat.lt_of_lt_of_le hj h.size) hp).trans (h.2 j hj hp)⟩
theorem But.mono {P Q : Nat → Prop} {a b : World} (h : But P a b) (hq : ∀ k, P k → Q k) : But Q a b := ⟨h.1, fun j hj hp => h.2 j hj fun hP => hp (hq j hP)⟩
theorem But.of {P : Nat → Prop} {a b : World} (h : Below a.heap.size a b) : But P a b := ⟨h.mono (Nat.zero_le _), fun j hj _ => h.block j hj⟩
theorem But.to {P : Nat → Prop} {a b : World} (h : But P a b) {B : Nat} (hB : B ≤ a.heap.size) (hp : ∀ k, k < B → ¬ P k) : Below B a b := ⟨h.1.os, h.1.tape, h.1.output, h.size, fun k hk => h.2 k (by omega) (hp k hk)⟩
theorem But.drew {P : Nat → Prop} {a b : World} (h : But P a b) : But P a b.drew := ⟨h.1.drew, h.2⟩
theorem But.setCell {P : Nat → Prop} {a b : World} (h : But P a b) {p : Addr} (hp : P p.block) (u : Value) : But P a (b.setCell p u) :=
  ⟨h.1.setCell (Nat.zero_le _) u, fun j hj hn => (Below.heap_setCell _ _ _ _ (fun e => hn (by rw [e]; exact hp))).trans (h.2 j hj hn)⟩
theorem But.alloc {P : Nat → Prop} {a b : World} (h : But P a b) (o : Obj) : But P a (b.alloc o) := h.trans (But.of ((Below.refl _ _).alloc (Nat.le_refl _) _))
theorem But.grown {P : Nat → Prop} {a b c : World} {row : Option Nat} (h : But P a b) (hg : b.grownBy c row) (hr : ∀ k, row = some k → P k) : But P a c :=
  h.trans ⟨⟨hg.os, hg.tape, hg.output, hg.size, fun k hk => by omega⟩, fun j hj hp => hg.block j hj fun e => hp (hr j e.symm)⟩
theorem But.cell {P : Nat → Prop} {a b : World} (h : But P a b) {p : Addr} (hp : ¬ P p.block) (hs : p.block < a.heap.size) : b.cell? p = a.cell? p := World.cell?_of_block (w := a) (h.2 p.block hs hp)
theorem But.frozen {P : Nat → Prop} {a b : World} (h : But P a b) {p : Addr} (hp : ¬ P p.block) (hs : p.block < a.heap.size) : b.frozen? p = a.frozen? p := World.frozen?_of_block (w := a) (h.2 p.block hs hp)
theorem owns_but {P : Nat → Prop} {w w' : World} {base : Nat} {t : TypeId} {size n : Nat} {v : Value} {cs : List Value} (h : w.ownsRow base t size v n cs) (hb : But P w w') (hp : ∀ k, v.ownBlock = some k → ¬ P k) : w'.ownsRow base t size v n cs := by
  obtain ⟨h1, h2⟩ := h
  refine ⟨h1, ?_⟩
  rcases h2 with h | ⟨g, cap, cur, rfl, hg, hh, hr⟩
  · exact .inl h
  · refine .inr ⟨g, cap, cur, rfl, hg, ?_, hr⟩
    rw [hb.2 g (Array.getElem?_eq_some_iff.1 hh).1 (hp g rfl)]
    exact hh
/-- What is written then lies in new blocks, or in such as may be written. -/
theorem But.and {P Q : Nat → Prop} {a b c : World} (h : But P a b) (k : But Q b c) (hq : ∀ j, j < a.heap.size → Q j → P j) : But P a c :=
  ⟨h.1.trans k.1, fun j hj hp => (k.2 j (Nat.lt_of_lt_of_le hj h.size) fun q => hp (hq j hj q)).trans (h.2 j hj hp)⟩
theorem But.setNew {P : Nat → Prop} {a b : World} (h : But P a b) {p : Addr} (hp : a.heap.size ≤ p.block) (u : Value) : But P a (b.setCell p u) :=
  h.and (Q := fun j => j = p.block) ((But.refl _ _).setCell (P := fun j => j = p.block) rfl u) (fun j hj e => by omega)
end Go.Proofs.Ytnkpboobfkjibad
namespace Go.Proofs.Ytnkpboobfkjibad
open Go.RowKit

/-- In block g lies a row of n numbers, with room for cap. -/
def IRow (w : World) (g n cap : Nat) (xs : List Int) : Prop := w.ownsRow g 3 1 (.slice (some ⟨g, 0, none⟩) n cap) n (kflat xs)
theorem IRow.len {w : World} {g n cap : Nat} {xs : List Int} (h : IRow w g n cap xs) : xs.length = n := by
  have := h.1
  rw [length_kflat, Nat.mul_one] at this
  exact this
theorem IRow.caps {w : World} {g n cap : Nat} {xs : List Int} (h : IRow w g n cap xs) : n ≤ cap ∧ cap ≤ maxLen ∧ g < w.heap.size := by
  rcases h.2 with ⟨h', _⟩ | ⟨g', cap', cur, h', hb, hg, hnc, hcm, hcs, htake⟩
  · cases h'
  · cases h'
    exact ⟨hnc, hcm, (Array.getElem?_eq_some_iff.1 hg).1⟩
theorem IRow.cell {w : World} {g n cap : Nat} {xs : List Int} (h : IRow w g n cap xs) {i : Nat} (hi : i < n) : KCells w g i (xs.getD i 0) := by
  show _ = _
  rw [World.ownsRow.cellAt h i (by omega)]
  exact kflat_get xs i (by rw [h.len]; exact hi)
theorem IRow.free {w : World} {g n cap : Nat} {xs : List Int} (h : IRow w g n cap xs) (i : Nat) : KFree w g i := World.ownsRow.frozenAt h i
theorem kflat_set (xs : List Int) (i : Nat) (x : Int) : kflat (xs.set i x) = (kflat xs).set i (.int .i64 x) := by simp [kflat, List.map_set]
theorem IRow.set {w : World} {g n cap : Nat} {xs : List Int} (h : IRow w g n cap xs) (i : Nat) (x : Int) : IRow (w.setCell ⟨g, i, none⟩ (.int .i64 x)) g n cap (xs.set i x) := by
  have := (World.ownsRow.stored h i (.int .i64 x)).1
  unfold IRow
  rw [kflat_set]
  exact this
theorem IRow.front {w : World} {g n cap : Nat} {xs : List Int} (h : IRow w g n cap xs) {m : Nat} (hm : m ≤ n) : IRow w g m cap (xs.take m) := by
  have hl := h.len
  rcases h.2 with ⟨h', _⟩ | ⟨g', cap', cur, h', hb, hg, hnc, hcm, hcs, htake⟩
  · cases h'
  · cases h'
    refine ⟨by rw [length_kflat, List.length_take]; omega, .inr ⟨g, cap, cur, rfl, hb, hg, by omega, hcm, hcs, ?_⟩⟩
    rw [kflat_take, ← htake, List.take_take]
    congr 1
    omega
theorem IRow.at {w w' : World} {g n cap : Nat} {xs : List Int} (h : IRow w g n cap xs) (e : w'.heap[g]? = w.heap[g]?) : IRow w' g n cap xs := by
  obtain ⟨h1, h2⟩ := h
  refine ⟨h1, ?_⟩
  rcases h2 with h' | ⟨g', cap', cur, h', hb, hg, hr⟩
  · exact .inl h'
  · cases h'
    exact .inr ⟨g, cap, cur, rfl, hb, by rw [e]; exact hg, hr⟩
theorem IRow.but {P : Nat → Prop} {w w' : World} {g n cap : Nat} {xs : List Int} (h : IRow w g n cap xs) (hb : But P w w') (hp : ¬ P g) : IRow w' g n cap xs := h.at (hb.2 g h.caps.2.2 hp)
theorem IRow.below {w w' : World} {B g n cap : Nat} {xs : List Int} (h : IRow w g n cap xs) (hb : Below B w w') (hB : g < B) : IRow w' g n cap xs := h.at (hb.block g hB)
theorem IRow.whole {w w' : World} {g n cap : Nat} {xs : List Int} (h : IRow w g n cap xs) (hb : Below w.heap.size w w') : IRow w' g n cap xs := h.at (hb.block g h.caps.2.2)
theorem IRow.made (w : World) (n : Nat) (hn : n ≤ 1000000) : IRow (w.alloc (.cells (madeCells #[.int .i64 0] n) 3)) w.heap.size n n (List.replicate n 0) := by
  have := World.ownsRow_lit (base := w.heap.size) (e := 3) (size := 1) w (madeCells #[.int .i64 0] n) n (Nat.le_refl _) (by unfold maxLen; omega) (by simp [madeCells])
  unfold IRow
  rw [← kmade_zero]
  exact this
theorem IRow.own {w : World} {g n cap lo hi : Nat} {xs : List Int} (h : IRow w g n cap xs) (hs : n ≤ 1000000) (h1 : lo ≤ g) (h2 : g < hi) : KOwn lo hi w (.slice (some ⟨g, 0, none⟩) n cap) xs := by
  have hl := h.len
  have hc := h.caps
  exact ⟨by omega, .inr ⟨g, cap, by rw [hl], ⟨h1, h2, by omega⟩, fun i hi => ⟨h.cell (by omega), h.free i⟩⟩⟩
theorem IRow.reads {w : World} {g n cap : Nat} {xs : List Int} (h : IRow w g n cap xs) (hs : n ≤ 1000000) : KReads w (.slice (some ⟨g, 0, none⟩) n cap) xs := by
  have hl := h.len
  have hc := h.caps
  exact ⟨_, _, by rw [hl], by omega, .inr ⟨g, 0, rfl, fun i hi => by rw [Nat.zero_add]; exact h.cell (by omega)⟩⟩
end Go.Proofs.Ytnkpboobfkjibad
namespace Go.Proofs.Ytnkpboobfkjibad
open Go.RowKit

theorem knothing {w : World} {i0 : TypeInfo} (hi : Try.prog.info? 3 = some i0) (hsz : i0.size = 1) (ty : TypeId) (ao : Option Addr) (n c : Nat) (hle : n ≤ c) (a : Option Addr) (cy : Nat) :
    (Builtin.append_ #[23, 23] ty #[.slice ao n c, .slice a 0 cy]).run Try.prog w = .ok (.slice ao n c) w := by
  refine run_append_nothing _ _ _ _ _ i0 Try.underlying23 hi _ _ _ hle _ ?_
  rw [hsz]
  cases a with
  | none => exact Src.ofNil _ Try.underlying23 cy
  | some ad => exact Src.ofSlice _ Try.underlying23 ad 0 cy [] rfl (by intro j u h; simp at h) (by intro u h; simp at h)
end Go.Proofs.Ytnkpboobfkjibad
namespace Go.Proofs.Ytnkpboobfkjibad
open Go.RowKit

theorem grown_refl (w : World) (row : Option Nat) : w.grownBy w row := ⟨rfl, rfl, rfl, Nat.le_refl _, fun _ _ _ => rfl⟩
theorem append_reads (w : World) (base : Nat) (v : Value) (n : Nat) (xs : List Int) (hown : w.ownsRow base 3 1 v n (kflat xs)) (vx : Value) (ys : List Int) (hr : KReads w vx ys) (hl : n + ys.length ≤ 1000) (hbase : base ≤ w.heap.size) (ty : TypeId) :
    ∃ v' w', (Builtin.append_ #[23, 23] ty #[v, vx]).run Try.prog w = .ok v' w' ∧ w'.ownsRow base 3 1 v' (n + ys.length) (kflat (xs ++ ys)) ∧ w.grownBy w' v.ownBlock ∧ (v'.ownBlock = v.ownBlock ∨ v'.ownBlock = some w.heap.size) := by
  obtain ⟨i0, hi, hz0, hz1, hz2⟩ := info_parts info_int
  obtain ⟨a, cap, rfl, hlen, hc⟩ := hr
  rcases hc with rfl | ⟨b, off, rfl, hc⟩
  · refine ⟨v, w, ?_, by rw [List.append_nil]; exact hown, grown_refl _ _, .inl rfl⟩
    rcases hown.2 with ⟨rfl, _⟩ | ⟨g, cap', cur, rfl, _, _, hle, _⟩
    · exact knothing hi hz1 _ _ _ _ (Nat.le_refl _) _ _
    · exact knothing hi hz1 _ _ _ _ hle _ _
  · obtain ⟨v', w', h1, h2, h3, _, h5⟩ := run_append_own_at (P := Try.prog) w base 23 ty 3 i0 (.int .i64 0) 1 8 Try.underlying23 hi hz0 hz1 hz2 rfl (by decide) v n (kflat xs) hown ⟨b, off, none⟩ ys.length cap (kflat ys) (by rw [length_kflat, Nat.mul_one]) (kflat_cells hc) (kflat_one _) (by unfold maxLen; omega) (by omega) hbase
    exact ⟨v', w', h1, by rw [kflat_append]; exact h2, h3, h5⟩
end Go.Proofs.Ytnkpboobfkjibad
namespace Go.Proofs.Ytnkpboobfkjibad
open Go.RowKit

/-- The numbers from nought on. -/
def fromN (n : Nat) : List Int := (List.range n).map fun (i : Nat) => (i : Int)
def numsV (n k : Nat) : List Int := (List.range n).map fun i => if i < k then (i : Int) else 0
theorem numsV_zero (n : Nat) : numsV n 0 = List.replicate n 0 := by
  apply List.ext_getElem
  · simp [numsV]
  · intro i h1 h2
    simp [numsV]
theorem numsV_all (n : Nat) : numsV n n = fromN n := by
  unfold numsV fromN
  refine List.map_congr_left fun i hi => ?_
  rw [if_pos (List.mem_range.1 hi)]
theorem numsV_succ (n k : Nat) : numsV n (k + 1) = (numsV n k).set k (k : Int) := by
  apply List.ext_getElem
  · simp [numsV]
  · intro i h1 h2
    simp only [numsV, List.getElem_map, List.getElem_range, List.getElem_set]
    by_cases e : k = i
    · subst e; simp
    · rw [if_neg e]
      by_cases hi : i < k
      · rw [if_pos hi, if_pos (by omega)]
      · rw [if_neg hi, if_neg (by omega)]
set_option maxHeartbeats 4000000 in
theorem inums11_any (n : Nat) (w : World) (hn : n ≤ 1000) :
    Calls Try.prog 168 #[.int .i64 (n : Nat)] w fun e w' => e = .returned (.slice (some ⟨w.heap.size, 0, none⟩) n n) ∧ IRow w' w.heap.size n n (fromN n) ∧ w'.heap.size = w.heap.size + 1 ∧ Below w.heap.size w w' := by
  obtain ⟨i0, hi, hz0, hz1, hz2⟩ := info_parts info_int
  go_enter Try.func168, Try.ntmps168
  go_wp2_with (at_make; refine wpList_make_row _ rfl _ _ 23 rfl 3 i0 (.int .i64 0) Try.underlying23 hi hz0 hz1 rfl .i64 .i64 n rfl rfl (by rw [hz2]; omega) (by omega) ?_)
  have O0 : Hid (IRow (w.alloc (.cells (madeCells #[.int .i64 0] n) 3)) w.heap.size n n (numsV n 0)) := by
    show IRow _ _ _ _ _
    rw [numsV_zero]
    exact IRow.made w _ (by omega)
  go_loopw [9] (fun i wr => ∃ k : Nat, k ≤ n ∧ i = .int .i64 k ∧ IRow wr w.heap.size n n (numsV n k) ∧ wr.heap.size = w.heap.size + 1 ∧ Below w.heap.size w wr) (fun i _ => n - (intOf i).toNat)
  case atStart => exact ⟨0, by omega, rfl, O0.out, by simp, (Below.refl _ _).alloc (Nat.le_refl _) _⟩
  case round =>
    obtain ⟨k, hk, rfl, hown, hsz, hbel⟩ := hrel
    have HO := hid hown
    have HB := hid hbel
    have HZ := hid hsz
    clear hown hbel O0 hsz
    by_cases hlt : k < n
    · have cs : wr.cell? ⟨w.heap.size, k, none⟩ = some (.int .i64 ((numsV n k).getD k 0)) := HO.out.cell hlt
      have fs : wr.frozen? ⟨w.heap.size, k, none⟩ = false := HO.out.free k
      have HN := hid (numsV_succ n k)
      have n0 : (0 : Int) ≤ (k : Int) := by omega
      have n1 : (k : Int) < (n : Int) := by omega
      go_wp2
      go_roundw
      case rel =>
        refine ⟨k + 1, by omega, by go_num, ?_, by simpa using HZ.out, HB.out.setCell (by show w.heap.size ≤ w.heap.size; exact Nat.le_refl _) _⟩
        rw [HN.out]
        exact HO.out.set k _
      case measure => simp [intOf]; omega
    · obtain rfl : k = n := by omega
      have HE : Hid (IRow wr w.heap.size k k (fromN k)) := by have := HO.out; rw [numsV_all] at this; exact this
      go_wp2
      go_ret
      exact ⟨rfl, HE.out, HZ.out, HB.out⟩
end Go.Proofs.Ytnkpboobfkjibad
