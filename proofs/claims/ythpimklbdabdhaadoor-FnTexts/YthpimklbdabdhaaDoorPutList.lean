/-
  spec.PutList and impl.PutList answer with the texts of all numbers, one behind the other, or with the zero answer; nothing old is written.
-/
import Derived.Test.YthpimklbdabdhaaDoorAll
import Derived.Test.YthpimklbdabdhaaDoorPutNumber
import Derived.Test.YthpimklbdabdhaaDoorBuilder
namespace Go.Proofs.YthpimklbdabdhaaDoor
open Go.RowKit

/-- The bytes of all numbers. -/
def catL (xs : List Int) : List UInt8 := xs.flatMap fun n => (numB n).data.toList
/-- As a text. -/
def catB (xs : List Int) : ByteArray := ⟨(catL xs).toArray⟩
theorem size_numB (n : Int) : (numB n).size ≤ 8 := by unfold numB; rw [size_wideB]; have := szI_le n; omega
theorem length_catL (xs : List Int) : (catL xs).length ≤ 8 * xs.length := by
  induction xs with
  | nil => simp [catL]
  | cons x xs ih =>
    have h := size_numB x
    have e : (numB x).data.toList.length = (numB x).size := by rw [Array.length_toList]; rfl
    simp only [catL, List.flatMap_cons, List.length_append, List.length_cons] at ih ⊢
    rw [e]; omega
theorem catL_snoc (xs : List Int) (x : Int) : catL (xs ++ [x]) = catL xs ++ (numB x).data.toList := by simp [catL]
theorem catB_snoc (xs : List Int) (x : Int) : catB xs ++ numB x = catB (xs ++ [x]) := by
  apply ByteArray.ext
  rw [ByteArray.data_append]
  show (catL xs).toArray ++ (numB x).data = (catL (xs ++ [x])).toArray
  rw [catL_snoc]
  simp
theorem take_snoc (xs : List Int) (k : Nat) (h : k < xs.length) : xs.take k ++ [xs.getD k 0] = xs.take (k + 1) := by
  rw [List.take_succ_eq_append_getElem h]; simp [List.getD_eq_getElem?_getD, h]
theorem size_catB (xs : List Int) : (catB xs).size = (catL xs).length := by show (catL xs).toArray.size = _; simp

set_option maxHeartbeats 1000000 in
theorem sputList_yes (v : Value) (xs : List Int) (w : World) (hr : Reads w v xs) (h60 : xs.length ≤ 60) (ha : allIn xs 0 1152921504606846975) :
    Calls Tryd.prog 18 #[v] w fun e w' => e = .returned (.tuple #[.string (catB xs), .bool true]) ∧ Below w.heap.size w w' := by
  have HR := hid hr
  obtain ⟨a, cap, rfl, hl, hx⟩ := hr
  have HC := hid hx
  have HA := hid ha
  clear hx ha
  have hd : decide ((60 : Int) < (xs.length : Int)) = false := by simp; omega
  go_enter Tryd.func18, Tryd.ntmps18
  go_wp2_with (go_at_call 43; refine (l1All_yes _ xs 0 1152921504606846975 _ HR.out HA.out).mono ?_; rintro e w' ⟨rfl, hw⟩; obtain rfl := hw.symm)
  go_loopw [4, 17] (fun s i wr => ∃ k : Nat, k ≤ xs.length ∧ i = .int .i64 k ∧ s = .string (catB (xs.take k)) ∧ Below w.heap.size w wr) (fun _ i _ => xs.length - (intOf i).toNat)
  case atStart => exact ⟨0, Nat.zero_le _, rfl, rfl, Below.refl _ _⟩
  case round =>
    obtain ⟨k, hk, rfl, rfl, hbel⟩ := hrel
    by_cases hlt : k < xs.length
    · obtain ⟨b, off, rfl, hc⟩ : ∃ b off, a = some ⟨b, off, none⟩ ∧ ∀ i, i < xs.length → w.cell? ⟨b, off + i, none⟩ = some (.int .i64 (xs.getD i 0)) := by
        rcases HC.out with h | h
        · subst h; simp at hlt
        · exact h
      have h1 := (hbel.cell (p := ⟨b, off + k, none⟩) (lt_of_cell (hc k hlt))).trans (hc k hlt)
      obtain ⟨h2, h3⟩ := HA.out k hlt
      have hsn : Hid (catB (xs.take k) ++ numB (xs.getD k 0) = catB (xs.take (k + 1))) := by
        show _ = _
        rw [catB_snoc, take_snoc xs k hlt]
      have hz1 : (catB (xs.take k)).size ≤ 480 := by
        rw [size_catB]; have := length_catL (xs.take k); have e : (xs.take k).length ≤ k := List.length_take_le _ _; omega
      have hz2 := size_numB (xs.getD k 0)
      have HB := hid hbel
      clear hc hbel
      generalize xs.getD k 0 = x at h1 h2 h3 hsn hz2
      go_wp2_with (go_at_call 31; refine (l1Put_any x _ h2 h3).mono ?_; rintro e w1 ⟨rfl, hb⟩)
      go_roundw
      case rel => exact ⟨k + 1, by omega, by go_num, by rw [hsn.out], HB.out.trans (hb.mono HB.out.size)⟩
      case measure => simp [intOf]; omega
    · obtain rfl : k = xs.length := by omega
      rw [List.take_length]
      go_wp2
      go_ret2
      exact ⟨rfl, hbel⟩

set_option maxHeartbeats 1000000 in
theorem sputList_no (v : Value) (xs : List Int) (w : World) (hr : Reads w v xs) (h : ¬ (xs.length ≤ 60 ∧ allIn xs 0 1152921504606846975)) :
    Calls Tryd.prog 18 #[v] w fun e w' => e = .returned (.tuple #[.string ⟨#[]⟩, .bool false]) ∧ w' = w := by
  have HR := hid hr
  obtain ⟨a, cap, rfl, hl, hx⟩ := hr
  clear hx
  by_cases h60 : xs.length ≤ 60
  · have HA : Hid (¬ allIn xs 0 1152921504606846975) := fun ha => h ⟨h60, ha⟩
    clear h
    have hd : decide ((60 : Int) < (xs.length : Int)) = false := by simp; omega
    go_enter Tryd.func18, Tryd.ntmps18
    go_wp2_with (go_at_call 43; refine (l1All_no _ xs 0 1152921504606846975 _ HR.out HA.out).mono ?_; rintro e w' ⟨rfl, hw⟩; obtain rfl := hw.symm)
    go_ret2
    exact ⟨rfl, rfl⟩
  · clear h
    have hd : decide ((60 : Int) < (xs.length : Int)) = true := by simp; omega
    go_enter Tryd.func18, Tryd.ntmps18
    go_wp2
    go_ret2
    exact ⟨rfl, rfl⟩

/-- A builder stays one where nothing old is written. -/
theorem builder_below {B b : Nat} {bs : List Value} {w w' : World} (h : Lib.IsBuilder 65 5 B b bs w) (hb : Below w.heap.size w w') : Lib.IsBuilder 65 5 B b bs w' := by
  have one : ∀ p, Lib.BuilderAt 65 5 B b p bs w → Lib.BuilderAt 65 5 B b p bs w' := by
    rintro p ⟨hB, v, hbk, hown, hne⟩
    refine ⟨hB, v, (hb.block b (lt_of_block hbk)).trans hbk, ⟨hown.1, ?_⟩, hne⟩
    rcases hown.2 with h | ⟨g, cap, cur, e, hg, hh, hr⟩
    · exact .inl h
    · exact .inr ⟨g, cap, cur, e, hg, (hb.block g (lt_of_block hh)).trans hh, hr⟩
  exact h.elim (fun x => .inl (one _ x)) (fun x => .inr (one _ x))

set_option maxHeartbeats 2000000 in
theorem putList_any (v : Value) (xs : List Int) (w : World) (hT : Tab w) (hr : Reads w v xs) (h60 : xs.length ≤ 60) :
    Calls Tryd.prog 17 #[v] w fun e w' => (allIn xs 0 1152921504606846975 → e = .returned (.tuple #[.string (catB xs), .bool true])) ∧ (¬ allIn xs 0 1152921504606846975 → e = .returned (.tuple #[.string ⟨#[]⟩, .bool false])) ∧ Below w.heap.size w w' := by
  have hT0 := hT.lt
  have HT := hid hT
  obtain ⟨a, cap, rfl, hl, hx⟩ := hr
  have HC := hid hx
  clear hx hT
  have hd : decide ((60 : Int) < (xs.length : Int)) = false := by simp; omega
  go_enter Tryd.func17, Tryd.ntmps17
  go_wp2
  go_loopw [14] (fun i wr => ∃ k : Nat, k ≤ xs.length ∧ i = .int .i64 k ∧ Lib.IsBuilder 65 5 w.heap.size w.heap.size (Lib.byteCells (catL (xs.take k))) wr ∧ (∀ j, j < k → 0 ≤ xs.getD j 0 ∧ xs.getD j 0 ≤ 1152921504606846975) ∧ Below w.heap.size w wr) (fun i _ => xs.length - (intOf i).toNat)
  case atStart =>
    exact ⟨0, Nat.zero_le _, rfl, Lib.fresh_isBuilder _ _ w, fun j hj => absurd hj (Nat.not_lt_zero j), (Below.refl _ _).alloc (Nat.le_refl _) _⟩
  case round =>
    obtain ⟨k, hk, rfl, hbd, hso, hbel⟩ := hrel
    have HS := hid hso
    have HBD := hid hbd
    have HB := hid hbel
    have hsz := hbel.size
    have HT2 : Hid (Tab wr) := HT.out.below hbel hT0
    clear hso hbd
    by_cases hlt : k < xs.length
    · obtain ⟨b, off, rfl, hc⟩ : ∃ b off, a = some ⟨b, off, none⟩ ∧ ∀ i, i < xs.length → w.cell? ⟨b, off + i, none⟩ = some (.int .i64 (xs.getD i 0)) := by
        rcases HC.out with h | h
        · subst h; simp at hlt
        · exact h
      have h1 := (hbel.cell (p := ⟨b, off + k, none⟩) (lt_of_cell (hc k hlt))).trans (hc k hlt)
      clear hc hbel
      by_cases hin : 0 ≤ xs.getD k 0 ∧ xs.getD k 0 ≤ 1152921504606846975
      · have hst : Hid (∀ j, j < k + 1 → 0 ≤ xs.getD j 0 ∧ xs.getD j 0 ≤ 1152921504606846975) := fun j hj => by
          by_cases e : j = k
          · subst e; exact hin
          · exact HS.out j (by omega)
        have hsn : Hid (Lib.byteCells (catL (xs.take k)) ++ Lib.strCells (numB (xs.getD k 0)) = Lib.byteCells (catL (xs.take (k + 1)))) := by
          show _ = _
          rw [← take_snoc xs k hlt, catL_snoc]
          simp [Lib.byteCells, Lib.strCells]
        have hz1 : (Lib.byteCells (catL (xs.take k))).length ≤ 480 := by
          rw [Lib.byteCells_length]; have := length_catL (xs.take k); have e : (xs.take k).length ≤ k := List.length_take_le _ _; omega
        have hz2 := size_numB (xs.getD k 0)
        obtain ⟨h2, h3⟩ := hin
        generalize xs.getD k 0 = x at h1 h2 h3 hsn hz2
        go_wp2_with (first
          | (go_at_call 6; refine (put_yes x _ HT2.out h2 h3).mono ?_; rintro e w1 ⟨rfl, hb⟩; have HB1 := hid hb; have hs1 := hb.size; clear hb)
          | (go_at_call 41; refine (bWrite w.heap.size w.heap.size _ (numB x) _ (builder_below HBD.out HB1.out) (by omega) (by omega)).mono ?_; rintro e w2 ⟨rfl, hbw, hb2⟩; have HBW := hid hbw; have HB2 := hid hb2; clear hbw hb2))
        go_roundw
        case rel => exact ⟨k + 1, by omega, by go_num, .inr (by rw [← hsn.out]; exact HBW.out), hst.out, (HB.out.trans (HB1.out.mono HB.out.size)).trans HB2.out⟩
        case measure => simp [intOf]; omega
      · have hin' : Hid (xs.getD k 0 < 0 ∨ 1152921504606846975 < xs.getD k 0) := by show _ ∨ _; omega
        have hno : Hid (¬ allIn xs 0 1152921504606846975) := fun ha => hin (ha k hlt)
        clear hin
        generalize xs.getD k 0 = x at h1 hin'
        go_wp2_with (go_at_call 6; refine (put_no x _ HT2.out hin'.out).mono ?_; rintro e w' ⟨rfl, hw⟩; obtain rfl := hw.symm)
        go_ret2
        exact ⟨fun ha => absurd ha hno.out, fun _ => rfl, HB.out⟩
    · obtain rfl : k = xs.length := by omega
      rw [List.take_length] at HBD
      have hyes : Hid (allIn xs 0 1152921504606846975) := fun j hj => HS.out j hj
      clear hbel
      go_wp2_with (go_at_call 42; refine (bString w.heap.size w.heap.size (catL xs) _ HBD.out (by omega)).mono ?_; rintro e w1 ⟨rfl, hb⟩)
      go_ret2
      exact ⟨fun _ => rfl, fun hn => absurd hyes.out hn, HB.out.trans hb⟩

theorem putList_long (v : Value) (xs : List Int) (w : World) (hr : Reads w v xs) (h60 : ¬ xs.length ≤ 60) :
    Calls Tryd.prog 17 #[v] w fun e w' => e = .returned (.tuple #[.string ⟨#[]⟩, .bool false]) ∧ w' = w := by
  obtain ⟨a, cap, rfl, hl, hx⟩ := hr
  clear hx
  have hd : decide ((60 : Int) < (xs.length : Int)) = true := by simp; omega
  go_enter Tryd.func17, Tryd.ntmps17
  go_wp2
  go_ret2
  exact ⟨rfl, rfl⟩
end Go.Proofs.YthpimklbdabdhaaDoor
