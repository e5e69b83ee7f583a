/-
  strings.Join of pieces with nothing between: all of them, one behind the other. Nothing old is written.
-/
import Derived.Test.YtijojdempijhbadBuilderX
import Derived.Test.YtijojdempijhbadJnMath
namespace Go.Proofs.Ytijojdempijhbad
open Go.RowKit

set_option maxRecDepth 100000 in
set_option maxHeartbeats 8000000 in
theorem ijoins_any (v : Value) (xs : List XEl) (n : Nat) (w : World) (hr : XReads w v xs) (h3 : 1 ≤ xs.length) (h4 : xs.length ≤ 8) (h2 : n ≤ 16) (hs : ∀ s ∈ xs, s.size = n) :
    Calls Try.prog 154 #[v, .string ⟨#[]⟩] w fun e w' => e = .returned (.string ⟨(catL xs).toArray⟩) ∧ Below w.heap.size w w' := by
  have HN := hid hs
  obtain ⟨b, off, cap, rfl, hcs⟩ := hr.cells 0 h3
  have hcap : xs.length ≤ cap := by obtain ⟨a, c, e, hl, _⟩ := hr; cases e; exact hl.2
  have HC := hid hcs
  have c1 : w.cell? ⟨b, off, none⟩ = some (.string (xs.getD 0 xz)) := hcs 0 h3
  have hbw : b < w.heap.size := lt_of_cell c1
  have HT := hid (catL_take xs)
  have HL := hid (fun k (hk : k ≤ xs.length) => catL_len_take (k := k) HN.out hk)
  clear hs hr hcs
  by_cases h1 : xs.length = 1
  · have HE : Hid (⟨(catL xs).toArray⟩ = xs.getD 0 xz) := by
      show _ = _
      have := HT.out 0 h3
      rw [Nat.zero_add, List.take_of_length_le (by omega), List.take_zero, catL_nil, List.nil_append] at this
      rw [this]
    have e1 : ((xs.length : Int) == 0) = false := by rw [h1]; rfl
    have e2 : ((xs.length : Int) == 1) = true := by rw [h1]; rfl
    have hlt0 : (0 : Int) < (xs.length : Int) := by omega
    have hlt1 : 0 < xs.length := by omega
    generalize xs.getD 0 xz = z at c1 HE
    have H1 := hid h1
    clear h1
    go_enter Try.func154, Try.ntmps154
    go_wp2
    go_ret
    exact ⟨by rw [HE.out]; rfl, Below.refl _ _⟩
  have e1 : ((xs.length : Int) == 0) = false := by rw [← Bool.not_eq_true, beq_iff_eq]; omega
  have e2 : ((xs.length : Int) == 1) = false := by rw [← Bool.not_eq_true, beq_iff_eq]; omega
  have hlt0 : (0 : Int) < (xs.length : Int) := by omega
  have hlt1 : 0 < xs.length := by omega
  have g1 : (1 : Int) ≤ (xs.length : Int) := by omega
  have g2 : ¬ cap = 1 := by omega
  have g3 : (1 : Int) ≤ (cap : Int) := by omega
  have HX := hid (fun i (h : i < xs.length) => HN.out (xs.getD i xz) (by simp [List.getD_eq_getElem?_getD, h]))
  obtain ⟨z, hz⟩ : ∃ z, xs.getD 0 xz = z := ⟨_, rfl⟩
  rw [hz] at c1
  have HZ := hid hz
  clear hz
  go_enter Try.func154, Try.ntmps154
  go_wp2
  go_loopw [5, 41] (fun nv iv wr => ∃ i : Nat, i ≤ xs.length ∧ iv = .int .i64 (i : Nat) ∧ nv = .int .i64 ((i * n : Nat) : Int) ∧ w = wr) (fun _ iv _ => xs.length - (intOf iv).toNat)
  case atStart => exact ⟨0, Nat.zero_le _, rfl, by simp, rfl⟩
  case round =>
    obtain ⟨i, hi, rfl, rfl, rfl⟩ := hrel
    by_cases hlt : i < xs.length
    · have c0 : _ = _ := HC.out i hlt
      have hsz := HX.out i hlt
      obtain ⟨s, hs⟩ : ∃ s, xs.getD i xz = s := ⟨_, rfl⟩
      rw [hs] at c0 hsz
      have hle : i * n ≤ 8 * 16 := Nat.mul_le_mul (by omega) h2
      have hnx : (i + 1) * n = i * n + n := by rw [Nat.add_mul, Nat.one_mul]
      have HNX := hid hnx
      obtain ⟨p, hp⟩ : ∃ p, i * n = p := ⟨_, rfl⟩
      rw [hp] at hle HNX ⊢
      have hsi : (s.size : Int) = (n : Int) := by rw [hsz]
      have w1 : IntKind.i64.wrap (9223372036854775807 - (p : Int)) = 9223372036854775807 - p := by rw [IntKind.wrap_i64]; omega
      have d1 : ¬ (9223372036854775807 - (p : Int) < (n : Int)) := by omega
      obtain ⟨q, hq⟩ : ∃ q, p + n = q := ⟨_, rfl⟩
      rw [hq] at HNX
      have w2 : (p : Int) + (n : Int) = (q : Nat) := by rw [← hq]; simp
      have w3 : IntKind.i64.wrap (q : Int) = (q : Nat) := by rw [IntKind.wrap_i64]; omega
      have hltd : (i : Int) < (xs.length : Int) := by omega
      clear hs hsz hnx hp hq
      go_wp2
      go_roundw
      case rel => exact ⟨i + 1, by omega, by go_num, by rw [HNX.out], trivial⟩
      case measure => simp [intOf]; omega
    · obtain rfl : i = xs.length := by omega
      have hle : xs.length * n ≤ 8 * 16 := Nat.mul_le_mul h4 h2
      obtain ⟨p, hp⟩ : ∃ p, xs.length * n = p := ⟨_, rfl⟩
      rw [hp] at hle ⊢
      have HP := hid hp
      clear hp
      have hbk : (w.alloc (.cells #[.pointer none, .slice none 0 0] 167)).heap[w.heap.size]? = some (.cells #[.pointer none, .slice none 0 0] 167 (0, 0)) := heap_alloc_new w _
      have hal : Below w.heap.size w (w.alloc (.cells #[.pointer none, .slice none 0 0] 167)) := (Below.refl _ _).alloc (Nat.le_refl _) _
      obtain ⟨W1, hW1⟩ : ∃ W, W = w.alloc (.cells #[.pointer none, .slice none 0 0] 167) := ⟨_, rfl⟩
      rw [← hW1] at hbk hal
      have HBK := hid hbk
      have HAL := hid hal
      have HW1 := hid hW1
      have c2 := (hal.cell (p := ⟨b, off, none⟩) hbw).trans c1
      clear hbk hal hW1
      go_wp2_with fail
      rw [← HW1.out]
      refine (bGrowFresh w.heap.size w.heap.size p _ (Nat.le_refl _) HBK.out (by omega)).mono ?_
      rintro e w2 ⟨rfl, h2b, b2⟩
      have HB2 := hid (HAL.out.trans b2)
      have HI2 := hid h2b
      have c3 := (HB2.out.cell (p := ⟨b, off, none⟩) hbw).trans c1
      clear h2b b2 c2 HW1 HBK HAL
      have hz16 : z.size ≤ 16 := by have := HX.out 0 hlt1; rw [HZ.out] at this; omega
      go_wp2_with fail
      refine (bWrite w.heap.size w.heap.size [] z _ (.inr HI2.out) (by simp; omega) HB2.out.size).mono ?_
      rintro e w3 ⟨rfl, h3b, b3⟩
      have HB3 := hid (HB2.out.trans b3)
      have HI3 : Hid (Lib.IsBuilder 167 5 w.heap.size w.heap.size (Lib.byteCells (catL (xs.take 1))) w3) := by
        have e := HT.out 0 hlt1
        rw [HZ.out, List.take_zero, catL_nil, List.nil_append] at e
        rw [e]
        exact .inr (by simpa [Lib.strCells_eq] using h3b)
      clear h3b b3 c3 HI2 HB2
      go_wp2_with fail
      go_loopw [65] (fun iv wr => ∃ i : Nat, i + 1 ≤ xs.length ∧ iv = .int .i64 (i : Nat) ∧ Lib.IsBuilder 167 5 w.heap.size w.heap.size (Lib.byteCells (catL (xs.take (i + 1)))) wr ∧ Below w.heap.size w wr) (fun iv _ => xs.length - (intOf iv).toNat)
      case atStart => exact ⟨0, h3, rfl, HI3.out, HB3.out⟩
      case round =>
        obtain ⟨i, hi, rfl, hib, hbel⟩ := hrel
        have HI := hid hib
        have HB := hid hbel
        clear hib hbel
        have hcl := HL.out (i + 1) hi
        have hle2 : (i + 1) * n ≤ 8 * 16 := Nat.mul_le_mul (by omega) h2
        by_cases hlt : i + 1 < xs.length
        · have hsz := HX.out (i + 1) hlt
          have HTi := hid (HT.out (i + 1) hlt)
          have c0 : _ = _ := (HC.out (i + 1) hlt).below HB.out hbw
          obtain ⟨s, hs⟩ : ∃ s, xs.getD (i + 1) xz = s := ⟨_, rfl⟩
          rw [hs] at c0 HTi hsz
          rw [show off + (i + 1) = off + 1 + i by omega] at c0
          have hltd : (i : Int) < (xs.length : Int) - 1 := by omega
          have hltn : i < xs.length - 1 := by omega
          clear hs
          go_wp2_with fail
          refine (bWrite w.heap.size w.heap.size _ ⟨#[]⟩ _ HI.out (by rw [Lib.byteCells_length, hcl]; show (i + 1) * n + 0 ≤ _; omega) HB.out.size).mono ?_
          rintro e w5 ⟨rfl, h5, b5⟩
          have HB5 := hid (HB.out.trans b5)
          have HI5 : Hid (Lib.IsBuilder 167 5 w.heap.size w.heap.size (Lib.byteCells (catL (xs.take (i + 1)))) w5) := .inr (by simpa [Lib.strCells_eq, Lib.byteCells] using h5)
          clear h5 b5 c0 HI HB
          go_wp2_with fail
          refine (bWrite w.heap.size w.heap.size _ s _ HI5.out (by rw [Lib.byteCells_length, hcl]; omega) HB5.out.size).mono ?_
          rintro e w6 ⟨rfl, h6, b6⟩
          have HB6 := hid (HB5.out.trans b6)
          have HI6 : Hid (Lib.IsBuilder 167 5 w.heap.size w.heap.size (Lib.byteCells (catL (xs.take (i + 1 + 1)))) w6) := by
            rw [HTi.out, Lib.byteCells_append, ← Lib.strCells_eq]
            exact .inr h6
          clear h6 b6 HI5 HB5
          go_wp2
          go_roundw
          case rel => exact ⟨i + 1, by omega, by go_num, HI6.out, HB6.out⟩
          case measure => simp [intOf]; omega
        · have hge : ¬ (i : Int) < (xs.length : Int) - 1 := by omega
          have hgn : ¬ i < xs.length - 1 := by omega
          have HIE : Hid (Lib.IsBuilder 167 5 w.heap.size w.heap.size (Lib.byteCells (catL xs)) wr) := by
            have := HI.out
            rw [List.take_of_length_le (by omega)] at this
            exact this
          clear HI
          go_wp2_with fail
          refine (bString w.heap.size w.heap.size _ _ HIE.out HB.out.size).mono ?_
          rintro e w6 ⟨rfl, b6⟩
          go_wp2
          go_ret
          exact ⟨rfl, HB.out.trans b6⟩
end Go.Proofs.Ytijojdempijhbad
