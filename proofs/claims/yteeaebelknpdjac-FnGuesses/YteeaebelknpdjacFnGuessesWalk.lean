/-
  The law FnGuesses answers true at every two lists of bytes.
-/
import Derived.Test.YteeaebelknpdjacDrawGuess
import Derived.Test.YteeaebelknpdjacGuMath
import Derived.Test.YteeaebelknpdjacSSeeG
import Derived.Test.YteeaebelknpdjacSWaitG
import Derived.Test.YteeaebelknpdjacSNewG
import Derived.Test.YteeaebelknpdjacISeeG
import Derived.Test.YteeaebelknpdjacIWaitG
import Derived.Test.YteeaebelknpdjacINewG
import Derived.Test.YteeaebelknpdjacCodeRow
namespace Go.Proofs.Yteeaebelknpdjac
open Go.RowKit

theorem isWait_in {g : GuEl} (h : goodG g = true) {v : Int} (hv : v = bif true then waitG g else 0) : 4 ≤ v ∧ v ≤ 400 ∧ v = waitG g := by
  have hv' : v = waitG g := hv
  have := waitG_in g
  have := h
  exact ⟨by omega, by omega, hv'⟩
set_option maxRecDepth 100000 in
set_option maxHeartbeats 40000000 in
theorem FnGuesses_walk (a0 : Option Addr) (len0 cap0 : Nat) (z0 : List Int) (a1 : Option Addr) (len1 cap1 : Nat) (z1 : List Int) (w : World) (h0 : IsRow .u8 w a0 len0 cap0 z0) (h1 : IsRow .u8 w a1 len1 cap1 z1) (b0 : cap0 * 1 ≤ 140737488351232) (b1 : cap1 * 1 ≤ 140737488351232) :
    Calls Try.prog 7 #[.slice a0 len0 cap0, .slice a1 len1 cap1] w fun e w' => e = .returned (.bool true) ∧ Below w.heap.size w w' := by
  have l0 : len0 ≤ cap0 := by rcases h0 with ⟨_, rfl, rfl, _⟩ | ⟨x, _, h, _⟩ <;> omega
  have l1 : len1 ≤ cap1 := by rcases h1 with ⟨_, rfl, rfl, _⟩ | ⟨x, _, h, _⟩ <;> omega
  by_cases hbig : (1048576 : Int) < (len0 : Int) + (len1 : Int)
  · clear h0 h1
    go_enter Try.func7, Try.ntmps7
    go_wp2
    go_ret
    exact ⟨rfl, Below.refl _ _⟩
  have HC0 := hid (code_of_row h0 (by omega))
  have HC1 := hid (code_of_row h1 (by omega))
  clear h0 h1
  have B : Hid (Below w.heap.size w w) := Below.refl _ _
  go_enter Try.func7, Try.ntmps7
  go_wp2_with fail
  refine (drawSeeG_any _ _ HC0.out).mono ?_
  rintro e w1 ⟨g, s, rfl, b⟩
  replace B : Hid (Below w.heap.size w w1) := B.out.trans (b.mono B.out.size)
  clear b 
  have b : Below w1.heap.size w1 (w1.alloc (guB g)) := (Below.refl _ _).alloc (Nat.le_refl _) _
  have KG : Hid (GuCells (w1.alloc (guB g)) w1.heap.size g) := (galloc4 _ _).1
  replace B : Hid (Below w.heap.size w (w1.alloc (guB g))) := B.out.trans (b.mono B.out.size)
  clear b
  have b : Below (w1.alloc (guB g)).heap.size (w1.alloc (guB g)) ((w1.alloc (guB g)).alloc (snB s)) := (Below.refl _ _).alloc (Nat.le_refl _) _
  replace KG := hid (KG.out.below b KG.out.lt)
  have KS : Hid (SnBox ((w1.alloc (guB g)).alloc (snB s)) (w1.alloc (guB g)).heap.size s) := snalloc _ _
  replace B : Hid (Below w.heap.size w ((w1.alloc (guB g)).alloc (snB s))) := B.out.trans (b.mono B.out.size)
  clear b
  obtain ⟨ok, hok⟩ : ∃ ok, (goodG g && okS s) = ok := ⟨_, rfl⟩
  obtain ⟨R, hR⟩ : ∃ R : GuEl, R = bif ok then seeG g s else (0, 0, 0, 0) := ⟨_, rfl⟩
  obtain ⟨gd, hgd⟩ : ∃ gd, goodG g = gd := ⟨_, rfl⟩
  obtain ⟨v, hv⟩ : ∃ v : Int, v = bif gd then waitG g else 0 := ⟨_, rfl⟩
  have HOK := hid hok; have HR := hid hR; have HGD := hid hgd; have HV := hid hv
  clear hok hR hgd hv
  try simp only [World.size_alloc] at KS
  obtain ⟨q00, q01, q02, q03⟩ := KG.out
  obtain ⟨q10, q11, q12⟩ := KS.out
  go_wp2_with fail
  refine (iseeG_any g s ok HOK.out R HR.out _).mono ?_
  rintro e w2 ⟨rfl, b⟩
  replace KG := hid (KG.out.below b KG.out.lt)
  replace KS := hid (KS.out.below b KS.out.lt)
  replace B : Hid (Below w.heap.size w w2) := B.out.trans (b.mono B.out.size)
  clear b q00 q01 q02 q03 q10 q11 q12
  have b : Below w2.heap.size w2 (w2.alloc (guB R)) := (Below.refl _ _).alloc (Nat.le_refl _) _
  replace KG := hid (KG.out.below b KG.out.lt)
  replace KS := hid (KS.out.below b KS.out.lt)
  have KX : Hid (GuCells (w2.alloc (guB R)) w2.heap.size R) := (galloc4 _ _).1
  replace B : Hid (Below w.heap.size w (w2.alloc (guB R))) := B.out.trans (b.mono B.out.size)
  clear b
  obtain ⟨q00, q01, q02, q03⟩ := KG.out
  obtain ⟨q10, q11, q12⟩ := KS.out
  obtain ⟨q20, q21, q22, q23⟩ := KX.out
  go_wp2_with fail
  refine (sseeG_any g s ok HOK.out R HR.out _).mono ?_
  rintro e w3 ⟨rfl, b⟩
  replace KG := hid (KG.out.below b KG.out.lt)
  replace KS := hid (KS.out.below b KS.out.lt)
  replace KX := hid (KX.out.below b KX.out.lt)
  replace B : Hid (Below w.heap.size w w3) := B.out.trans (b.mono B.out.size)
  clear b q00 q01 q02 q03 q10 q11 q12 q20 q21 q22 q23
  have b : Below w3.heap.size w3 (w3.alloc (guB R)) := (Below.refl _ _).alloc (Nat.le_refl _) _
  replace KG := hid (KG.out.below b KG.out.lt)
  replace KS := hid (KS.out.below b KS.out.lt)
  replace KX := hid (KX.out.below b KX.out.lt)
  have KW : Hid (GuCells (w3.alloc (guB R)) w3.heap.size R) := (galloc4 _ _).1
  replace B : Hid (Below w.heap.size w (w3.alloc (guB R))) := B.out.trans (b.mono B.out.size)
  clear b
  obtain ⟨q00, q01, q02, q03⟩ := KG.out
  obtain ⟨q10, q11, q12⟩ := KS.out
  obtain ⟨q20, q21, q22, q23⟩ := KX.out
  obtain ⟨q30, q31, q32, q33⟩ := KW.out
  go_wp2_with fail
  refine (iwaitG_any g gd HGD.out v HV.out _).mono ?_
  rintro e w4 ⟨rfl, b⟩
  replace KG := hid (KG.out.below b KG.out.lt)
  replace KS := hid (KS.out.below b KS.out.lt)
  replace KX := hid (KX.out.below b KX.out.lt)
  replace KW := hid (KW.out.below b KW.out.lt)
  replace B : Hid (Below w.heap.size w w4) := B.out.trans (b.mono B.out.size)
  clear b q00 q01 q02 q03 q10 q11 q12 q20 q21 q22 q23 q30 q31 q32 q33
  obtain ⟨q00, q01, q02, q03⟩ := KG.out
  obtain ⟨q10, q11, q12⟩ := KS.out
  obtain ⟨q20, q21, q22, q23⟩ := KX.out
  obtain ⟨q30, q31, q32, q33⟩ := KW.out
  go_wp2_with fail
  refine (swaitG_any g gd HGD.out v HV.out _).mono ?_
  rintro e w5 ⟨rfl, b⟩
  replace KG := hid (KG.out.below b KG.out.lt)
  replace KS := hid (KS.out.below b KS.out.lt)
  replace KX := hid (KX.out.below b KX.out.lt)
  replace KW := hid (KW.out.below b KW.out.lt)
  replace B : Hid (Below w.heap.size w w5) := B.out.trans (b.mono B.out.size)
  clear b q00 q01 q02 q03 q10 q11 q12 q20 q21 q22 q23 q30 q31 q32 q33
  obtain ⟨q00, q01, q02, q03⟩ := KG.out
  obtain ⟨q10, q11, q12⟩ := KS.out
  obtain ⟨q20, q21, q22, q23⟩ := KX.out
  obtain ⟨q30, q31, q32, q33⟩ := KW.out
  go_wp2_with fail
  refine (igoodG_eq g gd HGD.out _).mono ?_
  rintro e w6 ⟨rfl, b⟩
  replace KG := hid (KG.out.below b KG.out.lt)
  replace KS := hid (KS.out.below b KS.out.lt)
  replace KX := hid (KX.out.below b KX.out.lt)
  replace KW := hid (KW.out.below b KW.out.lt)
  replace B : Hid (Below w.heap.size w w6) := B.out.trans (b.mono B.out.size)
  clear b q00 q01 q02 q03 q10 q11 q12 q20 q21 q22 q23 q30 q31 q32 q33
  cases ok
  · clear HOK HR HGD HV
    cases gd
    all_goals
      clear KG KS KX KW
      go_wp2_with fail
      refine (drawNewG_any _ _ (HC1.out.later9 B.out)).mono ?_
      rintro e w7 ⟨z, rfl, b⟩
      replace B : Hid (Below w.heap.size w w7) := B.out.trans (b.mono B.out.size)
      clear b 
      by_cases hz : newB z = true
      · have HZ := hid hz
        clear hz
        go_wp2_with fail
        refine (inewG_yes z HZ.out _).mono ?_
        rintro e w8 ⟨rfl, b⟩
        replace B : Hid (Below w.heap.size w w8) := B.out.trans (b.mono B.out.size)
        clear b 
        obtain ⟨y, hy⟩ : ∃ y, newG z = y := ⟨_, rfl⟩
        rw [hy]
        have HY : Hid (newG z = y) := hy
        clear hy
        have b : Below w8.heap.size w8 (w8.alloc (guB y)) := (Below.refl _ _).alloc (Nat.le_refl _) _
        have KA : Hid (GuCells (w8.alloc (guB y)) w8.heap.size y) := (galloc4 _ _).1
        replace B : Hid (Below w.heap.size w (w8.alloc (guB y))) := B.out.trans (b.mono B.out.size)
        clear b
        obtain ⟨q00, q01, q02, q03⟩ := KA.out
        go_wp2_with fail
        refine (snewG_yes z HZ.out _).mono ?_
        rintro e w9 ⟨rfl, b⟩
        replace KA := hid (KA.out.below b KA.out.lt)
        replace B : Hid (Below w.heap.size w w9) := B.out.trans (b.mono B.out.size)
        clear b q00 q01 q02 q03
        rw [HY.out]
        have b : Below w9.heap.size w9 (w9.alloc (guB y)) := (Below.refl _ _).alloc (Nat.le_refl _) _
        replace KA := hid (KA.out.below b KA.out.lt)
        have KB : Hid (GuCells (w9.alloc (guB y)) w9.heap.size y) := (galloc4 _ _).1
        replace B : Hid (Below w.heap.size w (w9.alloc (guB y))) := B.out.trans (b.mono B.out.size)
        clear b
        have HGY : Hid (goodG y = true) := by rw [← HY.out]; exact goodG_iff.2 (newG_good HZ.out)
        obtain ⟨q00, q01, q02, q03⟩ := KA.out
        obtain ⟨q10, q11, q12, q13⟩ := KB.out
        go_wp2_with fail
        refine (igoodG_eq y true HGY.out _).mono ?_
        rintro e w10 ⟨rfl, b⟩
        replace KA := hid (KA.out.below b KA.out.lt)
        replace KB := hid (KB.out.below b KB.out.lt)
        replace B : Hid (Below w.heap.size w w10) := B.out.trans (b.mono B.out.size)
        clear b q00 q01 q02 q03 q10 q11 q12 q13
        go_wp2
        go_ret
        exact ⟨rfl, B.out⟩
      · have HZ : Hid (newB z = false) := by rw [Bool.not_eq_true] at hz; exact hz
        clear hz
        go_wp2_with fail
        refine (inewG_no z HZ.out _).mono ?_
        rintro e w8 ⟨rfl, b⟩
        replace B : Hid (Below w.heap.size w w8) := B.out.trans (b.mono B.out.size)
        clear b 
        have b : Below w8.heap.size w8 (w8.alloc (guB (0, 0, 0, 0))) := (Below.refl _ _).alloc (Nat.le_refl _) _
        have KA : Hid (GuCells (w8.alloc (guB (0, 0, 0, 0))) w8.heap.size (0, 0, 0, 0)) := (galloc4 _ _).1
        replace B : Hid (Below w.heap.size w (w8.alloc (guB (0, 0, 0, 0)))) := B.out.trans (b.mono B.out.size)
        clear b
        obtain ⟨q00, q01, q02, q03⟩ := KA.out
        go_wp2_with fail
        refine (snewG_no z HZ.out _).mono ?_
        rintro e w9 ⟨rfl, b⟩
        replace KA := hid (KA.out.below b KA.out.lt)
        replace B : Hid (Below w.heap.size w w9) := B.out.trans (b.mono B.out.size)
        clear b q00 q01 q02 q03
        have b : Below w9.heap.size w9 (w9.alloc (guB (0, 0, 0, 0))) := (Below.refl _ _).alloc (Nat.le_refl _) _
        replace KA := hid (KA.out.below b KA.out.lt)
        have KB : Hid (GuCells (w9.alloc (guB (0, 0, 0, 0))) w9.heap.size (0, 0, 0, 0)) := (galloc4 _ _).1
        replace B : Hid (Below w.heap.size w (w9.alloc (guB (0, 0, 0, 0)))) := B.out.trans (b.mono B.out.size)
        clear b
        obtain ⟨q00, q01, q02, q03⟩ := KA.out
        obtain ⟨q10, q11, q12, q13⟩ := KB.out
        go_wp2
        go_ret
        exact ⟨rfl, B.out⟩
  obtain ⟨hg1, hs1⟩ : goodG g = true ∧ okS s = true := by have := HOK.out; rwa [Bool.and_eq_true] at this
  obtain rfl : gd = true := by rw [← HGD.out]; exact hg1
  have hRe : R = seeG g s := HR.out
  have HGR : Hid (goodG R = true) := by rw [hRe]; exact goodG_iff.2 (seeG_good (goodG_iff.1 hg1) hs1)
  obtain ⟨u, hu⟩ : ∃ u : Int, u = bif true then waitG R else 0 := ⟨_, rfl⟩
  obtain ⟨hu4, hu400, hue⟩ := isWait_in HGR.out hu
  obtain ⟨hv4, hv400, hve⟩ := isWait_in hg1 HV.out
  have HU := hid hu
  have HL : Hid (s.2.2 = true → v ≤ u ∧ (g.2.2.2 < 6 → u = 2 * v ∨ u = 400)) := by
    intro hl
    obtain ⟨t, tw, lo⟩ := s
    obtain rfl : lo = true := hl
    rw [hue, hve, hRe]
    exact wait_lost (goodG_iff.1 hg1) t tw
  clear hu hue hve hRe hg1 hs1 HOK HR HGD HV
  obtain ⟨q00, q01, q02, q03⟩ := KG.out
  obtain ⟨q10, q11, q12⟩ := KS.out
  obtain ⟨q20, q21, q22, q23⟩ := KX.out
  obtain ⟨q30, q31, q32, q33⟩ := KW.out
  go_wp2_with fail
  refine (iwaitG_any R true HGR.out u HU.out _).mono ?_
  rintro e w7 ⟨rfl, b⟩
  replace KG := hid (KG.out.below b KG.out.lt)
  replace KS := hid (KS.out.below b KS.out.lt)
  replace KX := hid (KX.out.below b KX.out.lt)
  replace KW := hid (KW.out.below b KW.out.lt)
  replace B : Hid (Below w.heap.size w w7) := B.out.trans (b.mono B.out.size)
  clear b q00 q01 q02 q03 q10 q11 q12 q20 q21 q22 q23 q30 q31 q32 q33
  obtain ⟨q00, q01, q02, q03⟩ := KG.out
  obtain ⟨q10, q11, q12⟩ := KS.out
  obtain ⟨q20, q21, q22, q23⟩ := KX.out
  obtain ⟨q30, q31, q32, q33⟩ := KW.out
  go_wp2_with fail
  refine (igoodG_eq R true HGR.out _).mono ?_
  rintro e w8 ⟨rfl, b⟩
  replace KG := hid (KG.out.below b KG.out.lt)
  replace KS := hid (KS.out.below b KS.out.lt)
  replace KX := hid (KX.out.below b KX.out.lt)
  replace KW := hid (KW.out.below b KW.out.lt)
  replace B : Hid (Below w.heap.size w w8) := B.out.trans (b.mono B.out.size)
  clear b q00 q01 q02 q03 q10 q11 q12 q20 q21 q22 q23 q30 q31 q32 q33
  have d4 : decide (u < 4) = false := by simp; omega
  have d5 : decide (400 < u) = false := by simp; omega
  have w2 : IntKind.i64.wrap (2 * v) = 2 * v := by rw [IntKind.wrap_i64]; omega
  obtain ⟨t, tw, lo⟩ := s
  cases lo
  · clear HL
    obtain ⟨q00, q01, q02, q03⟩ := KG.out
    obtain ⟨q10, q11, q12⟩ := KS.out
    obtain ⟨q20, q21, q22, q23⟩ := KX.out
    obtain ⟨q30, q31, q32, q33⟩ := KW.out
    go_wp2_with fail
    refine (drawNewG_any _ _ (HC1.out.later9 B.out)).mono ?_
    rintro e w9 ⟨z, rfl, b⟩
    replace B : Hid (Below w.heap.size w w9) := B.out.trans (b.mono B.out.size)
    clear b q00 q01 q02 q03 q10 q11 q12 q20 q21 q22 q23 q30 q31 q32 q33 KG KS KX KW
    by_cases hz : newB z = true
    · have HZ := hid hz
      clear hz
      go_wp2_with fail
      refine (inewG_yes z HZ.out _).mono ?_
      rintro e w10 ⟨rfl, b⟩
      replace B : Hid (Below w.heap.size w w10) := B.out.trans (b.mono B.out.size)
      clear b 
      obtain ⟨y, hy⟩ : ∃ y, newG z = y := ⟨_, rfl⟩
      rw [hy]
      have HY : Hid (newG z = y) := hy
      clear hy
      have b : Below w10.heap.size w10 (w10.alloc (guB y)) := (Below.refl _ _).alloc (Nat.le_refl _) _
      have KA : Hid (GuCells (w10.alloc (guB y)) w10.heap.size y) := (galloc4 _ _).1
      replace B : Hid (Below w.heap.size w (w10.alloc (guB y))) := B.out.trans (b.mono B.out.size)
      clear b
      obtain ⟨q00, q01, q02, q03⟩ := KA.out
      go_wp2_with fail
      refine (snewG_yes z HZ.out _).mono ?_
      rintro e w11 ⟨rfl, b⟩
      replace KA := hid (KA.out.below b KA.out.lt)
      replace B : Hid (Below w.heap.size w w11) := B.out.trans (b.mono B.out.size)
      clear b q00 q01 q02 q03
      rw [HY.out]
      have b : Below w11.heap.size w11 (w11.alloc (guB y)) := (Below.refl _ _).alloc (Nat.le_refl _) _
      replace KA := hid (KA.out.below b KA.out.lt)
      have KB : Hid (GuCells (w11.alloc (guB y)) w11.heap.size y) := (galloc4 _ _).1
      replace B : Hid (Below w.heap.size w (w11.alloc (guB y))) := B.out.trans (b.mono B.out.size)
      clear b
      have HGY : Hid (goodG y = true) := by rw [← HY.out]; exact goodG_iff.2 (newG_good HZ.out)
      obtain ⟨q00, q01, q02, q03⟩ := KA.out
      obtain ⟨q10, q11, q12, q13⟩ := KB.out
      go_wp2_with fail
      refine (igoodG_eq y true HGY.out _).mono ?_
      rintro e w12 ⟨rfl, b⟩
      replace KA := hid (KA.out.below b KA.out.lt)
      replace KB := hid (KB.out.below b KB.out.lt)
      replace B : Hid (Below w.heap.size w w12) := B.out.trans (b.mono B.out.size)
      clear b q00 q01 q02 q03 q10 q11 q12 q13
      go_wp2
      go_ret
      exact ⟨rfl, B.out⟩
    · have HZ : Hid (newB z = false) := by rw [Bool.not_eq_true] at hz; exact hz
      clear hz
      go_wp2_with fail
      refine (inewG_no z HZ.out _).mono ?_
      rintro e w10 ⟨rfl, b⟩
      replace B : Hid (Below w.heap.size w w10) := B.out.trans (b.mono B.out.size)
      clear b 
      have b : Below w10.heap.size w10 (w10.alloc (guB (0, 0, 0, 0))) := (Below.refl _ _).alloc (Nat.le_refl _) _
      have KA : Hid (GuCells (w10.alloc (guB (0, 0, 0, 0))) w10.heap.size (0, 0, 0, 0)) := (galloc4 _ _).1
      replace B : Hid (Below w.heap.size w (w10.alloc (guB (0, 0, 0, 0)))) := B.out.trans (b.mono B.out.size)
      clear b
      obtain ⟨q00, q01, q02, q03⟩ := KA.out
      go_wp2_with fail
      refine (snewG_no z HZ.out _).mono ?_
      rintro e w11 ⟨rfl, b⟩
      replace KA := hid (KA.out.below b KA.out.lt)
      replace B : Hid (Below w.heap.size w w11) := B.out.trans (b.mono B.out.size)
      clear b q00 q01 q02 q03
      have b : Below w11.heap.size w11 (w11.alloc (guB (0, 0, 0, 0))) := (Below.refl _ _).alloc (Nat.le_refl _) _
      replace KA := hid (KA.out.below b KA.out.lt)
      have KB : Hid (GuCells (w11.alloc (guB (0, 0, 0, 0))) w11.heap.size (0, 0, 0, 0)) := (galloc4 _ _).1
      replace B : Hid (Below w.heap.size w (w11.alloc (guB (0, 0, 0, 0)))) := B.out.trans (b.mono B.out.size)
      clear b
      obtain ⟨q00, q01, q02, q03⟩ := KA.out
      obtain ⟨q10, q11, q12, q13⟩ := KB.out
      go_wp2
      go_ret
      exact ⟨rfl, B.out⟩
  · obtain ⟨hle, hdb⟩ := HL.out rfl
    clear HL
    obtain ⟨q00, q01, q02, q03⟩ := KG.out
    obtain ⟨q10, q11, q12⟩ := KS.out
    obtain ⟨q20, q21, q22, q23⟩ := KX.out
    obtain ⟨q30, q31, q32, q33⟩ := KW.out
    have d6 : decide (u < v) = false := by simp; omega
    by_cases h6 : g.2.2.2 < 6
    · have d7 : decide (g.2.2.2 < 6) = true := by simpa using h6
      by_cases he : u = 2 * v
      · have d8 : (u != 2 * v) = false := by simpa using he
        clear hdb h6
        go_wp2_with fail
        refine (drawNewG_any _ _ (HC1.out.later9 B.out)).mono ?_
        rintro e w9 ⟨z, rfl, b⟩
        replace B : Hid (Below w.heap.size w w9) := B.out.trans (b.mono B.out.size)
        clear b q00 q01 q02 q03 q10 q11 q12 q20 q21 q22 q23 q30 q31 q32 q33 KG KS KX KW
        by_cases hz : newB z = true
        · have HZ := hid hz
          clear hz
          go_wp2_with fail
          refine (inewG_yes z HZ.out _).mono ?_
          rintro e w10 ⟨rfl, b⟩
          replace B : Hid (Below w.heap.size w w10) := B.out.trans (b.mono B.out.size)
          clear b 
          obtain ⟨y, hy⟩ : ∃ y, newG z = y := ⟨_, rfl⟩
          rw [hy]
          have HY : Hid (newG z = y) := hy
          clear hy
          have b : Below w10.heap.size w10 (w10.alloc (guB y)) := (Below.refl _ _).alloc (Nat.le_refl _) _
          have KA : Hid (GuCells (w10.alloc (guB y)) w10.heap.size y) := (galloc4 _ _).1
          replace B : Hid (Below w.heap.size w (w10.alloc (guB y))) := B.out.trans (b.mono B.out.size)
          clear b
          obtain ⟨q00, q01, q02, q03⟩ := KA.out
          go_wp2_with fail
          refine (snewG_yes z HZ.out _).mono ?_
          rintro e w11 ⟨rfl, b⟩
          replace KA := hid (KA.out.below b KA.out.lt)
          replace B : Hid (Below w.heap.size w w11) := B.out.trans (b.mono B.out.size)
          clear b q00 q01 q02 q03
          rw [HY.out]
          have b : Below w11.heap.size w11 (w11.alloc (guB y)) := (Below.refl _ _).alloc (Nat.le_refl _) _
          replace KA := hid (KA.out.below b KA.out.lt)
          have KB : Hid (GuCells (w11.alloc (guB y)) w11.heap.size y) := (galloc4 _ _).1
          replace B : Hid (Below w.heap.size w (w11.alloc (guB y))) := B.out.trans (b.mono B.out.size)
          clear b
          have HGY : Hid (goodG y = true) := by rw [← HY.out]; exact goodG_iff.2 (newG_good HZ.out)
          obtain ⟨q00, q01, q02, q03⟩ := KA.out
          obtain ⟨q10, q11, q12, q13⟩ := KB.out
          go_wp2_with fail
          refine (igoodG_eq y true HGY.out _).mono ?_
          rintro e w12 ⟨rfl, b⟩
          replace KA := hid (KA.out.below b KA.out.lt)
          replace KB := hid (KB.out.below b KB.out.lt)
          replace B : Hid (Below w.heap.size w w12) := B.out.trans (b.mono B.out.size)
          clear b q00 q01 q02 q03 q10 q11 q12 q13
          go_wp2
          go_ret
          exact ⟨rfl, B.out⟩
        · have HZ : Hid (newB z = false) := by rw [Bool.not_eq_true] at hz; exact hz
          clear hz
          go_wp2_with fail
          refine (inewG_no z HZ.out _).mono ?_
          rintro e w10 ⟨rfl, b⟩
          replace B : Hid (Below w.heap.size w w10) := B.out.trans (b.mono B.out.size)
          clear b 
          have b : Below w10.heap.size w10 (w10.alloc (guB (0, 0, 0, 0))) := (Below.refl _ _).alloc (Nat.le_refl _) _
          have KA : Hid (GuCells (w10.alloc (guB (0, 0, 0, 0))) w10.heap.size (0, 0, 0, 0)) := (galloc4 _ _).1
          replace B : Hid (Below w.heap.size w (w10.alloc (guB (0, 0, 0, 0)))) := B.out.trans (b.mono B.out.size)
          clear b
          obtain ⟨q00, q01, q02, q03⟩ := KA.out
          go_wp2_with fail
          refine (snewG_no z HZ.out _).mono ?_
          rintro e w11 ⟨rfl, b⟩
          replace KA := hid (KA.out.below b KA.out.lt)
          replace B : Hid (Below w.heap.size w w11) := B.out.trans (b.mono B.out.size)
          clear b q00 q01 q02 q03
          have b : Below w11.heap.size w11 (w11.alloc (guB (0, 0, 0, 0))) := (Below.refl _ _).alloc (Nat.le_refl _) _
          replace KA := hid (KA.out.below b KA.out.lt)
          have KB : Hid (GuCells (w11.alloc (guB (0, 0, 0, 0))) w11.heap.size (0, 0, 0, 0)) := (galloc4 _ _).1
          replace B : Hid (Below w.heap.size w (w11.alloc (guB (0, 0, 0, 0)))) := B.out.trans (b.mono B.out.size)
          clear b
          obtain ⟨q00, q01, q02, q03⟩ := KA.out
          obtain ⟨q10, q11, q12, q13⟩ := KB.out
          go_wp2
          go_ret
          exact ⟨rfl, B.out⟩
      · have d8 : (u != 2 * v) = true := by simpa using he
        obtain rfl : u = 400 := by have := hdb h6; omega
        clear hdb h6 he
        go_wp2_with fail
        refine (drawNewG_any _ _ (HC1.out.later9 B.out)).mono ?_
        rintro e w9 ⟨z, rfl, b⟩
        replace B : Hid (Below w.heap.size w w9) := B.out.trans (b.mono B.out.size)
        clear b q00 q01 q02 q03 q10 q11 q12 q20 q21 q22 q23 q30 q31 q32 q33 KG KS KX KW
        by_cases hz : newB z = true
        · have HZ := hid hz
          clear hz
          go_wp2_with fail
          refine (inewG_yes z HZ.out _).mono ?_
          rintro e w10 ⟨rfl, b⟩
          replace B : Hid (Below w.heap.size w w10) := B.out.trans (b.mono B.out.size)
          clear b 
          obtain ⟨y, hy⟩ : ∃ y, newG z = y := ⟨_, rfl⟩
          rw [hy]
          have HY : Hid (newG z = y) := hy
          clear hy
          have b : Below w10.heap.size w10 (w10.alloc (guB y)) := (Below.refl _ _).alloc (Nat.le_refl _) _
          have KA : Hid (GuCells (w10.alloc (guB y)) w10.heap.size y) := (galloc4 _ _).1
          replace B : Hid (Below w.heap.size w (w10.alloc (guB y))) := B.out.trans (b.mono B.out.size)
          clear b
          obtain ⟨q00, q01, q02, q03⟩ := KA.out
          go_wp2_with fail
          refine (snewG_yes z HZ.out _).mono ?_
          rintro e w11 ⟨rfl, b⟩
          replace KA := hid (KA.out.below b KA.out.lt)
          replace B : Hid (Below w.heap.size w w11) := B.out.trans (b.mono B.out.size)
          clear b q00 q01 q02 q03
          rw [HY.out]
          have b : Below w11.heap.size w11 (w11.alloc (guB y)) := (Below.refl _ _).alloc (Nat.le_refl _) _
          replace KA := hid (KA.out.below b KA.out.lt)
          have KB : Hid (GuCells (w11.alloc (guB y)) w11.heap.size y) := (galloc4 _ _).1
          replace B : Hid (Below w.heap.size w (w11.alloc (guB y))) := B.out.trans (b.mono B.out.size)
          clear b
          have HGY : Hid (goodG y = true) := by rw [← HY.out]; exact goodG_iff.2 (newG_good HZ.out)
          obtain ⟨q00, q01, q02, q03⟩ := KA.out
          obtain ⟨q10, q11, q12, q13⟩ := KB.out
          go_wp2_with fail
          refine (igoodG_eq y true HGY.out _).mono ?_
          rintro e w12 ⟨rfl, b⟩
          replace KA := hid (KA.out.below b KA.out.lt)
          replace KB := hid (KB.out.below b KB.out.lt)
          replace B : Hid (Below w.heap.size w w12) := B.out.trans (b.mono B.out.size)
          clear b q00 q01 q02 q03 q10 q11 q12 q13
          go_wp2
          go_ret
          exact ⟨rfl, B.out⟩
        · have HZ : Hid (newB z = false) := by rw [Bool.not_eq_true] at hz; exact hz
          clear hz
          go_wp2_with fail
          refine (inewG_no z HZ.out _).mono ?_
          rintro e w10 ⟨rfl, b⟩
          replace B : Hid (Below w.heap.size w w10) := B.out.trans (b.mono B.out.size)
          clear b 
          have b : Below w10.heap.size w10 (w10.alloc (guB (0, 0, 0, 0))) := (Below.refl _ _).alloc (Nat.le_refl _) _
          have KA : Hid (GuCells (w10.alloc (guB (0, 0, 0, 0))) w10.heap.size (0, 0, 0, 0)) := (galloc4 _ _).1
          replace B : Hid (Below w.heap.size w (w10.alloc (guB (0, 0, 0, 0)))) := B.out.trans (b.mono B.out.size)
          clear b
          obtain ⟨q00, q01, q02, q03⟩ := KA.out
          go_wp2_with fail
          refine (snewG_no z HZ.out _).mono ?_
          rintro e w11 ⟨rfl, b⟩
          replace KA := hid (KA.out.below b KA.out.lt)
          replace B : Hid (Below w.heap.size w w11) := B.out.trans (b.mono B.out.size)
          clear b q00 q01 q02 q03
          have b : Below w11.heap.size w11 (w11.alloc (guB (0, 0, 0, 0))) := (Below.refl _ _).alloc (Nat.le_refl _) _
          replace KA := hid (KA.out.below b KA.out.lt)
          have KB : Hid (GuCells (w11.alloc (guB (0, 0, 0, 0))) w11.heap.size (0, 0, 0, 0)) := (galloc4 _ _).1
          replace B : Hid (Below w.heap.size w (w11.alloc (guB (0, 0, 0, 0)))) := B.out.trans (b.mono B.out.size)
          clear b
          obtain ⟨q00, q01, q02, q03⟩ := KA.out
          obtain ⟨q10, q11, q12, q13⟩ := KB.out
          go_wp2
          go_ret
          exact ⟨rfl, B.out⟩
    · have d7 : decide (g.2.2.2 < 6) = false := by simpa using h6
      clear hdb h6
      go_wp2_with fail
      refine (drawNewG_any _ _ (HC1.out.later9 B.out)).mono ?_
      rintro e w9 ⟨z, rfl, b⟩
      replace B : Hid (Below w.heap.size w w9) := B.out.trans (b.mono B.out.size)
      clear b q00 q01 q02 q03 q10 q11 q12 q20 q21 q22 q23 q30 q31 q32 q33 KG KS KX KW
      by_cases hz : newB z = true
      · have HZ := hid hz
        clear hz
        go_wp2_with fail
        refine (inewG_yes z HZ.out _).mono ?_
        rintro e w10 ⟨rfl, b⟩
        replace B : Hid (Below w.heap.size w w10) := B.out.trans (b.mono B.out.size)
        clear b 
        obtain ⟨y, hy⟩ : ∃ y, newG z = y := ⟨_, rfl⟩
        rw [hy]
        have HY : Hid (newG z = y) := hy
        clear hy
        have b : Below w10.heap.size w10 (w10.alloc (guB y)) := (Below.refl _ _).alloc (Nat.le_refl _) _
        have KA : Hid (GuCells (w10.alloc (guB y)) w10.heap.size y) := (galloc4 _ _).1
        replace B : Hid (Below w.heap.size w (w10.alloc (guB y))) := B.out.trans (b.mono B.out.size)
        clear b
        obtain ⟨q00, q01, q02, q03⟩ := KA.out
        go_wp2_with fail
        refine (snewG_yes z HZ.out _).mono ?_
        rintro e w11 ⟨rfl, b⟩
        replace KA := hid (KA.out.below b KA.out.lt)
        replace B : Hid (Below w.heap.size w w11) := B.out.trans (b.mono B.out.size)
        clear b q00 q01 q02 q03
        rw [HY.out]
        have b : Below w11.heap.size w11 (w11.alloc (guB y)) := (Below.refl _ _).alloc (Nat.le_refl _) _
        replace KA := hid (KA.out.below b KA.out.lt)
        have KB : Hid (GuCells (w11.alloc (guB y)) w11.heap.size y) := (galloc4 _ _).1
        replace B : Hid (Below w.heap.size w (w11.alloc (guB y))) := B.out.trans (b.mono B.out.size)
        clear b
        have HGY : Hid (goodG y = true) := by rw [← HY.out]; exact goodG_iff.2 (newG_good HZ.out)
        obtain ⟨q00, q01, q02, q03⟩ := KA.out
        obtain ⟨q10, q11, q12, q13⟩ := KB.out
        go_wp2_with fail
        refine (igoodG_eq y true HGY.out _).mono ?_
        rintro e w12 ⟨rfl, b⟩
        replace KA := hid (KA.out.below b KA.out.lt)
        replace KB := hid (KB.out.below b KB.out.lt)
        replace B : Hid (Below w.heap.size w w12) := B.out.trans (b.mono B.out.size)
        clear b q00 q01 q02 q03 q10 q11 q12 q13
        go_wp2
        go_ret
        exact ⟨rfl, B.out⟩
      · have HZ : Hid (newB z = false) := by rw [Bool.not_eq_true] at hz; exact hz
        clear hz
        go_wp2_with fail
        refine (inewG_no z HZ.out _).mono ?_
        rintro e w10 ⟨rfl, b⟩
        replace B : Hid (Below w.heap.size w w10) := B.out.trans (b.mono B.out.size)
        clear b 
        have b : Below w10.heap.size w10 (w10.alloc (guB (0, 0, 0, 0))) := (Below.refl _ _).alloc (Nat.le_refl _) _
        have KA : Hid (GuCells (w10.alloc (guB (0, 0, 0, 0))) w10.heap.size (0, 0, 0, 0)) := (galloc4 _ _).1
        replace B : Hid (Below w.heap.size w (w10.alloc (guB (0, 0, 0, 0)))) := B.out.trans (b.mono B.out.size)
        clear b
        obtain ⟨q00, q01, q02, q03⟩ := KA.out
        go_wp2_with fail
        refine (snewG_no z HZ.out _).mono ?_
        rintro e w11 ⟨rfl, b⟩
        replace KA := hid (KA.out.below b KA.out.lt)
        replace B : Hid (Below w.heap.size w w11) := B.out.trans (b.mono B.out.size)
        clear b q00 q01 q02 q03
        have b : Below w11.heap.size w11 (w11.alloc (guB (0, 0, 0, 0))) := (Below.refl _ _).alloc (Nat.le_refl _) _
        replace KA := hid (KA.out.below b KA.out.lt)
        have KB : Hid (GuCells (w11.alloc (guB (0, 0, 0, 0))) w11.heap.size (0, 0, 0, 0)) := (galloc4 _ _).1
        replace B : Hid (Below w.heap.size w (w11.alloc (guB (0, 0, 0, 0)))) := B.out.trans (b.mono B.out.size)
        clear b
        obtain ⟨q00, q01, q02, q03⟩ := KA.out
        obtain ⟨q10, q11, q12, q13⟩ := KB.out
        go_wp2
        go_ret
        exact ⟨rfl, B.out⟩
end Go.Proofs.Yteeaebelknpdjac
