/-
  The law FnRelations answers true at all bytes: two spans stand in just one of thirteen ways, and the other way round in its counterpart.
-/
import Derived.Test.YtobkockikpgcoaaDoorDrawRel
import Derived.Test.YtobkockikpgcoaaDoorDrawR
import Derived.Test.YtobkockikpgcoaaDoorCodeRow
import Derived.Test.YtobkockikpgcoaaDoorRelLaws
import Derived.Test.YtobkockikpgcoaaDoorRelSpec
import Derived.Test.YtobkockikpgcoaaDoorRelImpl
import Derived.Test.YtobkockikpgcoaaDoorRelNo
import Derived.Test.YtobkockikpgcoaaDoorIMeetR
import Derived.Test.YtobkockikpgcoaaDoorHasPoint
import Derived.Test.YtobkockikpgcoaaDoorLengthOf
namespace Go.Proofs.YtobkockikpgcoaaDoor
open Go.RowKit

theorem CodeOk.after {w w' : World} {v : Value} (h : CodeOk w.heap.size w v) (hb : Below w.heap.size w w') : CodeOk w'.heap.size w' v := by
  obtain ⟨a, len, cap, rfl, hlen, hx⟩ := h
  refine ⟨a, len, cap, rfl, hlen, ?_⟩
  rcases hx with hx | ⟨cb, off, rfl, hlt, hc⟩
  · exact .inl hx
  · exact .inr ⟨cb, off, rfl, Nat.lt_of_lt_of_le hlt hb.size, fun i hi => by
      obtain ⟨x, hx, hc⟩ := hc i hi
      exact ⟨x, hx, (hb.cell (p := ⟨cb, off + i, none⟩) hlt).trans hc⟩⟩
theorem sreads_one {W : World} {n : Nat} {p q : Int} (h : XBox W n p q) : SReads W (.slice (some ⟨n, 0, none⟩) 1 1) [(p, q)] := by
  exact ⟨some ⟨n, 0, none⟩, 1, rfl, by simp, .inr ⟨n, 0, rfl, fun i hi => by
    obtain rfl : i = 0 := by simp at hi; exact hi
    exact ⟨h.1.1, h.1.2⟩⟩⟩
theorem goodL_one {x : Sp} (h : spB x = true) : goodL [x] = true := by
  unfold goodL
  simp [chainB, h]
  unfold spB at h
  simp at h
  omega
theorem meet_one_le (x y : Sp) : (meetL [x] [y]).length ≤ 1 := by
  simp only [meetL, meetOne, List.append_nil]
  split <;> simp

set_option maxRecDepth 100000 in
set_option maxHeartbeats 40000000 in
theorem FnRelations_walk (a0 : Option Addr) (len0 cap0 : Nat) (z0 : List Int) (a1 : Option Addr) (len1 cap1 : Nat) (z1 : List Int) (w : World) (hT : RTab w) (h0 : IsRow .u8 w a0 len0 cap0 z0) (h1 : IsRow .u8 w a1 len1 cap1 z1) (b0 : cap0 * 1 ≤ 140737488351232) (b1 : cap1 * 1 ≤ 140737488351232) :
    Calls Tryd.prog 5 #[.slice a0 len0 cap0, .slice a1 len1 cap1] w fun e w' => e = .returned (.bool true) ∧ Below w.heap.size w w' := by
  have l0 : len0 ≤ cap0 := by rcases h0 with ⟨_, rfl, rfl, _⟩ | ⟨x, _, h, _⟩ <;> omega
  have l1 : len1 ≤ cap1 := by rcases h1 with ⟨_, rfl, rfl, _⟩ | ⟨x, _, h, _⟩ <;> omega
  have HT := hid hT
  clear hT
  by_cases hbig : (1048576 : Int) < (len0 : Int) + (len1 : Int)
  · clear h0 h1
    go_enter Tryd.func5, Tryd.ntmps5
    go_wp2
    go_ret
    exact ⟨rfl, Below.refl _ _⟩
  have HC0 := hid (code_of_row h0 (by omega))
  have HC1 := hid (code_of_row h1 (by omega))
  clear h0 h1
  go_enter Tryd.func5, Tryd.ntmps5
  go_wp2_with fail
  refine (drawRel_any _ _ HC0.out).mono ?_
  rintro e w1 ⟨p, q, r, s, rfl, b⟩
  have B := hid b
  clear b HC0
  obtain ⟨W, hW⟩ : ∃ W, W = (w1.alloc (.cells #[.int .i64 p, .int .i64 q] 47)).alloc (.cells #[.int .i64 r, .int .i64 s] 47) := ⟨_, rfl⟩
  have bW : Below w1.heap.size w1 W := by rw [hW]; go_grown
  have X : Hid (XBox W w1.heap.size p q) := by rw [hW]; exact (XBox.new w1 p q _).below ((Below.refl _ _).alloc (by simp) _)
  have Y : Hid (XBox W (w1.heap.size + 1) r s) := by
    have := XBox.new (w1.alloc (.cells #[.int .i64 p, .int .i64 q] 47)) r s 47
    rw [World.size_alloc] at this
    rw [hW]
    exact this
  have B : Hid (Below w.heap.size w W) := B.out.trans (bW.mono B.out.size)
  have HWW := hid hW
  clear bW hW
  obtain ⟨⟨x0, x1⟩, _, _⟩ := X.out
  obtain ⟨⟨y0, y1⟩, _, _⟩ := Y.out
  cases hg : (spB (p, q) && spB (r, s)) with
  | false =>
    have HG := hid hg
    clear hg
    go_wp2_with fail
    rw [← HWW.out]
    refine (irel_no p q r s _ HG.out).mono ?_
    rintro e w2 ⟨rfl, b⟩
    replace X := hid (X.out.below (b.mono (by have := X.out.lt; omega)))
    replace Y := hid (Y.out.below (b.mono (by have := Y.out.lt; omega)))
    have B : Hid (Below w.heap.size w w2) := B.out.trans (b.mono B.out.size)
    clear b x0 x1 y0 y1
    obtain ⟨⟨x0, x1⟩, _, _⟩ := X.out
    obtain ⟨⟨y0, y1⟩, _, _⟩ := Y.out
    go_wp2_with fail
    refine (srel_no p q r s _ HG.out).mono ?_
    rintro e w3 ⟨rfl, b⟩
    have B : Hid (Below w.heap.size w w3) := B.out.trans (b.mono B.out.size)
    clear b x0 x1 y0 y1 X Y HG HWW
    as_aux_lemma =>
      have CM := hid (HC1.out.after B.out)
      go_wp2_with fail
      refine (drawHas_any _ _ CM.out).mono ?_
      rintro e y1 ⟨v17, n, rfl, xs, hx, hr, b⟩
      have B : Hid (Below w.heap.size w y1) := B.out.trans (b.mono B.out.size)
      have R17 := hid hr
      clear b hr CM
      obtain ⟨hb, k2, HI, HS⟩ : ∃ hb k2 : Bool, Hid (∀ v w, SReads w v xs → Calls Tryd.prog 35 #[v, .int .i64 n] w fun e w' => e = .returned (.tuple #[.bool hb, .bool k2]) ∧ Below w.heap.size w w') ∧ Hid (∀ v w, SReads w v xs → Calls Tryd.prog 36 #[v, .int .i64 n] w fun e w' => e = .returned (.tuple #[.bool hb, .bool k2]) ∧ Below w.heap.size w w') := by
        cases hg : goodL xs with
        | false => exact ⟨false, false, fun v w h => ihasPoint_no v xs n w h hg, fun v w h => shasPoint_no v xs n w h hg⟩
        | true => exact ⟨_, true, fun v w h => ihasPoint_yes v xs n w h hg, fun v w h => shasPoint_yes v xs n w h hg⟩
      go_wp2_with fail
      refine (HI.out _ _ R17.out).mono ?_
      rintro e y2 ⟨rfl, b⟩
      replace R17 := hid (R17.out.below b)
      have B : Hid (Below w.heap.size w y2) := B.out.trans (b.mono B.out.size)
      clear b
      go_wp2_with fail
      refine (HS.out _ _ R17.out).mono ?_
      rintro e y3 ⟨rfl, b⟩
      have B : Hid (Below w.heap.size w y3) := B.out.trans (b.mono B.out.size)
      clear b R17 HI HS
      have CM := hid (HC1.out.after B.out)
      go_wp2_with fail
      refine (drawLength_any _ _ CM.out).mono ?_
      rintro e y4 ⟨v23, rfl, ys, hy, hr, b⟩
      have B : Hid (Below w.heap.size w y4) := B.out.trans (b.mono B.out.size)
      have R23 := hid hr
      clear b hr CM
      obtain ⟨ln, k3, LI, LS⟩ : ∃ (ln : Int) (k3 : Bool), Hid (∀ v w, SReads w v ys → Calls Tryd.prog 38 #[v] w fun e w' => e = .returned (.tuple #[.int .i64 ln, .bool k3]) ∧ Below w.heap.size w w') ∧ Hid (∀ v w, SReads w v ys → Calls Tryd.prog 39 #[v] w fun e w' => e = .returned (.tuple #[.int .i64 ln, .bool k3]) ∧ Below w.heap.size w w') := by
        cases hg : goodL ys with
        | false => exact ⟨0, false, fun v w h => ilengthOf_no v ys w h hg, fun v w h => slengthOf_no v ys w h hg⟩
        | true => exact ⟨_, true, fun v w h => ilengthOf_yes v ys w h hg, fun v w h => slengthOf_yes v ys w h hg⟩
      go_wp2_with fail
      refine (LI.out _ _ R23.out).mono ?_
      rintro e y5 ⟨rfl, b⟩
      replace R23 := hid (R23.out.below b)
      have B : Hid (Below w.heap.size w y5) := B.out.trans (b.mono B.out.size)
      clear b
      go_wp2_with fail
      refine (LS.out _ _ R23.out).mono ?_
      rintro e y6 ⟨rfl, b⟩
      have B : Hid (Below w.heap.size w y6) := B.out.trans (b.mono B.out.size)
      clear b R23 LI LS
      have d1 : (hb == hb) = true := by simp
      have d2 : (k2 == k2) = true := by simp
      have d3 : (k3 == k3) = true := by simp
      have d4 : (ln == ln) = true := by simp
      go_wp2
      go_ret
      exact ⟨rfl, B.out⟩
  | true =>
    have ha : spB (p, q) = true := by rw [Bool.and_eq_true] at hg; exact hg.1
    have hb : spB (r, s) = true := by rw [Bool.and_eq_true] at hg; exact hg.2
    have ha1 : p < q := by unfold spB at ha; simp at ha; omega
    have hb1 : r < s := by unfold spB at hb; simp at hb; omega
    obtain ⟨v, hv⟩ : ∃ v, ways (p, q) (r, s) = v := ⟨_, rfl⟩
    have hvb := ways_bounds (a := (p, q)) (b := (r, s)) ha1 hb1
    rw [hv] at hvb
    obtain ⟨o, ho⟩ : ∃ o, otherWay v = o := ⟨_, rfl⟩
    have HO := hid ho
    have LI : Hid (∀ w, RTab w → Calls Tryd.prog 31 #[.agg #[.int .i64 p, .int .i64 q], .agg #[.int .i64 r, .int .i64 s]] w fun e w' => e = .returned (.tuple #[.int .i64 v, .bool true]) ∧ Below w.heap.size w w') := fun w h => by rw [← hv]; exact irel_yes p q r s w h ha hb
    have LS : Hid (∀ w, Calls Tryd.prog 32 #[.agg #[.int .i64 p, .int .i64 q], .agg #[.int .i64 r, .int .i64 s]] w fun e w' => e = .returned (.tuple #[.int .i64 v, .bool true]) ∧ Below w.heap.size w w') := fun w => by rw [← hv]; exact srel_yes p q r s w ha hb
    have LO : Hid (∀ w, RTab w → Calls Tryd.prog 31 #[.agg #[.int .i64 r, .int .i64 s], .agg #[.int .i64 p, .int .i64 q]] w fun e w' => e = .returned (.tuple #[.int .i64 o, .bool true]) ∧ Below w.heap.size w w') := fun w h => by
      rw [← ho, ← hv, ← ways_other (a := (p, q)) (b := (r, s)) ha1 hb1]
      exact irel_yes r s p q w h hb ha
    obtain ⟨ml, hml⟩ : ∃ ml, ml = (meetL [(p, q)] [(r, s)]).length := ⟨_, rfl⟩
    have hml1 := meet_one_le (p, q) (r, s)
    have HML : Hid (((ml : Int) == 0) = apartB v) := by
      show _ = _
      rw [← hv, ← apart_meet (a := (p, q)) (b := (r, s)) ha1 hb1, hml, Bool.eq_iff_iff, beq_iff_eq, decide_eq_true_eq]
      omega
    have MI : Hid (∀ va vb w, SReads w va [(p, q)] → SReads w vb [(r, s)] → Calls Tryd.prog 33 #[va, vb] w fun e w' => ∃ a c, e = .returned (.tuple #[.slice a ml c, .bool true]) ∧ Below w.heap.size w w') := fun va vb w h1 h2 => by
      refine (imeet_good va vb _ _ w h1 h2 (goodL_one ha) (goodL_one hb)).mono ?_
      rintro e w' ⟨v', rfl, o', b'⟩
      have ht : tellB (meetL [(p, q)] [(r, s)]) = true := by unfold tellB; rw [decide_eq_true_eq]; omega
      have hy : tellY (meetL [(p, q)] [(r, s)]) = meetL [(p, q)] [(r, s)] := by unfold tellY; rw [if_pos (by omega)]
      rw [hy] at o'
      obtain ⟨a, c, rfl, _⟩ := o'.reads
      rw [ht, hml]
      exact ⟨a, c, rfl, b'⟩
    have dv : (v != v) = false := by simp
    have dvo : (o != o) = false := by simp
    clear hg ha hb ha1 hb1 hv ho hml hml1
    go_wp2_with fail
    rw [← HWW.out]
    refine (LI.out _ (HT.out.below B.out)).mono ?_
    rintro e w2 ⟨rfl, b⟩
    replace X := hid (X.out.below (b.mono (by have := X.out.lt; omega)))
    replace Y := hid (Y.out.below (b.mono (by have := Y.out.lt; omega)))
    have B : Hid (Below w.heap.size w w2) := B.out.trans (b.mono B.out.size)
    clear b x0 x1 y0 y1
    obtain ⟨⟨x0, x1⟩, _, _⟩ := X.out
    obtain ⟨⟨y0, y1⟩, _, _⟩ := Y.out
    go_wp2_with fail
    refine (LS.out _).mono ?_
    rintro e w3 ⟨rfl, b⟩
    replace X := hid (X.out.below (b.mono (by have := X.out.lt; omega)))
    replace Y := hid (Y.out.below (b.mono (by have := Y.out.lt; omega)))
    have B : Hid (Below w.heap.size w w3) := B.out.trans (b.mono B.out.size)
    clear b x0 x1 y0 y1
    obtain ⟨⟨x0, x1⟩, _, _⟩ := X.out
    obtain ⟨⟨y0, y1⟩, _, _⟩ := Y.out
    go_wp2_with fail
    refine (LO.out _ (HT.out.below B.out)).mono ?_
    rintro e w4 ⟨rfl, b⟩
    replace X := hid (X.out.below (b.mono (by have := X.out.lt; omega)))
    replace Y := hid (Y.out.below (b.mono (by have := Y.out.lt; omega)))
    have B : Hid (Below w.heap.size w w4) := B.out.trans (b.mono B.out.size)
    clear b x0 x1 y0 y1
    obtain ⟨⟨x0, x1⟩, _, _⟩ := X.out
    obtain ⟨⟨y0, y1⟩, _, _⟩ := Y.out
    have hxl : w1.heap.size < w4.heap.size := X.out.lt
    have hyl : w1.heap.size + 1 < w4.heap.size := Y.out.lt
    obtain ⟨V, hV⟩ : ∃ V, V = (w4.alloc (.cells #[.int .i64 p, .int .i64 q] 47)).alloc (.cells #[.int .i64 r, .int .i64 s] 47) := ⟨_, rfl⟩
    have bV : Below w4.heap.size w4 V := by rw [hV]; go_grown
    have S1 : Hid (SReads V (.slice (some ⟨w4.heap.size, 0, none⟩) 1 1) [(p, q)]) := by rw [hV]; exact sreads_one ((XBox.new w4 p q _).below ((Below.refl _ _).alloc (by simp) _))
    have S2 : Hid (SReads V (.slice (some ⟨w4.heap.size + 1, 0, none⟩) 1 1) [(r, s)]) := by
      have := XBox.new (w4.alloc (.cells #[.int .i64 p, .int .i64 q] 47)) r s 47
      rw [World.size_alloc] at this
      rw [hV]
      exact sreads_one this
    have B : Hid (Below w.heap.size w V) := B.out.trans (bV.mono B.out.size)
    have HVV := hid hV
    clear bV hV
    go_wp2_with fail
    rw [← HVV.out]
    refine (MI.out _ _ _ S1.out S2.out).mono ?_
    rintro e w5 ⟨am, cm, rfl, b⟩
    have B : Hid (Below w.heap.size w w5) := B.out.trans (b.mono B.out.size)
    clear b x0 x1 y0 y1 X Y S1 S2 HVV HWW LI LS LO MI hxl hyl
    rcases (show v = 1 ∨ v = 2 ∨ v = 3 ∨ (4 ≤ v ∧ v ≤ 7) ∨ v = 8 ∨ v = 9 ∨ (10 ≤ v ∧ v ≤ 13) by omega) with hv | hv | hv | hv | hv | hv | hv
    · obtain rfl : v = 1 := hv
      have ho : o = 8 := by rw [← HO.out]; rfl
      subst ho
      have hm0 : ((ml : Int) == 0) = true := HML.out
      clear HO HML
      as_aux_lemma =>
        have CM := hid (HC1.out.after B.out)
        go_wp2_with fail
        refine (drawHas_any _ _ CM.out).mono ?_
        rintro e y1 ⟨v17, n, rfl, xs, hx, hr, b⟩
        have B : Hid (Below w.heap.size w y1) := B.out.trans (b.mono B.out.size)
        have R17 := hid hr
        clear b hr CM
        obtain ⟨hb, k2, HI, HS⟩ : ∃ hb k2 : Bool, Hid (∀ v w, SReads w v xs → Calls Tryd.prog 35 #[v, .int .i64 n] w fun e w' => e = .returned (.tuple #[.bool hb, .bool k2]) ∧ Below w.heap.size w w') ∧ Hid (∀ v w, SReads w v xs → Calls Tryd.prog 36 #[v, .int .i64 n] w fun e w' => e = .returned (.tuple #[.bool hb, .bool k2]) ∧ Below w.heap.size w w') := by
          cases hg : goodL xs with
          | false => exact ⟨false, false, fun v w h => ihasPoint_no v xs n w h hg, fun v w h => shasPoint_no v xs n w h hg⟩
          | true => exact ⟨_, true, fun v w h => ihasPoint_yes v xs n w h hg, fun v w h => shasPoint_yes v xs n w h hg⟩
        go_wp2_with fail
        refine (HI.out _ _ R17.out).mono ?_
        rintro e y2 ⟨rfl, b⟩
        replace R17 := hid (R17.out.below b)
        have B : Hid (Below w.heap.size w y2) := B.out.trans (b.mono B.out.size)
        clear b
        go_wp2_with fail
        refine (HS.out _ _ R17.out).mono ?_
        rintro e y3 ⟨rfl, b⟩
        have B : Hid (Below w.heap.size w y3) := B.out.trans (b.mono B.out.size)
        clear b R17 HI HS
        have CM := hid (HC1.out.after B.out)
        go_wp2_with fail
        refine (drawLength_any _ _ CM.out).mono ?_
        rintro e y4 ⟨v23, rfl, ys, hy, hr, b⟩
        have B : Hid (Below w.heap.size w y4) := B.out.trans (b.mono B.out.size)
        have R23 := hid hr
        clear b hr CM
        obtain ⟨ln, k3, LI, LS⟩ : ∃ (ln : Int) (k3 : Bool), Hid (∀ v w, SReads w v ys → Calls Tryd.prog 38 #[v] w fun e w' => e = .returned (.tuple #[.int .i64 ln, .bool k3]) ∧ Below w.heap.size w w') ∧ Hid (∀ v w, SReads w v ys → Calls Tryd.prog 39 #[v] w fun e w' => e = .returned (.tuple #[.int .i64 ln, .bool k3]) ∧ Below w.heap.size w w') := by
          cases hg : goodL ys with
          | false => exact ⟨0, false, fun v w h => ilengthOf_no v ys w h hg, fun v w h => slengthOf_no v ys w h hg⟩
          | true => exact ⟨_, true, fun v w h => ilengthOf_yes v ys w h hg, fun v w h => slengthOf_yes v ys w h hg⟩
        go_wp2_with fail
        refine (LI.out _ _ R23.out).mono ?_
        rintro e y5 ⟨rfl, b⟩
        replace R23 := hid (R23.out.below b)
        have B : Hid (Below w.heap.size w y5) := B.out.trans (b.mono B.out.size)
        clear b
        go_wp2_with fail
        refine (LS.out _ _ R23.out).mono ?_
        rintro e y6 ⟨rfl, b⟩
        have B : Hid (Below w.heap.size w y6) := B.out.trans (b.mono B.out.size)
        clear b R23 LI LS
        have d1 : (hb == hb) = true := by simp
        have d2 : (k2 == k2) = true := by simp
        have d3 : (k3 == k3) = true := by simp
        have d4 : (ln == ln) = true := by simp
        go_wp2
        go_ret
        exact ⟨rfl, B.out⟩
    · obtain rfl : v = 2 := hv
      have ho : o = 9 := by rw [← HO.out]; rfl
      subst ho
      have hm0 : ((ml : Int) == 0) = true := HML.out
      clear HO HML
      as_aux_lemma =>
        have CM := hid (HC1.out.after B.out)
        go_wp2_with fail
        refine (drawHas_any _ _ CM.out).mono ?_
        rintro e y1 ⟨v17, n, rfl, xs, hx, hr, b⟩
        have B : Hid (Below w.heap.size w y1) := B.out.trans (b.mono B.out.size)
        have R17 := hid hr
        clear b hr CM
        obtain ⟨hb, k2, HI, HS⟩ : ∃ hb k2 : Bool, Hid (∀ v w, SReads w v xs → Calls Tryd.prog 35 #[v, .int .i64 n] w fun e w' => e = .returned (.tuple #[.bool hb, .bool k2]) ∧ Below w.heap.size w w') ∧ Hid (∀ v w, SReads w v xs → Calls Tryd.prog 36 #[v, .int .i64 n] w fun e w' => e = .returned (.tuple #[.bool hb, .bool k2]) ∧ Below w.heap.size w w') := by
          cases hg : goodL xs with
          | false => exact ⟨false, false, fun v w h => ihasPoint_no v xs n w h hg, fun v w h => shasPoint_no v xs n w h hg⟩
          | true => exact ⟨_, true, fun v w h => ihasPoint_yes v xs n w h hg, fun v w h => shasPoint_yes v xs n w h hg⟩
        go_wp2_with fail
        refine (HI.out _ _ R17.out).mono ?_
        rintro e y2 ⟨rfl, b⟩
        replace R17 := hid (R17.out.below b)
        have B : Hid (Below w.heap.size w y2) := B.out.trans (b.mono B.out.size)
        clear b
        go_wp2_with fail
        refine (HS.out _ _ R17.out).mono ?_
        rintro e y3 ⟨rfl, b⟩
        have B : Hid (Below w.heap.size w y3) := B.out.trans (b.mono B.out.size)
        clear b R17 HI HS
        have CM := hid (HC1.out.after B.out)
        go_wp2_with fail
        refine (drawLength_any _ _ CM.out).mono ?_
        rintro e y4 ⟨v23, rfl, ys, hy, hr, b⟩
        have B : Hid (Below w.heap.size w y4) := B.out.trans (b.mono B.out.size)
        have R23 := hid hr
        clear b hr CM
        obtain ⟨ln, k3, LI, LS⟩ : ∃ (ln : Int) (k3 : Bool), Hid (∀ v w, SReads w v ys → Calls Tryd.prog 38 #[v] w fun e w' => e = .returned (.tuple #[.int .i64 ln, .bool k3]) ∧ Below w.heap.size w w') ∧ Hid (∀ v w, SReads w v ys → Calls Tryd.prog 39 #[v] w fun e w' => e = .returned (.tuple #[.int .i64 ln, .bool k3]) ∧ Below w.heap.size w w') := by
          cases hg : goodL ys with
          | false => exact ⟨0, false, fun v w h => ilengthOf_no v ys w h hg, fun v w h => slengthOf_no v ys w h hg⟩
          | true => exact ⟨_, true, fun v w h => ilengthOf_yes v ys w h hg, fun v w h => slengthOf_yes v ys w h hg⟩
        go_wp2_with fail
        refine (LI.out _ _ R23.out).mono ?_
        rintro e y5 ⟨rfl, b⟩
        replace R23 := hid (R23.out.below b)
        have B : Hid (Below w.heap.size w y5) := B.out.trans (b.mono B.out.size)
        clear b
        go_wp2_with fail
        refine (LS.out _ _ R23.out).mono ?_
        rintro e y6 ⟨rfl, b⟩
        have B : Hid (Below w.heap.size w y6) := B.out.trans (b.mono B.out.size)
        clear b R23 LI LS
        have d1 : (hb == hb) = true := by simp
        have d2 : (k2 == k2) = true := by simp
        have d3 : (k3 == k3) = true := by simp
        have d4 : (ln == ln) = true := by simp
        go_wp2
        go_ret
        exact ⟨rfl, B.out⟩
    · obtain rfl : v = 3 := hv
      have ho : o = 3 := by rw [← HO.out]; rfl
      subst ho
      have hm0 : ((ml : Int) == 0) = false := HML.out
      clear HO HML
      as_aux_lemma =>
        have CM := hid (HC1.out.after B.out)
        go_wp2_with fail
        refine (drawHas_any _ _ CM.out).mono ?_
        rintro e y1 ⟨v17, n, rfl, xs, hx, hr, b⟩
        have B : Hid (Below w.heap.size w y1) := B.out.trans (b.mono B.out.size)
        have R17 := hid hr
        clear b hr CM
        obtain ⟨hb, k2, HI, HS⟩ : ∃ hb k2 : Bool, Hid (∀ v w, SReads w v xs → Calls Tryd.prog 35 #[v, .int .i64 n] w fun e w' => e = .returned (.tuple #[.bool hb, .bool k2]) ∧ Below w.heap.size w w') ∧ Hid (∀ v w, SReads w v xs → Calls Tryd.prog 36 #[v, .int .i64 n] w fun e w' => e = .returned (.tuple #[.bool hb, .bool k2]) ∧ Below w.heap.size w w') := by
          cases hg : goodL xs with
          | false => exact ⟨false, false, fun v w h => ihasPoint_no v xs n w h hg, fun v w h => shasPoint_no v xs n w h hg⟩
          | true => exact ⟨_, true, fun v w h => ihasPoint_yes v xs n w h hg, fun v w h => shasPoint_yes v xs n w h hg⟩
        go_wp2_with fail
        refine (HI.out _ _ R17.out).mono ?_
        rintro e y2 ⟨rfl, b⟩
        replace R17 := hid (R17.out.below b)
        have B : Hid (Below w.heap.size w y2) := B.out.trans (b.mono B.out.size)
        clear b
        go_wp2_with fail
        refine (HS.out _ _ R17.out).mono ?_
        rintro e y3 ⟨rfl, b⟩
        have B : Hid (Below w.heap.size w y3) := B.out.trans (b.mono B.out.size)
        clear b R17 HI HS
        have CM := hid (HC1.out.after B.out)
        go_wp2_with fail
        refine (drawLength_any _ _ CM.out).mono ?_
        rintro e y4 ⟨v23, rfl, ys, hy, hr, b⟩
        have B : Hid (Below w.heap.size w y4) := B.out.trans (b.mono B.out.size)
        have R23 := hid hr
        clear b hr CM
        obtain ⟨ln, k3, LI, LS⟩ : ∃ (ln : Int) (k3 : Bool), Hid (∀ v w, SReads w v ys → Calls Tryd.prog 38 #[v] w fun e w' => e = .returned (.tuple #[.int .i64 ln, .bool k3]) ∧ Below w.heap.size w w') ∧ Hid (∀ v w, SReads w v ys → Calls Tryd.prog 39 #[v] w fun e w' => e = .returned (.tuple #[.int .i64 ln, .bool k3]) ∧ Below w.heap.size w w') := by
          cases hg : goodL ys with
          | false => exact ⟨0, false, fun v w h => ilengthOf_no v ys w h hg, fun v w h => slengthOf_no v ys w h hg⟩
          | true => exact ⟨_, true, fun v w h => ilengthOf_yes v ys w h hg, fun v w h => slengthOf_yes v ys w h hg⟩
        go_wp2_with fail
        refine (LI.out _ _ R23.out).mono ?_
        rintro e y5 ⟨rfl, b⟩
        replace R23 := hid (R23.out.below b)
        have B : Hid (Below w.heap.size w y5) := B.out.trans (b.mono B.out.size)
        clear b
        go_wp2_with fail
        refine (LS.out _ _ R23.out).mono ?_
        rintro e y6 ⟨rfl, b⟩
        have B : Hid (Below w.heap.size w y6) := B.out.trans (b.mono B.out.size)
        clear b R23 LI LS
        have d1 : (hb == hb) = true := by simp
        have d2 : (k2 == k2) = true := by simp
        have d3 : (k3 == k3) = true := by simp
        have d4 : (ln == ln) = true := by simp
        go_wp2
        go_ret
        exact ⟨rfl, B.out⟩
    · have ho : o = v + 6 := by rw [← HO.out]; unfold otherWay; rw [if_neg (by omega), if_neg (by omega), if_pos (by omega)]
      have hm0 : ((ml : Int) == 0) = false := by rw [HML.out]; unfold apartB; rw [decide_eq_false (p := v = 1) (by omega), decide_eq_false (p := v = 2) (by omega), decide_eq_false (p := v = 8) (by omega), decide_eq_false (p := v = 9) (by omega)]; rfl
      have hw1 : IntKind.i64.wrap (v + 6) = v + 6 := by rw [IntKind.wrap_i64]; omega
      have e1 : (v == 1) = false := by rw [beq_eq_false_iff_ne]; omega
      have e2 : (v == 2) = false := by rw [beq_eq_false_iff_ne]; omega
      have e3 : (v == 3) = false := by rw [beq_eq_false_iff_ne]; omega
      have e8 : (v == 8) = false := by rw [beq_eq_false_iff_ne]; omega
      have e9 : (v == 9) = false := by rw [beq_eq_false_iff_ne]; omega
      have f3 : decide (v < 3) = false := by simp; omega
      have f8 : decide (v < 8) = true := by simp; omega
      have f10 : decide (v < 10) = true := by simp; omega
      have f1 : decide (v < 1) = false := by simp; omega
      have f13 : decide (13 < v) = false := by simp; omega
      have g : (o != v + 6) = false := by rw [ho]; simp
      rw [ho] at g
      subst ho
      clear HO HML hv
      as_aux_lemma =>
        have CM := hid (HC1.out.after B.out)
        go_wp2_with fail
        refine (drawHas_any _ _ CM.out).mono ?_
        rintro e y1 ⟨v17, n, rfl, xs, hx, hr, b⟩
        have B : Hid (Below w.heap.size w y1) := B.out.trans (b.mono B.out.size)
        have R17 := hid hr
        clear b hr CM
        obtain ⟨hb, k2, HI, HS⟩ : ∃ hb k2 : Bool, Hid (∀ v w, SReads w v xs → Calls Tryd.prog 35 #[v, .int .i64 n] w fun e w' => e = .returned (.tuple #[.bool hb, .bool k2]) ∧ Below w.heap.size w w') ∧ Hid (∀ v w, SReads w v xs → Calls Tryd.prog 36 #[v, .int .i64 n] w fun e w' => e = .returned (.tuple #[.bool hb, .bool k2]) ∧ Below w.heap.size w w') := by
          cases hg : goodL xs with
          | false => exact ⟨false, false, fun v w h => ihasPoint_no v xs n w h hg, fun v w h => shasPoint_no v xs n w h hg⟩
          | true => exact ⟨_, true, fun v w h => ihasPoint_yes v xs n w h hg, fun v w h => shasPoint_yes v xs n w h hg⟩
        go_wp2_with fail
        refine (HI.out _ _ R17.out).mono ?_
        rintro e y2 ⟨rfl, b⟩
        replace R17 := hid (R17.out.below b)
        have B : Hid (Below w.heap.size w y2) := B.out.trans (b.mono B.out.size)
        clear b
        go_wp2_with fail
        refine (HS.out _ _ R17.out).mono ?_
        rintro e y3 ⟨rfl, b⟩
        have B : Hid (Below w.heap.size w y3) := B.out.trans (b.mono B.out.size)
        clear b R17 HI HS
        have CM := hid (HC1.out.after B.out)
        go_wp2_with fail
        refine (drawLength_any _ _ CM.out).mono ?_
        rintro e y4 ⟨v23, rfl, ys, hy, hr, b⟩
        have B : Hid (Below w.heap.size w y4) := B.out.trans (b.mono B.out.size)
        have R23 := hid hr
        clear b hr CM
        obtain ⟨ln, k3, LI, LS⟩ : ∃ (ln : Int) (k3 : Bool), Hid (∀ v w, SReads w v ys → Calls Tryd.prog 38 #[v] w fun e w' => e = .returned (.tuple #[.int .i64 ln, .bool k3]) ∧ Below w.heap.size w w') ∧ Hid (∀ v w, SReads w v ys → Calls Tryd.prog 39 #[v] w fun e w' => e = .returned (.tuple #[.int .i64 ln, .bool k3]) ∧ Below w.heap.size w w') := by
          cases hg : goodL ys with
          | false => exact ⟨0, false, fun v w h => ilengthOf_no v ys w h hg, fun v w h => slengthOf_no v ys w h hg⟩
          | true => exact ⟨_, true, fun v w h => ilengthOf_yes v ys w h hg, fun v w h => slengthOf_yes v ys w h hg⟩
        go_wp2_with fail
        refine (LI.out _ _ R23.out).mono ?_
        rintro e y5 ⟨rfl, b⟩
        replace R23 := hid (R23.out.below b)
        have B : Hid (Below w.heap.size w y5) := B.out.trans (b.mono B.out.size)
        clear b
        go_wp2_with fail
        refine (LS.out _ _ R23.out).mono ?_
        rintro e y6 ⟨rfl, b⟩
        have B : Hid (Below w.heap.size w y6) := B.out.trans (b.mono B.out.size)
        clear b R23 LI LS
        have d1 : (hb == hb) = true := by simp
        have d2 : (k2 == k2) = true := by simp
        have d3 : (k3 == k3) = true := by simp
        have d4 : (ln == ln) = true := by simp
        go_wp2
        go_ret
        exact ⟨rfl, B.out⟩
    · obtain rfl : v = 8 := hv
      have ho : o = 1 := by rw [← HO.out]; rfl
      subst ho
      have hm0 : ((ml : Int) == 0) = true := HML.out
      clear HO HML
      as_aux_lemma =>
        have CM := hid (HC1.out.after B.out)
        go_wp2_with fail
        refine (drawHas_any _ _ CM.out).mono ?_
        rintro e y1 ⟨v17, n, rfl, xs, hx, hr, b⟩
        have B : Hid (Below w.heap.size w y1) := B.out.trans (b.mono B.out.size)
        have R17 := hid hr
        clear b hr CM
        obtain ⟨hb, k2, HI, HS⟩ : ∃ hb k2 : Bool, Hid (∀ v w, SReads w v xs → Calls Tryd.prog 35 #[v, .int .i64 n] w fun e w' => e = .returned (.tuple #[.bool hb, .bool k2]) ∧ Below w.heap.size w w') ∧ Hid (∀ v w, SReads w v xs → Calls Tryd.prog 36 #[v, .int .i64 n] w fun e w' => e = .returned (.tuple #[.bool hb, .bool k2]) ∧ Below w.heap.size w w') := by
          cases hg : goodL xs with
          | false => exact ⟨false, false, fun v w h => ihasPoint_no v xs n w h hg, fun v w h => shasPoint_no v xs n w h hg⟩
          | true => exact ⟨_, true, fun v w h => ihasPoint_yes v xs n w h hg, fun v w h => shasPoint_yes v xs n w h hg⟩
        go_wp2_with fail
        refine (HI.out _ _ R17.out).mono ?_
        rintro e y2 ⟨rfl, b⟩
        replace R17 := hid (R17.out.below b)
        have B : Hid (Below w.heap.size w y2) := B.out.trans (b.mono B.out.size)
        clear b
        go_wp2_with fail
        refine (HS.out _ _ R17.out).mono ?_
        rintro e y3 ⟨rfl, b⟩
        have B : Hid (Below w.heap.size w y3) := B.out.trans (b.mono B.out.size)
        clear b R17 HI HS
        have CM := hid (HC1.out.after B.out)
        go_wp2_with fail
        refine (drawLength_any _ _ CM.out).mono ?_
        rintro e y4 ⟨v23, rfl, ys, hy, hr, b⟩
        have B : Hid (Below w.heap.size w y4) := B.out.trans (b.mono B.out.size)
        have R23 := hid hr
        clear b hr CM
        obtain ⟨ln, k3, LI, LS⟩ : ∃ (ln : Int) (k3 : Bool), Hid (∀ v w, SReads w v ys → Calls Tryd.prog 38 #[v] w fun e w' => e = .returned (.tuple #[.int .i64 ln, .bool k3]) ∧ Below w.heap.size w w') ∧ Hid (∀ v w, SReads w v ys → Calls Tryd.prog 39 #[v] w fun e w' => e = .returned (.tuple #[.int .i64 ln, .bool k3]) ∧ Below w.heap.size w w') := by
          cases hg : goodL ys with
          | false => exact ⟨0, false, fun v w h => ilengthOf_no v ys w h hg, fun v w h => slengthOf_no v ys w h hg⟩
          | true => exact ⟨_, true, fun v w h => ilengthOf_yes v ys w h hg, fun v w h => slengthOf_yes v ys w h hg⟩
        go_wp2_with fail
        refine (LI.out _ _ R23.out).mono ?_
        rintro e y5 ⟨rfl, b⟩
        replace R23 := hid (R23.out.below b)
        have B : Hid (Below w.heap.size w y5) := B.out.trans (b.mono B.out.size)
        clear b
        go_wp2_with fail
        refine (LS.out _ _ R23.out).mono ?_
        rintro e y6 ⟨rfl, b⟩
        have B : Hid (Below w.heap.size w y6) := B.out.trans (b.mono B.out.size)
        clear b R23 LI LS
        have d1 : (hb == hb) = true := by simp
        have d2 : (k2 == k2) = true := by simp
        have d3 : (k3 == k3) = true := by simp
        have d4 : (ln == ln) = true := by simp
        go_wp2
        go_ret
        exact ⟨rfl, B.out⟩
    · obtain rfl : v = 9 := hv
      have ho : o = 2 := by rw [← HO.out]; rfl
      subst ho
      have hm0 : ((ml : Int) == 0) = true := HML.out
      clear HO HML
      as_aux_lemma =>
        have CM := hid (HC1.out.after B.out)
        go_wp2_with fail
        refine (drawHas_any _ _ CM.out).mono ?_
        rintro e y1 ⟨v17, n, rfl, xs, hx, hr, b⟩
        have B : Hid (Below w.heap.size w y1) := B.out.trans (b.mono B.out.size)
        have R17 := hid hr
        clear b hr CM
        obtain ⟨hb, k2, HI, HS⟩ : ∃ hb k2 : Bool, Hid (∀ v w, SReads w v xs → Calls Tryd.prog 35 #[v, .int .i64 n] w fun e w' => e = .returned (.tuple #[.bool hb, .bool k2]) ∧ Below w.heap.size w w') ∧ Hid (∀ v w, SReads w v xs → Calls Tryd.prog 36 #[v, .int .i64 n] w fun e w' => e = .returned (.tuple #[.bool hb, .bool k2]) ∧ Below w.heap.size w w') := by
          cases hg : goodL xs with
          | false => exact ⟨false, false, fun v w h => ihasPoint_no v xs n w h hg, fun v w h => shasPoint_no v xs n w h hg⟩
          | true => exact ⟨_, true, fun v w h => ihasPoint_yes v xs n w h hg, fun v w h => shasPoint_yes v xs n w h hg⟩
        go_wp2_with fail
        refine (HI.out _ _ R17.out).mono ?_
        rintro e y2 ⟨rfl, b⟩
        replace R17 := hid (R17.out.below b)
        have B : Hid (Below w.heap.size w y2) := B.out.trans (b.mono B.out.size)
        clear b
        go_wp2_with fail
        refine (HS.out _ _ R17.out).mono ?_
        rintro e y3 ⟨rfl, b⟩
        have B : Hid (Below w.heap.size w y3) := B.out.trans (b.mono B.out.size)
        clear b R17 HI HS
        have CM := hid (HC1.out.after B.out)
        go_wp2_with fail
        refine (drawLength_any _ _ CM.out).mono ?_
        rintro e y4 ⟨v23, rfl, ys, hy, hr, b⟩
        have B : Hid (Below w.heap.size w y4) := B.out.trans (b.mono B.out.size)
        have R23 := hid hr
        clear b hr CM
        obtain ⟨ln, k3, LI, LS⟩ : ∃ (ln : Int) (k3 : Bool), Hid (∀ v w, SReads w v ys → Calls Tryd.prog 38 #[v] w fun e w' => e = .returned (.tuple #[.int .i64 ln, .bool k3]) ∧ Below w.heap.size w w') ∧ Hid (∀ v w, SReads w v ys → Calls Tryd.prog 39 #[v] w fun e w' => e = .returned (.tuple #[.int .i64 ln, .bool k3]) ∧ Below w.heap.size w w') := by
          cases hg : goodL ys with
          | false => exact ⟨0, false, fun v w h => ilengthOf_no v ys w h hg, fun v w h => slengthOf_no v ys w h hg⟩
          | true => exact ⟨_, true, fun v w h => ilengthOf_yes v ys w h hg, fun v w h => slengthOf_yes v ys w h hg⟩
        go_wp2_with fail
        refine (LI.out _ _ R23.out).mono ?_
        rintro e y5 ⟨rfl, b⟩
        replace R23 := hid (R23.out.below b)
        have B : Hid (Below w.heap.size w y5) := B.out.trans (b.mono B.out.size)
        clear b
        go_wp2_with fail
        refine (LS.out _ _ R23.out).mono ?_
        rintro e y6 ⟨rfl, b⟩
        have B : Hid (Below w.heap.size w y6) := B.out.trans (b.mono B.out.size)
        clear b R23 LI LS
        have d1 : (hb == hb) = true := by simp
        have d2 : (k2 == k2) = true := by simp
        have d3 : (k3 == k3) = true := by simp
        have d4 : (ln == ln) = true := by simp
        go_wp2
        go_ret
        exact ⟨rfl, B.out⟩
    · have ho : o = v - 6 := by rw [← HO.out]; unfold otherWay; rw [if_neg (by omega), if_neg (by omega), if_neg (by omega), if_neg (by omega)]
      have hm0 : ((ml : Int) == 0) = false := by rw [HML.out]; unfold apartB; rw [decide_eq_false (p := v = 1) (by omega), decide_eq_false (p := v = 2) (by omega), decide_eq_false (p := v = 8) (by omega), decide_eq_false (p := v = 9) (by omega)]; rfl
      have hw1 : IntKind.i64.wrap (v - 6) = v - 6 := by rw [IntKind.wrap_i64]; omega
      have e1 : (v == 1) = false := by rw [beq_eq_false_iff_ne]; omega
      have e2 : (v == 2) = false := by rw [beq_eq_false_iff_ne]; omega
      have e3 : (v == 3) = false := by rw [beq_eq_false_iff_ne]; omega
      have e8 : (v == 8) = false := by rw [beq_eq_false_iff_ne]; omega
      have e9 : (v == 9) = false := by rw [beq_eq_false_iff_ne]; omega
      have f3 : decide (v < 3) = false := by simp; omega
      have f8 : decide (v < 8) = false := by simp; omega
      have f10 : decide (v < 10) = false := by simp; omega
      have f1 : decide (v < 1) = false := by simp; omega
      have f13 : decide (13 < v) = false := by simp; omega
      have g : (o != v - 6) = false := by rw [ho]; simp
      rw [ho] at g
      subst ho
      clear HO HML hv
      as_aux_lemma =>
        have CM := hid (HC1.out.after B.out)
        go_wp2_with fail
        refine (drawHas_any _ _ CM.out).mono ?_
        rintro e y1 ⟨v17, n, rfl, xs, hx, hr, b⟩
        have B : Hid (Below w.heap.size w y1) := B.out.trans (b.mono B.out.size)
        have R17 := hid hr
        clear b hr CM
        obtain ⟨hb, k2, HI, HS⟩ : ∃ hb k2 : Bool, Hid (∀ v w, SReads w v xs → Calls Tryd.prog 35 #[v, .int .i64 n] w fun e w' => e = .returned (.tuple #[.bool hb, .bool k2]) ∧ Below w.heap.size w w') ∧ Hid (∀ v w, SReads w v xs → Calls Tryd.prog 36 #[v, .int .i64 n] w fun e w' => e = .returned (.tuple #[.bool hb, .bool k2]) ∧ Below w.heap.size w w') := by
          cases hg : goodL xs with
          | false => exact ⟨false, false, fun v w h => ihasPoint_no v xs n w h hg, fun v w h => shasPoint_no v xs n w h hg⟩
          | true => exact ⟨_, true, fun v w h => ihasPoint_yes v xs n w h hg, fun v w h => shasPoint_yes v xs n w h hg⟩
        go_wp2_with fail
        refine (HI.out _ _ R17.out).mono ?_
        rintro e y2 ⟨rfl, b⟩
        replace R17 := hid (R17.out.below b)
        have B : Hid (Below w.heap.size w y2) := B.out.trans (b.mono B.out.size)
        clear b
        go_wp2_with fail
        refine (HS.out _ _ R17.out).mono ?_
        rintro e y3 ⟨rfl, b⟩
        have B : Hid (Below w.heap.size w y3) := B.out.trans (b.mono B.out.size)
        clear b R17 HI HS
        have CM := hid (HC1.out.after B.out)
        go_wp2_with fail
        refine (drawLength_any _ _ CM.out).mono ?_
        rintro e y4 ⟨v23, rfl, ys, hy, hr, b⟩
        have B : Hid (Below w.heap.size w y4) := B.out.trans (b.mono B.out.size)
        have R23 := hid hr
        clear b hr CM
        obtain ⟨ln, k3, LI, LS⟩ : ∃ (ln : Int) (k3 : Bool), Hid (∀ v w, SReads w v ys → Calls Tryd.prog 38 #[v] w fun e w' => e = .returned (.tuple #[.int .i64 ln, .bool k3]) ∧ Below w.heap.size w w') ∧ Hid (∀ v w, SReads w v ys → Calls Tryd.prog 39 #[v] w fun e w' => e = .returned (.tuple #[.int .i64 ln, .bool k3]) ∧ Below w.heap.size w w') := by
          cases hg : goodL ys with
          | false => exact ⟨0, false, fun v w h => ilengthOf_no v ys w h hg, fun v w h => slengthOf_no v ys w h hg⟩
          | true => exact ⟨_, true, fun v w h => ilengthOf_yes v ys w h hg, fun v w h => slengthOf_yes v ys w h hg⟩
        go_wp2_with fail
        refine (LI.out _ _ R23.out).mono ?_
        rintro e y5 ⟨rfl, b⟩
        replace R23 := hid (R23.out.below b)
        have B : Hid (Below w.heap.size w y5) := B.out.trans (b.mono B.out.size)
        clear b
        go_wp2_with fail
        refine (LS.out _ _ R23.out).mono ?_
        rintro e y6 ⟨rfl, b⟩
        have B : Hid (Below w.heap.size w y6) := B.out.trans (b.mono B.out.size)
        clear b R23 LI LS
        have d1 : (hb == hb) = true := by simp
        have d2 : (k2 == k2) = true := by simp
        have d3 : (k3 == k3) = true := by simp
        have d4 : (ln == ln) = true := by simp
        go_wp2
        go_ret
        exact ⟨rfl, B.out⟩
end Go.Proofs.YtobkockikpgcoaaDoor
