/-
  The law FnDelays answers true at all bytes, where impl's functions tell what they should.
-/
import Derived.Test.YtcieefggijjekacCon7
import Derived.Test.YtcieefggijjekacDelayMath
import Derived.Test.YtcieefggijjekacDrawShape
import Derived.Test.YtcieefggijjekacDrawConf
import Derived.Test.YtcieefggijjekacDrawWorst
import Derived.Test.YtcieefggijjekacSameInts
import Derived.Test.YtcieefggijjekacNumOf
import Derived.Test.YtcieefggijjekacCodeRow
import Derived.Test.YtcieefggijjekacSConf
import Derived.Test.YtcieefggijjekacSWorst
namespace Go.Proofs.Ytcieefggijjekac
open Go.RowKit

theorem code_after9 {w w' : World} {v : Value} (h : CodeOk w.heap.size w v) (hb : Below w.heap.size w w') : CodeOk w'.heap.size w' v := by
  obtain ⟨a, len, cap, rfl, hlen, hx⟩ := h
  refine ⟨a, len, cap, rfl, hlen, ?_⟩
  rcases hx with hx | ⟨cb, off, rfl, hlt, hc⟩
  · exact .inl hx
  · exact .inr ⟨cb, off, rfl, Nat.lt_of_lt_of_le hlt hb.size, fun i hi => by
      obtain ⟨x, hx, hc⟩ := hc i hi
      exact ⟨x, hx, (hb.cell (p := ⟨cb, off + i, none⟩) hlt).trans hc⟩⟩
theorem sworst_any : WorstTells 29 := fun v u xs ys w hr hs => by
  by_cases h : flowB xs = true ∧ outB ys = true ∧ ys.length = xs.length
  · exact sworst_yes v u xs ys w hr hs h.1 h.2.1 h.2.2
  · have hn : (flowB xs && outB ys && decide (ys.length = xs.length)) = false := by
      rw [← Bool.not_eq_true, Bool.and_eq_true, Bool.and_eq_true, decide_eq_true_eq]
      exact fun hh => h ⟨hh.1.1, hh.1.2, hh.2⟩
    have hd : delF xs ys = false := by
      show ((flowB xs && outB ys && decide (ys.length = xs.length)) && goneF xs ys) = false
      rw [hn]
      rfl
    have hg : delG xs ys = 0 := by unfold delG; rw [hd]; rfl
    rw [hd, hg]
    exact sworst_no v u xs ys w hr hs hn
set_option maxRecDepth 100000 in
set_option maxHeartbeats 60000000 in
theorem FnDelays_law (a0 : Option Addr) (len0 cap0 : Nat) (z0 : List Int) (a1 : Option Addr) (len1 cap1 : Nat) (z1 : List Int) (w : World) (h0 : IsRow .u8 w a0 len0 cap0 z0) (h1 : IsRow .u8 w a1 len1 cap1 z1) (b0 : cap0 * 1 ≤ 140737488351232) (b1 : cap1 * 1 ≤ 140737488351232)
    (TC : ConfTells 8) (TP : PassTells 24) (TW : WorstTells 25) :
    Calls Try.prog 4 #[.slice a0 len0 cap0, .slice a1 len1 cap1] w fun e w' => e = .returned (.bool true) ∧ Below w.heap.size w w' := by
  have l0 : len0 ≤ cap0 := by rcases h0 with ⟨_, rfl, rfl, _⟩ | ⟨x, _, h, _⟩ <;> omega
  have l1 : len1 ≤ cap1 := by rcases h1 with ⟨_, rfl, rfl, _⟩ | ⟨x, _, h, _⟩ <;> omega
  by_cases hbig : (1048576 : Int) < (len0 : Int) + (len1 : Int)
  · clear h0 h1
    go_enter Try.func4, Try.ntmps4
    go_wp2
    go_ret
    exact ⟨rfl, Below.refl _ _⟩
  have HC0 := hid (code_of_row h0 (by omega))
  have HC1 := hid (code_of_row h1 (by omega))
  have HTC := hid TC
  have HTP := hid TP
  have HTW := hid TW
  clear h0 h1 TC TP TW
  go_enter Try.func4, Try.ntmps4
  go_wp2_with fail
  refine (drawConf_any _ _ HC0.out).mono ?_
  rintro e w1 ⟨r, d, u0, rfl, xs, hxs, o, b⟩
  have RT := hid o.reads
  have B := hid b
  clear o b
  by_cases hn : (rateB r d && flowB xs) = false
  · have HN := hid hn
    clear hn
    go_wp2_with fail
    refine (HTC.out.no r d _ xs _ RT.out HN.out).mono ?_
    rintro e w2 ⟨rfl, b⟩
    replace RT := hid (RT.out.below b)
    replace B : Hid (Below w.heap.size w w2) := B.out.trans (b.mono B.out.size)
    clear b
    go_wp2_with fail
    refine (sconf_no r d _ xs _ RT.out HN.out).mono ?_
    rintro e w3 ⟨rfl, b⟩
    replace RT := hid (RT.out.below b)
    replace B : Hid (Below w.heap.size w w3) := B.out.trans (b.mono B.out.size)
    clear b
    clear RT
    go_wp2_with fail
    refine (drawPass_any _ _ (code_after9 HC1.out B.out)).mono ?_
    rintro e w4 ⟨up, s2, rfl, x2, hx2, o, b⟩
    have RP := hid o.reads
    replace B : Hid (Below w.heap.size w w4) := B.out.trans (b.mono B.out.size)
    clear o b
    by_cases hp : passF x2 s2 = false
    · have HP := hid hp
      clear hp
      go_wp2_with fail
      refine (HTP.out.no _ x2 s2 _ RP.out HP.out).mono ?_
      rintro e w5 ⟨uRO, uRW, rfl, oa, ob, _, b⟩
      replace RP := hid (RP.out.below b)
      have RO := hid oa.reads
      have RW := hid ob.reads
      clear oa ob
      replace B : Hid (Below w.heap.size w w5) := B.out.trans (b.mono B.out.size)
      clear b
      go_wp2_with fail
      refine (spass_no _ x2 s2 _ RP.out HP.out).mono ?_
      rintro e w6 ⟨uRS, uRV, rfl, oa, ob, _, b⟩
      replace RP := hid (RP.out.below b)
      replace RO := hid (RO.out.below b)
      replace RW := hid (RW.out.below b)
      have RS := hid oa.reads
      have RV := hid ob.reads
      clear oa ob
      replace B : Hid (Below w.heap.size w w6) := B.out.trans (b.mono B.out.size)
      clear b
      go_wp2_with fail
      refine (drawWorst_any _ _ (code_after9 HC1.out B.out)).mono ?_
      rintro e w7 ⟨ux, uy, rfl, x3, y3, _, oa, ob, b⟩
      replace RP := hid (RP.out.below b)
      replace RO := hid (RO.out.below b)
      replace RW := hid (RW.out.below b)
      replace RS := hid (RS.out.below b)
      replace RV := hid (RV.out.below b)
      have RX := hid oa.reads
      have RY := hid ob.reads
      replace B : Hid (Below w.heap.size w w7) := B.out.trans (b.mono B.out.size)
      clear oa ob b
      obtain ⟨dn, hdn⟩ : ∃ dn, dn = delG x3 y3 := ⟨_, rfl⟩
      obtain ⟨db, hdb⟩ : ∃ db, db = delF x3 y3 := ⟨_, rfl⟩
      have K8 : Hid (∀ v u w, KReads w v x3 → KReads w u y3 → Calls Try.prog 25 #[v, u] w fun e w' => e = .returned (.tuple #[.int .i64 dn, .bool db]) ∧ Below w.heap.size w w') := fun v u w h1 h2 => by rw [hdn, hdb]; exact HTW.out v u x3 y3 w h1 h2
      have K9 : Hid (∀ v u w, KReads w v x3 → KReads w u y3 → Calls Try.prog 29 #[v, u] w fun e w' => e = .returned (.tuple #[.int .i64 dn, .bool db]) ∧ Below w.heap.size w w') := fun v u w h1 h2 => by rw [hdn, hdb]; exact sworst_any v u x3 y3 w h1 h2
      have e1 : (dn == dn) = true := by simp
      have e2 : (db == db) = true := by simp
      clear hdn hdb
      go_wp2_with fail
      refine (K8.out _ _ _ RX.out RY.out).mono ?_
      rintro e w8 ⟨rfl, b⟩
      replace RP := hid (RP.out.below b)
      replace RO := hid (RO.out.below b)
      replace RW := hid (RW.out.below b)
      replace RS := hid (RS.out.below b)
      replace RV := hid (RV.out.below b)
      replace RX := hid (RX.out.below b)
      replace RY := hid (RY.out.below b)
      replace B : Hid (Below w.heap.size w w8) := B.out.trans (b.mono B.out.size)
      clear b
      go_wp2_with fail
      refine (K9.out _ _ _ RX.out RY.out).mono ?_
      rintro e w9 ⟨rfl, b⟩
      replace RP := hid (RP.out.below b)
      replace RO := hid (RO.out.below b)
      replace RW := hid (RW.out.below b)
      replace RS := hid (RS.out.below b)
      replace RV := hid (RV.out.below b)
      replace RX := hid (RX.out.below b)
      replace RY := hid (RY.out.below b)
      replace B : Hid (Below w.heap.size w w9) := B.out.trans (b.mono B.out.size)
      clear b
      go_wp2_with fail
      refine (sameInts_same _ _ _ _ RO.out.r RS.out.r).mono ?_
      rintro e w10 ⟨rfl, b⟩
      replace RP := hid (RP.out.below b)
      replace RO := hid (RO.out.below b)
      replace RW := hid (RW.out.below b)
      replace RS := hid (RS.out.below b)
      replace RV := hid (RV.out.below b)
      replace RX := hid (RX.out.below b)
      replace RY := hid (RY.out.below b)
      replace B : Hid (Below w.heap.size w w10) := B.out.trans (b.mono B.out.size)
      clear b
      go_wp2_with fail
      refine (sameInts_same _ _ _ _ RW.out.r RV.out.r).mono ?_
      rintro e w11 ⟨rfl, b⟩
      replace RP := hid (RP.out.below b)
      replace RO := hid (RO.out.below b)
      replace RW := hid (RW.out.below b)
      replace RS := hid (RS.out.below b)
      replace RV := hid (RV.out.below b)
      replace RX := hid (RX.out.below b)
      replace RY := hid (RY.out.below b)
      replace B : Hid (Below w.heap.size w w11) := B.out.trans (b.mono B.out.size)
      clear b
      go_wp2
      go_ret
      exact ⟨by first | rfl | simp, B.out⟩
    · obtain ⟨g1, g2, g3⟩ : flowB x2 = true ∧ 1 ≤ s2 ∧ s2 ≤ 60 := by
        have : passF x2 s2 = true := by simpa using hp
        unfold passF at this
        rw [Bool.and_eq_true, decide_eq_true_eq] at this
        exact this
      have HP := hid g1
      clear hp g1
      go_wp2_with fail
      refine (HTP.out.yes _ x2 s2 _ RP.out HP.out g2 g3).mono ?_
      rintro e w5 ⟨uRO, uRW, rfl, oa, ob, _, b⟩
      replace RP := hid (RP.out.below b)
      have RO := hid oa.reads
      have RW := hid ob.reads
      clear oa ob
      replace B : Hid (Below w.heap.size w w5) := B.out.trans (b.mono B.out.size)
      clear b
      go_wp2_with fail
      refine (spass_yes _ x2 s2 _ RP.out HP.out g2 g3).mono ?_
      rintro e w6 ⟨uRS, uRV, rfl, oa, ob, _, b⟩
      replace RP := hid (RP.out.below b)
      replace RO := hid (RO.out.below b)
      replace RW := hid (RW.out.below b)
      have RS := hid oa.reads
      have RV := hid ob.reads
      clear oa ob
      replace B : Hid (Below w.heap.size w w6) := B.out.trans (b.mono B.out.size)
      clear b
      go_wp2_with fail
      refine (drawWorst_any _ _ (code_after9 HC1.out B.out)).mono ?_
      rintro e w7 ⟨ux, uy, rfl, x3, y3, _, oa, ob, b⟩
      replace RP := hid (RP.out.below b)
      replace RO := hid (RO.out.below b)
      replace RW := hid (RW.out.below b)
      replace RS := hid (RS.out.below b)
      replace RV := hid (RV.out.below b)
      have RX := hid oa.reads
      have RY := hid ob.reads
      replace B : Hid (Below w.heap.size w w7) := B.out.trans (b.mono B.out.size)
      clear oa ob b
      obtain ⟨dn, hdn⟩ : ∃ dn, dn = delG x3 y3 := ⟨_, rfl⟩
      obtain ⟨db, hdb⟩ : ∃ db, db = delF x3 y3 := ⟨_, rfl⟩
      have K8 : Hid (∀ v u w, KReads w v x3 → KReads w u y3 → Calls Try.prog 25 #[v, u] w fun e w' => e = .returned (.tuple #[.int .i64 dn, .bool db]) ∧ Below w.heap.size w w') := fun v u w h1 h2 => by rw [hdn, hdb]; exact HTW.out v u x3 y3 w h1 h2
      have K9 : Hid (∀ v u w, KReads w v x3 → KReads w u y3 → Calls Try.prog 29 #[v, u] w fun e w' => e = .returned (.tuple #[.int .i64 dn, .bool db]) ∧ Below w.heap.size w w') := fun v u w h1 h2 => by rw [hdn, hdb]; exact sworst_any v u x3 y3 w h1 h2
      have e1 : (dn == dn) = true := by simp
      have e2 : (db == db) = true := by simp
      clear hdn hdb
      go_wp2_with fail
      refine (K8.out _ _ _ RX.out RY.out).mono ?_
      rintro e w8 ⟨rfl, b⟩
      replace RP := hid (RP.out.below b)
      replace RO := hid (RO.out.below b)
      replace RW := hid (RW.out.below b)
      replace RS := hid (RS.out.below b)
      replace RV := hid (RV.out.below b)
      replace RX := hid (RX.out.below b)
      replace RY := hid (RY.out.below b)
      replace B : Hid (Below w.heap.size w w8) := B.out.trans (b.mono B.out.size)
      clear b
      go_wp2_with fail
      refine (K9.out _ _ _ RX.out RY.out).mono ?_
      rintro e w9 ⟨rfl, b⟩
      replace RP := hid (RP.out.below b)
      replace RO := hid (RO.out.below b)
      replace RW := hid (RW.out.below b)
      replace RS := hid (RS.out.below b)
      replace RV := hid (RV.out.below b)
      replace RX := hid (RX.out.below b)
      replace RY := hid (RY.out.below b)
      replace B : Hid (Below w.heap.size w w9) := B.out.trans (b.mono B.out.size)
      clear b
      go_wp2_with fail
      refine (sameInts_same _ _ _ _ RO.out.r RS.out.r).mono ?_
      rintro e w10 ⟨rfl, b⟩
      replace RP := hid (RP.out.below b)
      replace RO := hid (RO.out.below b)
      replace RW := hid (RW.out.below b)
      replace RS := hid (RS.out.below b)
      replace RV := hid (RV.out.below b)
      replace RX := hid (RX.out.below b)
      replace RY := hid (RY.out.below b)
      replace B : Hid (Below w.heap.size w w10) := B.out.trans (b.mono B.out.size)
      clear b
      go_wp2_with fail
      refine (sameInts_same _ _ _ _ RW.out.r RV.out.r).mono ?_
      rintro e w11 ⟨rfl, b⟩
      replace RP := hid (RP.out.below b)
      replace RO := hid (RO.out.below b)
      replace RW := hid (RW.out.below b)
      replace RS := hid (RS.out.below b)
      replace RV := hid (RV.out.below b)
      replace RX := hid (RX.out.below b)
      replace RY := hid (RY.out.below b)
      replace B : Hid (Below w.heap.size w w11) := B.out.trans (b.mono B.out.size)
      clear b
      go_wp2
      go_ret
      exact ⟨by first | rfl | simp, B.out⟩
  · obtain ⟨hb, hf⟩ : rateB r d = true ∧ flowB xs = true := by rw [← Bool.and_eq_true]; simpa using hn
    have HRb := hid hb
    have HF := hid hf
    have hlen := flowB_len hf
    have hrd := rateB_in hb
    obtain ⟨c, hc⟩ : ∃ c, c = confF r d xs := ⟨_, rfl⟩
    have K3 : Hid (∀ v w, KReads w v xs → Calls Try.prog 8 #[.int .i64 r, .int .i64 d, v] w fun e w' => e = .returned (.tuple #[.bool c, .bool true]) ∧ Below w.heap.size w w') := fun v w hr => by rw [hc]; exact HTC.out.yes r d v xs w hr hb hf
    have K4 : Hid (∀ v w, KReads w v xs → Calls Try.prog 9 #[.int .i64 r, .int .i64 d, v] w fun e w' => e = .returned (.tuple #[.bool c, .bool true]) ∧ Below w.heap.size w w') := fun v w hr => by rw [hc]; exact sconf_yes r d v xs w hr hb hf
    have HC := hid hc
    have hcc : (c != c) = false := by simp
    clear hn hb hf hc
    go_wp2_with fail
    refine (K3.out _ _ RT.out).mono ?_
    rintro e w2 ⟨rfl, b⟩
    replace RT := hid (RT.out.below b)
    replace B : Hid (Below w.heap.size w w2) := B.out.trans (b.mono B.out.size)
    clear b
    go_wp2_with fail
    refine (K4.out _ _ RT.out).mono ?_
    rintro e w3 ⟨rfl, b⟩
    replace RT := hid (RT.out.below b)
    replace B : Hid (Below w.heap.size w w3) := B.out.trans (b.mono B.out.size)
    clear b
    cases c
    · clear RT
      go_wp2_with fail
      refine (drawPass_any _ _ (code_after9 HC1.out B.out)).mono ?_
      rintro e w4 ⟨up, s2, rfl, x2, hx2, o, b⟩
      have RP := hid o.reads
      replace B : Hid (Below w.heap.size w w4) := B.out.trans (b.mono B.out.size)
      clear o b
      by_cases hp : passF x2 s2 = false
      · have HP := hid hp
        clear hp
        go_wp2_with fail
        refine (HTP.out.no _ x2 s2 _ RP.out HP.out).mono ?_
        rintro e w5 ⟨uRO, uRW, rfl, oa, ob, _, b⟩
        replace RP := hid (RP.out.below b)
        have RO := hid oa.reads
        have RW := hid ob.reads
        clear oa ob
        replace B : Hid (Below w.heap.size w w5) := B.out.trans (b.mono B.out.size)
        clear b
        go_wp2_with fail
        refine (spass_no _ x2 s2 _ RP.out HP.out).mono ?_
        rintro e w6 ⟨uRS, uRV, rfl, oa, ob, _, b⟩
        replace RP := hid (RP.out.below b)
        replace RO := hid (RO.out.below b)
        replace RW := hid (RW.out.below b)
        have RS := hid oa.reads
        have RV := hid ob.reads
        clear oa ob
        replace B : Hid (Below w.heap.size w w6) := B.out.trans (b.mono B.out.size)
        clear b
        go_wp2_with fail
        refine (drawWorst_any _ _ (code_after9 HC1.out B.out)).mono ?_
        rintro e w7 ⟨ux, uy, rfl, x3, y3, _, oa, ob, b⟩
        replace RP := hid (RP.out.below b)
        replace RO := hid (RO.out.below b)
        replace RW := hid (RW.out.below b)
        replace RS := hid (RS.out.below b)
        replace RV := hid (RV.out.below b)
        have RX := hid oa.reads
        have RY := hid ob.reads
        replace B : Hid (Below w.heap.size w w7) := B.out.trans (b.mono B.out.size)
        clear oa ob b
        obtain ⟨dn, hdn⟩ : ∃ dn, dn = delG x3 y3 := ⟨_, rfl⟩
        obtain ⟨db, hdb⟩ : ∃ db, db = delF x3 y3 := ⟨_, rfl⟩
        have K8 : Hid (∀ v u w, KReads w v x3 → KReads w u y3 → Calls Try.prog 25 #[v, u] w fun e w' => e = .returned (.tuple #[.int .i64 dn, .bool db]) ∧ Below w.heap.size w w') := fun v u w h1 h2 => by rw [hdn, hdb]; exact HTW.out v u x3 y3 w h1 h2
        have K9 : Hid (∀ v u w, KReads w v x3 → KReads w u y3 → Calls Try.prog 29 #[v, u] w fun e w' => e = .returned (.tuple #[.int .i64 dn, .bool db]) ∧ Below w.heap.size w w') := fun v u w h1 h2 => by rw [hdn, hdb]; exact sworst_any v u x3 y3 w h1 h2
        have e1 : (dn == dn) = true := by simp
        have e2 : (db == db) = true := by simp
        clear hdn hdb
        go_wp2_with fail
        refine (K8.out _ _ _ RX.out RY.out).mono ?_
        rintro e w8 ⟨rfl, b⟩
        replace RP := hid (RP.out.below b)
        replace RO := hid (RO.out.below b)
        replace RW := hid (RW.out.below b)
        replace RS := hid (RS.out.below b)
        replace RV := hid (RV.out.below b)
        replace RX := hid (RX.out.below b)
        replace RY := hid (RY.out.below b)
        replace B : Hid (Below w.heap.size w w8) := B.out.trans (b.mono B.out.size)
        clear b
        go_wp2_with fail
        refine (K9.out _ _ _ RX.out RY.out).mono ?_
        rintro e w9 ⟨rfl, b⟩
        replace RP := hid (RP.out.below b)
        replace RO := hid (RO.out.below b)
        replace RW := hid (RW.out.below b)
        replace RS := hid (RS.out.below b)
        replace RV := hid (RV.out.below b)
        replace RX := hid (RX.out.below b)
        replace RY := hid (RY.out.below b)
        replace B : Hid (Below w.heap.size w w9) := B.out.trans (b.mono B.out.size)
        clear b
        go_wp2_with fail
        refine (sameInts_same _ _ _ _ RO.out.r RS.out.r).mono ?_
        rintro e w10 ⟨rfl, b⟩
        replace RP := hid (RP.out.below b)
        replace RO := hid (RO.out.below b)
        replace RW := hid (RW.out.below b)
        replace RS := hid (RS.out.below b)
        replace RV := hid (RV.out.below b)
        replace RX := hid (RX.out.below b)
        replace RY := hid (RY.out.below b)
        replace B : Hid (Below w.heap.size w w10) := B.out.trans (b.mono B.out.size)
        clear b
        go_wp2_with fail
        refine (sameInts_same _ _ _ _ RW.out.r RV.out.r).mono ?_
        rintro e w11 ⟨rfl, b⟩
        replace RP := hid (RP.out.below b)
        replace RO := hid (RO.out.below b)
        replace RW := hid (RW.out.below b)
        replace RS := hid (RS.out.below b)
        replace RV := hid (RV.out.below b)
        replace RX := hid (RX.out.below b)
        replace RY := hid (RY.out.below b)
        replace B : Hid (Below w.heap.size w w11) := B.out.trans (b.mono B.out.size)
        clear b
        go_wp2
        go_ret
        exact ⟨by first | rfl | simp, B.out⟩
      · obtain ⟨g1, g2, g3⟩ : flowB x2 = true ∧ 1 ≤ s2 ∧ s2 ≤ 60 := by
          have : passF x2 s2 = true := by simpa using hp
          unfold passF at this
          rw [Bool.and_eq_true, decide_eq_true_eq] at this
          exact this
        have HP := hid g1
        clear hp g1
        go_wp2_with fail
        refine (HTP.out.yes _ x2 s2 _ RP.out HP.out g2 g3).mono ?_
        rintro e w5 ⟨uRO, uRW, rfl, oa, ob, _, b⟩
        replace RP := hid (RP.out.below b)
        have RO := hid oa.reads
        have RW := hid ob.reads
        clear oa ob
        replace B : Hid (Below w.heap.size w w5) := B.out.trans (b.mono B.out.size)
        clear b
        go_wp2_with fail
        refine (spass_yes _ x2 s2 _ RP.out HP.out g2 g3).mono ?_
        rintro e w6 ⟨uRS, uRV, rfl, oa, ob, _, b⟩
        replace RP := hid (RP.out.below b)
        replace RO := hid (RO.out.below b)
        replace RW := hid (RW.out.below b)
        have RS := hid oa.reads
        have RV := hid ob.reads
        clear oa ob
        replace B : Hid (Below w.heap.size w w6) := B.out.trans (b.mono B.out.size)
        clear b
        go_wp2_with fail
        refine (drawWorst_any _ _ (code_after9 HC1.out B.out)).mono ?_
        rintro e w7 ⟨ux, uy, rfl, x3, y3, _, oa, ob, b⟩
        replace RP := hid (RP.out.below b)
        replace RO := hid (RO.out.below b)
        replace RW := hid (RW.out.below b)
        replace RS := hid (RS.out.below b)
        replace RV := hid (RV.out.below b)
        have RX := hid oa.reads
        have RY := hid ob.reads
        replace B : Hid (Below w.heap.size w w7) := B.out.trans (b.mono B.out.size)
        clear oa ob b
        obtain ⟨dn, hdn⟩ : ∃ dn, dn = delG x3 y3 := ⟨_, rfl⟩
        obtain ⟨db, hdb⟩ : ∃ db, db = delF x3 y3 := ⟨_, rfl⟩
        have K8 : Hid (∀ v u w, KReads w v x3 → KReads w u y3 → Calls Try.prog 25 #[v, u] w fun e w' => e = .returned (.tuple #[.int .i64 dn, .bool db]) ∧ Below w.heap.size w w') := fun v u w h1 h2 => by rw [hdn, hdb]; exact HTW.out v u x3 y3 w h1 h2
        have K9 : Hid (∀ v u w, KReads w v x3 → KReads w u y3 → Calls Try.prog 29 #[v, u] w fun e w' => e = .returned (.tuple #[.int .i64 dn, .bool db]) ∧ Below w.heap.size w w') := fun v u w h1 h2 => by rw [hdn, hdb]; exact sworst_any v u x3 y3 w h1 h2
        have e1 : (dn == dn) = true := by simp
        have e2 : (db == db) = true := by simp
        clear hdn hdb
        go_wp2_with fail
        refine (K8.out _ _ _ RX.out RY.out).mono ?_
        rintro e w8 ⟨rfl, b⟩
        replace RP := hid (RP.out.below b)
        replace RO := hid (RO.out.below b)
        replace RW := hid (RW.out.below b)
        replace RS := hid (RS.out.below b)
        replace RV := hid (RV.out.below b)
        replace RX := hid (RX.out.below b)
        replace RY := hid (RY.out.below b)
        replace B : Hid (Below w.heap.size w w8) := B.out.trans (b.mono B.out.size)
        clear b
        go_wp2_with fail
        refine (K9.out _ _ _ RX.out RY.out).mono ?_
        rintro e w9 ⟨rfl, b⟩
        replace RP := hid (RP.out.below b)
        replace RO := hid (RO.out.below b)
        replace RW := hid (RW.out.below b)
        replace RS := hid (RS.out.below b)
        replace RV := hid (RV.out.below b)
        replace RX := hid (RX.out.below b)
        replace RY := hid (RY.out.below b)
        replace B : Hid (Below w.heap.size w w9) := B.out.trans (b.mono B.out.size)
        clear b
        go_wp2_with fail
        refine (sameInts_same _ _ _ _ RO.out.r RS.out.r).mono ?_
        rintro e w10 ⟨rfl, b⟩
        replace RP := hid (RP.out.below b)
        replace RO := hid (RO.out.below b)
        replace RW := hid (RW.out.below b)
        replace RS := hid (RS.out.below b)
        replace RV := hid (RV.out.below b)
        replace RX := hid (RX.out.below b)
        replace RY := hid (RY.out.below b)
        replace B : Hid (Below w.heap.size w w10) := B.out.trans (b.mono B.out.size)
        clear b
        go_wp2_with fail
        refine (sameInts_same _ _ _ _ RW.out.r RV.out.r).mono ?_
        rintro e w11 ⟨rfl, b⟩
        replace RP := hid (RP.out.below b)
        replace RO := hid (RO.out.below b)
        replace RW := hid (RW.out.below b)
        replace RS := hid (RS.out.below b)
        replace RV := hid (RV.out.below b)
        replace RX := hid (RX.out.below b)
        replace RY := hid (RY.out.below b)
        replace B : Hid (Below w.heap.size w w11) := B.out.trans (b.mono B.out.size)
        clear b
        go_wp2
        go_ret
        exact ⟨by first | rfl | simp, B.out⟩
    · have HCt : Hid (confF r d xs = true) := HC.out.symm
      go_wp2_with fail
      refine (numberOf_any _ _ _ (code_after9 HC1.out B.out)).mono ?_
      rintro e w' ⟨m, hm, rfl, hw⟩
      obtain rfl := hw.symm
      obtain ⟨q, hq⟩ : ∃ q : Nat, q = m % 10 := ⟨_, rfl⟩
      have hq10 : q < 10 := by rw [hq]; exact Nat.mod_lt _ (by decide)
      have hmm : (m : Int).tmod 10 = (q : Int) := by rw [Int.tmod_eq_emod_of_nonneg (by omega), hq]; omega
      have hqw : IntKind.i64.wrap (q : Int) = (q : Int) := by rw [IntKind.wrap_i64]; omega
      obtain ⟨s, hs⟩ : ∃ s : Int, s = r + (q : Int) := ⟨_, rfl⟩
      have hsw : IntKind.i64.wrap (r + (q : Int)) = s := by rw [IntKind.wrap_i64]; omega
      have hs1 : r ≤ s := by omega
      have hs2 : s ≤ 60 := by omega
      have hs0 : 1 ≤ s := by omega
      obtain ⟨os, hos⟩ : ∃ os, os = goL (pgo s (fl xs)) xs.length := ⟨_, rfl⟩
      obtain ⟨ws, hws⟩ : ∃ ws, ws = goL (fun t => pw s (fl xs) (t + 1)) xs.length := ⟨_, rfl⟩
      have hwl : ws.length = xs.length := by rw [hws, goL_len]
      have K5 : Hid (∀ v w, KReads w v xs → Calls Try.prog 24 #[v, .int .i64 s] w fun e w' => ∃ u0 u1, e = .returned (.tuple #[u0, u1, .bool true]) ∧ KOwn w.heap.size w'.heap.size w' u0 os ∧ KOwn w.heap.size w'.heap.size w' u1 ws ∧ Apart7 u0 u1 ∧ Below w.heap.size w w') := fun v w hr => by rw [hos, hws]; exact HTP.out.yes v xs s w hr HF.out hs0 hs2
      obtain ⟨dn, hdn⟩ : ∃ dn, dn = delG xs os := ⟨_, rfl⟩
      have hdy := delays_yes HRb.out HF.out HCt.out hs1 hs2
      rw [← hos] at hdy
      have hdg := delG_in xs os
      have K6 : Hid (∀ v u w, KReads w v xs → KReads w u os → Calls Try.prog 25 #[v, u] w fun e w' => e = .returned (.tuple #[.int .i64 dn, .bool true]) ∧ Below w.heap.size w w') := fun v u w h1 h2 => by
        have := HTW.out v u xs os w h1 h2
        rw [hdy.1, ← hdn] at this
        exact this
      obtain ⟨bd, hbd⟩ : ∃ bd, bd = (d - 1) / s := ⟨_, rfl⟩
      have hle := hdy.2
      rw [← hdn, ← hbd] at hle
      rw [← hdn] at hdg
      have hbs : bd ≤ 60 := by rw [hbd]; exact Int.le_trans (Int.ediv_le_self _ (by omega)) (by omega)
      have hd1 : IntKind.i64.wrap (d - 1) = d - 1 := by rw [IntKind.wrap_i64]; omega
      have hdv : (d - 1).tdiv s = bd := by rw [hbd]; exact Int.tdiv_eq_ediv_of_nonneg (by omega)
      have hbw : IntKind.i64.wrap bd = bd := by rw [IntKind.wrap_i64]; omega
      have hgt : decide (bd < dn) = false := by rw [decide_eq_false_iff_not]; omega
      have hq0 : (s == 0) = false := by rw [beq_eq_false_iff_ne]; omega
      have hq1 : s ≠ 0 := by omega
      have HWt : Hid (∀ i, i < xs.length → fl ws i ≤ d) := fun i hi => by rw [hws]; exact waits_le HRb.out HCt.out hs1 hi
      have HWL := hid hwl
      clear hq hs hos hws hdn hbd hdy hle hwl hcc
      go_wp2_with fail
      refine (K5.out _ _ RT.out).mono ?_
      rintro e w4 ⟨uRA, uRW, rfl, oa, ob, _, b⟩
      replace RT := hid (RT.out.below b)
      have RA := hid oa.reads
      have RW := hid ob.reads
      clear oa ob
      replace B : Hid (Below w.heap.size w w4) := B.out.trans (b.mono B.out.size)
      clear b
      go_wp2_with fail
      refine (K6.out _ _ _ RT.out RA.out).mono ?_
      rintro e w5 ⟨rfl, b⟩
      replace RT := hid (RT.out.below b)
      replace RA := hid (RA.out.below b)
      replace RW := hid (RW.out.below b)
      replace B : Hid (Below w.heap.size w w5) := B.out.trans (b.mono B.out.size)
      clear b
      obtain ⟨aw, caw, ew, _, hwc⟩ := RW.out
      rw [HWL.out] at ew
      subst ew
      have HCW : Hid (∀ i, i < xs.length → ∃ g o, aw = some ⟨g, o, none⟩ ∧ w5.cell? ⟨g, o + i, none⟩ = some (.int .i64 (fl ws i))) := fun i hi => by
        rcases hwc with h | ⟨g, o, h1, h2⟩
        · have := HWL.out; rw [h] at this; simp at this; omega
        · exact ⟨g, o, h1, h2 i (by rw [HWL.out]; exact hi)⟩
      clear hwc
      go_wp2
      go_loopw [106] (fun iv wr => ∃ i : Nat, i ≤ xs.length ∧ iv = .int .i64 i ∧ w5 = wr) (fun iv _ => xs.length - (intOf iv).toNat)
      case atStart => exact ⟨0, Nat.zero_le _, rfl, rfl⟩
      case round =>
        obtain ⟨i, hi, rfl, rfl⟩ := hrel
        by_cases hlt : i < xs.length
        · obtain ⟨g, o, rfl, hcw⟩ := HCW.out i hlt
          have hwd := HWt.out i hlt
          obtain ⟨x, hx⟩ : ∃ x, x = fl ws i := ⟨_, rfl⟩
          rw [← hx] at hcw hwd
          have dd : decide (d < x) = false := by rw [decide_eq_false_iff_not]; omega
          have n0 : (0 : Int) ≤ (i : Int) := by omega
          have n1 : (i : Int) < (xs.length : Int) := by omega
          clear hx
          go_wp2
          go_roundw
          case rel => exact ⟨i + 1, by omega, by go_num, by first | rfl | trivial⟩
          case measure => simp [intOf]; omega
        · obtain rfl : i = xs.length := by omega
          clear HCW RT RA RW
          go_wp2_with fail
          refine (drawPass_any _ _ (code_after9 HC1.out B.out)).mono ?_
          rintro e w6 ⟨up, s2, rfl, x2, hx2, o, b⟩
          have RP := hid o.reads
          replace B : Hid (Below w.heap.size w w6) := B.out.trans (b.mono B.out.size)
          clear o b
          by_cases hp : passF x2 s2 = false
          · have HP := hid hp
            clear hp
            go_wp2_with fail
            refine (HTP.out.no _ x2 s2 _ RP.out HP.out).mono ?_
            rintro e w7 ⟨uRO, uRW, rfl, oa, ob, _, b⟩
            replace RP := hid (RP.out.below b)
            have RO := hid oa.reads
            have RW := hid ob.reads
            clear oa ob
            replace B : Hid (Below w.heap.size w w7) := B.out.trans (b.mono B.out.size)
            clear b
            go_wp2_with fail
            refine (spass_no _ x2 s2 _ RP.out HP.out).mono ?_
            rintro e w8 ⟨uRS, uRV, rfl, oa, ob, _, b⟩
            replace RP := hid (RP.out.below b)
            replace RO := hid (RO.out.below b)
            replace RW := hid (RW.out.below b)
            have RS := hid oa.reads
            have RV := hid ob.reads
            clear oa ob
            replace B : Hid (Below w.heap.size w w8) := B.out.trans (b.mono B.out.size)
            clear b
            go_wp2_with fail
            refine (drawWorst_any _ _ (code_after9 HC1.out B.out)).mono ?_
            rintro e w9 ⟨ux, uy, rfl, x3, y3, _, oa, ob, b⟩
            replace RP := hid (RP.out.below b)
            replace RO := hid (RO.out.below b)
            replace RW := hid (RW.out.below b)
            replace RS := hid (RS.out.below b)
            replace RV := hid (RV.out.below b)
            have RX := hid oa.reads
            have RY := hid ob.reads
            replace B : Hid (Below w.heap.size w w9) := B.out.trans (b.mono B.out.size)
            clear oa ob b
            obtain ⟨dn, hdn⟩ : ∃ dn, dn = delG x3 y3 := ⟨_, rfl⟩
            obtain ⟨db, hdb⟩ : ∃ db, db = delF x3 y3 := ⟨_, rfl⟩
            have K8 : Hid (∀ v u w, KReads w v x3 → KReads w u y3 → Calls Try.prog 25 #[v, u] w fun e w' => e = .returned (.tuple #[.int .i64 dn, .bool db]) ∧ Below w.heap.size w w') := fun v u w h1 h2 => by rw [hdn, hdb]; exact HTW.out v u x3 y3 w h1 h2
            have K9 : Hid (∀ v u w, KReads w v x3 → KReads w u y3 → Calls Try.prog 29 #[v, u] w fun e w' => e = .returned (.tuple #[.int .i64 dn, .bool db]) ∧ Below w.heap.size w w') := fun v u w h1 h2 => by rw [hdn, hdb]; exact sworst_any v u x3 y3 w h1 h2
            have e1 : (dn == dn) = true := by simp
            have e2 : (db == db) = true := by simp
            clear hdn hdb
            go_wp2_with fail
            refine (K8.out _ _ _ RX.out RY.out).mono ?_
            rintro e w10 ⟨rfl, b⟩
            replace RP := hid (RP.out.below b)
            replace RO := hid (RO.out.below b)
            replace RW := hid (RW.out.below b)
            replace RS := hid (RS.out.below b)
            replace RV := hid (RV.out.below b)
            replace RX := hid (RX.out.below b)
            replace RY := hid (RY.out.below b)
            replace B : Hid (Below w.heap.size w w10) := B.out.trans (b.mono B.out.size)
            clear b
            go_wp2_with fail
            refine (K9.out _ _ _ RX.out RY.out).mono ?_
            rintro e w11 ⟨rfl, b⟩
            replace RP := hid (RP.out.below b)
            replace RO := hid (RO.out.below b)
            replace RW := hid (RW.out.below b)
            replace RS := hid (RS.out.below b)
            replace RV := hid (RV.out.below b)
            replace RX := hid (RX.out.below b)
            replace RY := hid (RY.out.below b)
            replace B : Hid (Below w.heap.size w w11) := B.out.trans (b.mono B.out.size)
            clear b
            go_wp2_with fail
            refine (sameInts_same _ _ _ _ RO.out.r RS.out.r).mono ?_
            rintro e w12 ⟨rfl, b⟩
            replace RP := hid (RP.out.below b)
            replace RO := hid (RO.out.below b)
            replace RW := hid (RW.out.below b)
            replace RS := hid (RS.out.below b)
            replace RV := hid (RV.out.below b)
            replace RX := hid (RX.out.below b)
            replace RY := hid (RY.out.below b)
            replace B : Hid (Below w.heap.size w w12) := B.out.trans (b.mono B.out.size)
            clear b
            go_wp2_with fail
            refine (sameInts_same _ _ _ _ RW.out.r RV.out.r).mono ?_
            rintro e w13 ⟨rfl, b⟩
            replace RP := hid (RP.out.below b)
            replace RO := hid (RO.out.below b)
            replace RW := hid (RW.out.below b)
            replace RS := hid (RS.out.below b)
            replace RV := hid (RV.out.below b)
            replace RX := hid (RX.out.below b)
            replace RY := hid (RY.out.below b)
            replace B : Hid (Below w.heap.size w w13) := B.out.trans (b.mono B.out.size)
            clear b
            go_wp2
            go_ret
            exact ⟨by first | rfl | simp, B.out⟩
          · obtain ⟨g1, g2, g3⟩ : flowB x2 = true ∧ 1 ≤ s2 ∧ s2 ≤ 60 := by
              have : passF x2 s2 = true := by simpa using hp
              unfold passF at this
              rw [Bool.and_eq_true, decide_eq_true_eq] at this
              exact this
            have HP := hid g1
            clear hp g1
            go_wp2_with fail
            refine (HTP.out.yes _ x2 s2 _ RP.out HP.out g2 g3).mono ?_
            rintro e w7 ⟨uRO, uRW, rfl, oa, ob, _, b⟩
            replace RP := hid (RP.out.below b)
            have RO := hid oa.reads
            have RW := hid ob.reads
            clear oa ob
            replace B : Hid (Below w.heap.size w w7) := B.out.trans (b.mono B.out.size)
            clear b
            go_wp2_with fail
            refine (spass_yes _ x2 s2 _ RP.out HP.out g2 g3).mono ?_
            rintro e w8 ⟨uRS, uRV, rfl, oa, ob, _, b⟩
            replace RP := hid (RP.out.below b)
            replace RO := hid (RO.out.below b)
            replace RW := hid (RW.out.below b)
            have RS := hid oa.reads
            have RV := hid ob.reads
            clear oa ob
            replace B : Hid (Below w.heap.size w w8) := B.out.trans (b.mono B.out.size)
            clear b
            go_wp2_with fail
            refine (drawWorst_any _ _ (code_after9 HC1.out B.out)).mono ?_
            rintro e w9 ⟨ux, uy, rfl, x3, y3, _, oa, ob, b⟩
            replace RP := hid (RP.out.below b)
            replace RO := hid (RO.out.below b)
            replace RW := hid (RW.out.below b)
            replace RS := hid (RS.out.below b)
            replace RV := hid (RV.out.below b)
            have RX := hid oa.reads
            have RY := hid ob.reads
            replace B : Hid (Below w.heap.size w w9) := B.out.trans (b.mono B.out.size)
            clear oa ob b
            obtain ⟨dn, hdn⟩ : ∃ dn, dn = delG x3 y3 := ⟨_, rfl⟩
            obtain ⟨db, hdb⟩ : ∃ db, db = delF x3 y3 := ⟨_, rfl⟩
            have K8 : Hid (∀ v u w, KReads w v x3 → KReads w u y3 → Calls Try.prog 25 #[v, u] w fun e w' => e = .returned (.tuple #[.int .i64 dn, .bool db]) ∧ Below w.heap.size w w') := fun v u w h1 h2 => by rw [hdn, hdb]; exact HTW.out v u x3 y3 w h1 h2
            have K9 : Hid (∀ v u w, KReads w v x3 → KReads w u y3 → Calls Try.prog 29 #[v, u] w fun e w' => e = .returned (.tuple #[.int .i64 dn, .bool db]) ∧ Below w.heap.size w w') := fun v u w h1 h2 => by rw [hdn, hdb]; exact sworst_any v u x3 y3 w h1 h2
            have e1 : (dn == dn) = true := by simp
            have e2 : (db == db) = true := by simp
            clear hdn hdb
            go_wp2_with fail
            refine (K8.out _ _ _ RX.out RY.out).mono ?_
            rintro e w10 ⟨rfl, b⟩
            replace RP := hid (RP.out.below b)
            replace RO := hid (RO.out.below b)
            replace RW := hid (RW.out.below b)
            replace RS := hid (RS.out.below b)
            replace RV := hid (RV.out.below b)
            replace RX := hid (RX.out.below b)
            replace RY := hid (RY.out.below b)
            replace B : Hid (Below w.heap.size w w10) := B.out.trans (b.mono B.out.size)
            clear b
            go_wp2_with fail
            refine (K9.out _ _ _ RX.out RY.out).mono ?_
            rintro e w11 ⟨rfl, b⟩
            replace RP := hid (RP.out.below b)
            replace RO := hid (RO.out.below b)
            replace RW := hid (RW.out.below b)
            replace RS := hid (RS.out.below b)
            replace RV := hid (RV.out.below b)
            replace RX := hid (RX.out.below b)
            replace RY := hid (RY.out.below b)
            replace B : Hid (Below w.heap.size w w11) := B.out.trans (b.mono B.out.size)
            clear b
            go_wp2_with fail
            refine (sameInts_same _ _ _ _ RO.out.r RS.out.r).mono ?_
            rintro e w12 ⟨rfl, b⟩
            replace RP := hid (RP.out.below b)
            replace RO := hid (RO.out.below b)
            replace RW := hid (RW.out.below b)
            replace RS := hid (RS.out.below b)
            replace RV := hid (RV.out.below b)
            replace RX := hid (RX.out.below b)
            replace RY := hid (RY.out.below b)
            replace B : Hid (Below w.heap.size w w12) := B.out.trans (b.mono B.out.size)
            clear b
            go_wp2_with fail
            refine (sameInts_same _ _ _ _ RW.out.r RV.out.r).mono ?_
            rintro e w13 ⟨rfl, b⟩
            replace RP := hid (RP.out.below b)
            replace RO := hid (RO.out.below b)
            replace RW := hid (RW.out.below b)
            replace RS := hid (RS.out.below b)
            replace RV := hid (RV.out.below b)
            replace RX := hid (RX.out.below b)
            replace RY := hid (RY.out.below b)
            replace B : Hid (Below w.heap.size w w13) := B.out.trans (b.mono B.out.size)
            clear b
            go_wp2
            go_ret
            exact ⟨by first | rfl | simp, B.out⟩
end Go.Proofs.Ytcieefggijjekac
