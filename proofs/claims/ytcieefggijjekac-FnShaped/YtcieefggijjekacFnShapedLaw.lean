/-
  The law FnShaped answers true at all bytes, where impl's functions tell what they should.
-/
import Derived.Test.YtcieefggijjekacCon7
import Derived.Test.YtcieefggijjekacShapedMath
import Derived.Test.YtcieefggijjekacDrawShape
import Derived.Test.YtcieefggijjekacDrawBkt
import Derived.Test.YtcieefggijjekacDrawTake
import Derived.Test.YtcieefggijjekacSameInts
import Derived.Test.YtcieefggijjekacSumOf
import Derived.Test.YtcieefggijjekacCodeRow
import Derived.Test.YtcieefggijjekacSShape
import Derived.Test.YtcieefggijjekacSConf
import Derived.Test.YtcieefggijjekacSBktFn
import Derived.Test.YtcieefggijjekacSTake
import Derived.Deep.QuietTactic
import Derived.BigQuiet
import Derived.Deep.RegionHeld3
namespace Go.Proofs.Ytcieefggijjekac
open Go.RowKit

theorem code_after8 {w w' : World} {v : Value} (h : CodeOk w.heap.size w v) (hb : Below w.heap.size w w') : CodeOk w'.heap.size w' v := by
  obtain ⟨a, len, cap, rfl, hlen, hx⟩ := h
  refine ⟨a, len, cap, rfl, hlen, ?_⟩
  rcases hx with hx | ⟨cb, off, rfl, hlt, hc⟩
  · exact .inl hx
  · exact .inr ⟨cb, off, rfl, Nat.lt_of_lt_of_le hlt hb.size, fun i hi => by
      obtain ⟨x, hx, hc⟩ := hc i hi
      exact ⟨x, hx, (hb.cell (p := ⟨cb, off + i, none⟩) hlt).trans hc⟩⟩
theorem tick_case {f : Nat} (T : TickBTells f) (x : BkEl) : ∃ (y : BkEl) (t : Bool), (∀ w, Calls Try.prog f #[bkV x] w fun e w' => e = .returned (.tuple #[bkV y, .bool t]) ∧ Below w.heap.size w w') ∧ (∀ w, Calls Try.prog 14 #[bkV x] w fun e w' => e = .returned (.tuple #[bkV y, .bool t]) ∧ Below w.heap.size w w') ∧ bktB x = t ∧ (t = true → bktB y = true) := by
  cases h : bktB x with
  | true => exact ⟨tickK x, true, T.yes x h, stickfn_yes x h, rfl, fun _ => tick_good h⟩
  | false => exact ⟨(0, 0, 0), false, T.no x h, stickfn_no x h, rfl, fun h => by cases h⟩
theorem take_case {f : Nat} (T : TakeBTells f) (x : BkEl) (m : Int) : ∃ (y : BkEl) (t : Bool), (∀ w, Calls Try.prog f #[bkV x, .int .i64 m] w fun e w' => e = .returned (.tuple #[bkV y, .bool t]) ∧ Below w.heap.size w w') ∧ (∀ w, Calls Try.prog 17 #[bkV x, .int .i64 m] w fun e w' => e = .returned (.tuple #[bkV y, .bool t]) ∧ Below w.heap.size w w') ∧ (t = true → bktB y = true ∧ IntKind.i64.wrap (y.2.2 + m) = x.2.2) := by
  cases h : takeF x m with
  | true => exact ⟨_, true, T.yes x m h, stakefn_yes x m h, fun _ => take_good h⟩
  | false => exact ⟨(0, 0, 0), false, T.no x m h, stakefn_no x m h, fun h => by cases h⟩
theorem new_case {f : Nat} (T : NewBTells f) (r d : Int) : ∃ (y : BkEl) (t : Bool), (∀ w, Calls Try.prog f #[.int .i64 r, .int .i64 d] w fun e w' => e = .returned (.tuple #[bkV y, .bool t]) ∧ Below w.heap.size w w') ∧ (∀ w, Calls Try.prog 20 #[.int .i64 r, .int .i64 d] w fun e w' => e = .returned (.tuple #[bkV y, .bool t]) ∧ Below w.heap.size w w') ∧ (t = true → bktB y = true ∧ (y.2.2 == d) = true) := by
  cases h : rateB r d with
  | true => exact ⟨_, true, T.yes r d h, snew_yes r d h, fun _ => new_good h⟩
  | false => exact ⟨(0, 0, 0), false, T.no r d h, snew_no r d h, fun h => by cases h⟩
set_option maxRecDepth 100000 in
set_option maxHeartbeats 60000000 in
theorem FnShaped_law (a0 : Option Addr) (len0 cap0 : Nat) (z0 : List Int) (a1 : Option Addr) (len1 cap1 : Nat) (z1 : List Int) (w : World) (h0 : IsRow .u8 w a0 len0 cap0 z0) (h1 : IsRow .u8 w a1 len1 cap1 z1) (b0 : cap0 * 1 ≤ 140737488351232) (b1 : cap1 * 1 ≤ 140737488351232)
    (TS : ShapeTells 6) (TC : ConfTells 8) (TT : TickBTells 13) (TK : TakeBTells 16) (TN : NewBTells 19) (TG : GoodBTells 21) :
    Calls Try.prog 3 #[.slice a0 len0 cap0, .slice a1 len1 cap1] w fun e w' => e = .returned (.bool true) ∧ Below w.heap.size w w' := by
  have l0 : len0 ≤ cap0 := by rcases h0 with ⟨_, rfl, rfl, _⟩ | ⟨x, _, h, _⟩ <;> omega
  have l1 : len1 ≤ cap1 := by rcases h1 with ⟨_, rfl, rfl, _⟩ | ⟨x, _, h, _⟩ <;> omega
  by_cases hbig : (1048576 : Int) < (len0 : Int) + (len1 : Int)
  · clear h0 h1
    go_enter Try.func3, Try.ntmps3
    go_wp2
    go_ret
    exact ⟨rfl, Below.refl _ _⟩
  have HC0 := hid (code_of_row h0 (by omega))
  have HC1 := hid (code_of_row h1 (by omega))
  have HTS := hid TS
  have HTC := hid TC
  have HTT := hid TT
  have HTK := hid TK
  have HTN := hid TN
  have HTG := hid TG
  clear h0 h1 TS TC TT TK TN TG
  go_enter Try.func3, Try.ntmps3
  go_wp2_with fail
  refine (drawShape_any _ _ HC0.out).mono ?_
  rintro e w1 ⟨r, d, u0, rfl, xs, hxs, o, b⟩
  have RT := hid o.reads
  have B := hid b
  clear o b
  obtain ⟨al, cal, rfl, _, _⟩ := RT.out
  by_cases hn : (rateB r d && flowB xs) = false
  · have HN := hid hn
    clear hn
    go_wp2_with fail
    refine (HTS.out.no r d _ xs _ RT.out HN.out).mono ?_
    rintro e w2 ⟨uRA, uRW, rfl, oa, ob, _, b⟩
    replace RT := hid (RT.out.below b)
    have RA := hid oa.reads
    have RW := hid ob.reads
    clear oa ob
    replace B : Hid (Below w.heap.size w w2) := B.out.trans (b.mono B.out.size)
    clear b
    go_wp2_with fail
    refine (sshape_no r d _ xs _ RT.out HN.out).mono ?_
    rintro e w3 ⟨uRS, uRV, rfl, oa, ob, _, b⟩
    replace RT := hid (RT.out.below b)
    replace RA := hid (RA.out.below b)
    replace RW := hid (RW.out.below b)
    have RS := hid oa.reads
    have RV := hid ob.reads
    clear oa ob
    replace B : Hid (Below w.heap.size w w3) := B.out.trans (b.mono B.out.size)
    clear b
    go_wp2_with fail
    refine (HTC.out.no r d _ xs _ RT.out HN.out).mono ?_
    rintro e w4 ⟨rfl, b⟩
    replace RT := hid (RT.out.below b)
    replace RA := hid (RA.out.below b)
    replace RW := hid (RW.out.below b)
    replace RS := hid (RS.out.below b)
    replace RV := hid (RV.out.below b)
    replace B : Hid (Below w.heap.size w w4) := B.out.trans (b.mono B.out.size)
    clear b
    go_wp2_with fail
    refine (sconf_no r d _ xs _ RT.out HN.out).mono ?_
    rintro e w5 ⟨rfl, b⟩
    replace RT := hid (RT.out.below b)
    replace RA := hid (RA.out.below b)
    replace RW := hid (RW.out.below b)
    replace RS := hid (RS.out.below b)
    replace RV := hid (RV.out.below b)
    replace B : Hid (Below w.heap.size w w5) := B.out.trans (b.mono B.out.size)
    clear b
    go_wp2_with fail
    refine (sameInts_same _ _ _ _ RA.out.r RS.out.r).mono ?_
    rintro e w6 ⟨rfl, b⟩
    replace RT := hid (RT.out.below b)
    replace RA := hid (RA.out.below b)
    replace RW := hid (RW.out.below b)
    replace RS := hid (RS.out.below b)
    replace RV := hid (RV.out.below b)
    replace B : Hid (Below w.heap.size w w6) := B.out.trans (b.mono B.out.size)
    clear b
    go_wp2_with fail
    refine (sameInts_same _ _ _ _ RW.out.r RV.out.r).mono ?_
    rintro e w7 ⟨rfl, b⟩
    replace RT := hid (RT.out.below b)
    replace RA := hid (RA.out.below b)
    replace RW := hid (RW.out.below b)
    replace RS := hid (RS.out.below b)
    replace RV := hid (RV.out.below b)
    replace B : Hid (Below w.heap.size w w7) := B.out.trans (b.mono B.out.size)
    clear b
    clear RT RA RW RS RV
    go_wp2_with fail
    refine (drawTickB_any _ _ (code_after8 HC1.out B.out)).mono ?_
    rintro e w8 ⟨xb, rfl, b⟩
    replace B : Hid (Below w.heap.size w w8) := B.out.trans (b.mono B.out.size)
    clear b
    obtain ⟨xt, tt, hI, hS, hg, hgo⟩ := tick_case HTT.out xb
    have TI := hid hI
    have TS := hid hS
    have TGb := hid hg
    have TGo := hid hgo
    clear hI hS hg hgo
    have b : Below w8.heap.size w8 (w8.alloc (.cells #[.int .i64 xb.1, .int .i64 xb.2.1, .int .i64 xb.2.2] 33)) := (Below.refl _ _).alloc (Nat.le_refl _) _
    have KB : Hid (BkCells (w8.alloc (.cells #[.int .i64 xb.1, .int .i64 xb.2.1, .int .i64 xb.2.2] 33)) w8.heap.size 0 xb) := (balloc3 _ _).1
    replace B : Hid (Below w.heap.size w (w8.alloc (.cells #[.int .i64 xb.1, .int .i64 xb.2.1, .int .i64 xb.2.2] 33))) := B.out.trans (b.mono B.out.size)
    clear b
    obtain ⟨q00, q01, q02⟩ := KB.out
    go_wp2_with fail
    refine (TI.out _).mono ?_
    rintro e w9 ⟨rfl, b⟩
    replace KB := hid (KB.out.below b KB.out.lt)
    replace B : Hid (Below w.heap.size w w9) := B.out.trans (b.mono B.out.size)
    clear b q00 q01 q02
    have b : Below w9.heap.size w9 (w9.alloc (.cells #[.int .i64 xt.1, .int .i64 xt.2.1, .int .i64 xt.2.2] 33)) := (Below.refl _ _).alloc (Nat.le_refl _) _
    replace KB := hid (KB.out.below b KB.out.lt)
    have KX : Hid (BkCells (w9.alloc (.cells #[.int .i64 xt.1, .int .i64 xt.2.1, .int .i64 xt.2.2] 33)) w9.heap.size 0 xt) := (balloc3 _ _).1
    replace B : Hid (Below w.heap.size w (w9.alloc (.cells #[.int .i64 xt.1, .int .i64 xt.2.1, .int .i64 xt.2.2] 33))) := B.out.trans (b.mono B.out.size)
    clear b
    obtain ⟨q00, q01, q02⟩ := KB.out
    obtain ⟨q10, q11, q12⟩ := KX.out
    go_wp2_with fail
    refine (TS.out _).mono ?_
    rintro e w10 ⟨rfl, b⟩
    replace KB := hid (KB.out.below b KB.out.lt)
    replace KX := hid (KX.out.below b KX.out.lt)
    replace B : Hid (Below w.heap.size w w10) := B.out.trans (b.mono B.out.size)
    clear b q00 q01 q02 q10 q11 q12
    have b : Below w10.heap.size w10 (w10.alloc (.cells #[.int .i64 xt.1, .int .i64 xt.2.1, .int .i64 xt.2.2] 33)) := (Below.refl _ _).alloc (Nat.le_refl _) _
    replace KB := hid (KB.out.below b KB.out.lt)
    replace KX := hid (KX.out.below b KX.out.lt)
    have KS : Hid (BkCells (w10.alloc (.cells #[.int .i64 xt.1, .int .i64 xt.2.1, .int .i64 xt.2.2] 33)) w10.heap.size 0 xt) := (balloc3 _ _).1
    replace B : Hid (Below w.heap.size w (w10.alloc (.cells #[.int .i64 xt.1, .int .i64 xt.2.1, .int .i64 xt.2.2] 33))) := B.out.trans (b.mono B.out.size)
    clear b
    obtain ⟨q00, q01, q02⟩ := KB.out
    obtain ⟨q10, q11, q12⟩ := KX.out
    obtain ⟨q20, q21, q22⟩ := KS.out
    go_wp2_with fail
    refine (drawTakeB_any _ _ (code_after8 HC1.out B.out)).mono ?_
    rintro e w11 ⟨yb, m, rfl, b⟩
    replace KB := hid (KB.out.below b KB.out.lt)
    replace KX := hid (KX.out.below b KX.out.lt)
    replace KS := hid (KS.out.below b KS.out.lt)
    replace B : Hid (Below w.heap.size w w11) := B.out.trans (b.mono B.out.size)
    clear b q00 q01 q02 q10 q11 q12 q20 q21 q22
    obtain ⟨yt, ty, hI, hS, hgo⟩ := take_case HTK.out yb m
    have YI := hid hI
    have YS := hid hS
    have YGo := hid hgo
    clear hI hS hgo
    have b : Below w11.heap.size w11 (w11.alloc (.cells #[.int .i64 yb.1, .int .i64 yb.2.1, .int .i64 yb.2.2] 33)) := (Below.refl _ _).alloc (Nat.le_refl _) _
    replace KB := hid (KB.out.below b KB.out.lt)
    replace KX := hid (KX.out.below b KX.out.lt)
    replace KS := hid (KS.out.below b KS.out.lt)
    have KY : Hid (BkCells (w11.alloc (.cells #[.int .i64 yb.1, .int .i64 yb.2.1, .int .i64 yb.2.2] 33)) w11.heap.size 0 yb) := (balloc3 _ _).1
    replace B : Hid (Below w.heap.size w (w11.alloc (.cells #[.int .i64 yb.1, .int .i64 yb.2.1, .int .i64 yb.2.2] 33))) := B.out.trans (b.mono B.out.size)
    clear b
    obtain ⟨q00, q01, q02⟩ := KB.out
    obtain ⟨q10, q11, q12⟩ := KX.out
    obtain ⟨q20, q21, q22⟩ := KS.out
    obtain ⟨q30, q31, q32⟩ := KY.out
    go_wp2_with fail
    refine (YI.out _).mono ?_
    rintro e w12 ⟨rfl, b⟩
    replace KB := hid (KB.out.below b KB.out.lt)
    replace KX := hid (KX.out.below b KX.out.lt)
    replace KS := hid (KS.out.below b KS.out.lt)
    replace KY := hid (KY.out.below b KY.out.lt)
    replace B : Hid (Below w.heap.size w w12) := B.out.trans (b.mono B.out.size)
    clear b q00 q01 q02 q10 q11 q12 q20 q21 q22 q30 q31 q32
    have b : Below w12.heap.size w12 (w12.alloc (.cells #[.int .i64 yt.1, .int .i64 yt.2.1, .int .i64 yt.2.2] 33)) := (Below.refl _ _).alloc (Nat.le_refl _) _
    replace KB := hid (KB.out.below b KB.out.lt)
    replace KX := hid (KX.out.below b KX.out.lt)
    replace KS := hid (KS.out.below b KS.out.lt)
    replace KY := hid (KY.out.below b KY.out.lt)
    have KZ : Hid (BkCells (w12.alloc (.cells #[.int .i64 yt.1, .int .i64 yt.2.1, .int .i64 yt.2.2] 33)) w12.heap.size 0 yt) := (balloc3 _ _).1
    replace B : Hid (Below w.heap.size w (w12.alloc (.cells #[.int .i64 yt.1, .int .i64 yt.2.1, .int .i64 yt.2.2] 33))) := B.out.trans (b.mono B.out.size)
    clear b
    obtain ⟨q00, q01, q02⟩ := KB.out
    obtain ⟨q10, q11, q12⟩ := KX.out
    obtain ⟨q20, q21, q22⟩ := KS.out
    obtain ⟨q30, q31, q32⟩ := KY.out
    obtain ⟨q40, q41, q42⟩ := KZ.out
    go_wp2_with fail
    refine (YS.out _).mono ?_
    rintro e w13 ⟨rfl, b⟩
    replace KB := hid (KB.out.below b KB.out.lt)
    replace KX := hid (KX.out.below b KX.out.lt)
    replace KS := hid (KS.out.below b KS.out.lt)
    replace KY := hid (KY.out.below b KY.out.lt)
    replace KZ := hid (KZ.out.below b KZ.out.lt)
    replace B : Hid (Below w.heap.size w w13) := B.out.trans (b.mono B.out.size)
    clear b q00 q01 q02 q10 q11 q12 q20 q21 q22 q30 q31 q32 q40 q41 q42
    have b : Below w13.heap.size w13 (w13.alloc (.cells #[.int .i64 yt.1, .int .i64 yt.2.1, .int .i64 yt.2.2] 33)) := (Below.refl _ _).alloc (Nat.le_refl _) _
    replace KB := hid (KB.out.below b KB.out.lt)
    replace KX := hid (KX.out.below b KX.out.lt)
    replace KS := hid (KS.out.below b KS.out.lt)
    replace KY := hid (KY.out.below b KY.out.lt)
    replace KZ := hid (KZ.out.below b KZ.out.lt)
    have KT : Hid (BkCells (w13.alloc (.cells #[.int .i64 yt.1, .int .i64 yt.2.1, .int .i64 yt.2.2] 33)) w13.heap.size 0 yt) := (balloc3 _ _).1
    replace B : Hid (Below w.heap.size w (w13.alloc (.cells #[.int .i64 yt.1, .int .i64 yt.2.1, .int .i64 yt.2.2] 33))) := B.out.trans (b.mono B.out.size)
    clear b
    obtain ⟨q00, q01, q02⟩ := KB.out
    obtain ⟨q10, q11, q12⟩ := KX.out
    obtain ⟨q20, q21, q22⟩ := KS.out
    obtain ⟨q30, q31, q32⟩ := KY.out
    obtain ⟨q40, q41, q42⟩ := KZ.out
    obtain ⟨q50, q51, q52⟩ := KT.out
    go_wp2_with fail
    refine (drawNewB_any _ _ (code_after8 HC1.out B.out)).mono ?_
    rintro e w14 ⟨rn, dn, rfl, b⟩
    replace KB := hid (KB.out.below b KB.out.lt)
    replace KX := hid (KX.out.below b KX.out.lt)
    replace KS := hid (KS.out.below b KS.out.lt)
    replace KY := hid (KY.out.below b KY.out.lt)
    replace KZ := hid (KZ.out.below b KZ.out.lt)
    replace KT := hid (KT.out.below b KT.out.lt)
    replace B : Hid (Below w.heap.size w w14) := B.out.trans (b.mono B.out.size)
    clear b q00 q01 q02 q10 q11 q12 q20 q21 q22 q30 q31 q32 q40 q41 q42 q50 q51 q52
    obtain ⟨vt, tv, hI, hS, hgo⟩ := new_case HTN.out rn dn
    have NI := hid hI
    have NS := hid hS
    have NGo := hid hgo
    clear hI hS hgo
    obtain ⟨q00, q01, q02⟩ := KB.out
    obtain ⟨q10, q11, q12⟩ := KX.out
    obtain ⟨q20, q21, q22⟩ := KS.out
    obtain ⟨q30, q31, q32⟩ := KY.out
    obtain ⟨q40, q41, q42⟩ := KZ.out
    obtain ⟨q50, q51, q52⟩ := KT.out
    go_wp2_with fail
    refine (NI.out _).mono ?_
    rintro e w15 ⟨rfl, b⟩
    replace KB := hid (KB.out.below b KB.out.lt)
    replace KX := hid (KX.out.below b KX.out.lt)
    replace KS := hid (KS.out.below b KS.out.lt)
    replace KY := hid (KY.out.below b KY.out.lt)
    replace KZ := hid (KZ.out.below b KZ.out.lt)
    replace KT := hid (KT.out.below b KT.out.lt)
    replace B : Hid (Below w.heap.size w w15) := B.out.trans (b.mono B.out.size)
    clear b q00 q01 q02 q10 q11 q12 q20 q21 q22 q30 q31 q32 q40 q41 q42 q50 q51 q52
    have b : Below w15.heap.size w15 (w15.alloc (.cells #[.int .i64 vt.1, .int .i64 vt.2.1, .int .i64 vt.2.2] 33)) := (Below.refl _ _).alloc (Nat.le_refl _) _
    replace KB := hid (KB.out.below b KB.out.lt)
    replace KX := hid (KX.out.below b KX.out.lt)
    replace KS := hid (KS.out.below b KS.out.lt)
    replace KY := hid (KY.out.below b KY.out.lt)
    replace KZ := hid (KZ.out.below b KZ.out.lt)
    replace KT := hid (KT.out.below b KT.out.lt)
    have KV : Hid (BkCells (w15.alloc (.cells #[.int .i64 vt.1, .int .i64 vt.2.1, .int .i64 vt.2.2] 33)) w15.heap.size 0 vt) := (balloc3 _ _).1
    replace B : Hid (Below w.heap.size w (w15.alloc (.cells #[.int .i64 vt.1, .int .i64 vt.2.1, .int .i64 vt.2.2] 33))) := B.out.trans (b.mono B.out.size)
    clear b
    obtain ⟨q00, q01, q02⟩ := KB.out
    obtain ⟨q10, q11, q12⟩ := KX.out
    obtain ⟨q20, q21, q22⟩ := KS.out
    obtain ⟨q30, q31, q32⟩ := KY.out
    obtain ⟨q40, q41, q42⟩ := KZ.out
    obtain ⟨q50, q51, q52⟩ := KT.out
    obtain ⟨q60, q61, q62⟩ := KV.out
    go_wp2_with fail
    refine (NS.out _).mono ?_
    rintro e w16 ⟨rfl, b⟩
    replace KB := hid (KB.out.below b KB.out.lt)
    replace KX := hid (KX.out.below b KX.out.lt)
    replace KS := hid (KS.out.below b KS.out.lt)
    replace KY := hid (KY.out.below b KY.out.lt)
    replace KZ := hid (KZ.out.below b KZ.out.lt)
    replace KT := hid (KT.out.below b KT.out.lt)
    replace KV := hid (KV.out.below b KV.out.lt)
    replace B : Hid (Below w.heap.size w w16) := B.out.trans (b.mono B.out.size)
    clear b q00 q01 q02 q10 q11 q12 q20 q21 q22 q30 q31 q32 q40 q41 q42 q50 q51 q52 q60 q61 q62
    have b : Below w16.heap.size w16 (w16.alloc (.cells #[.int .i64 vt.1, .int .i64 vt.2.1, .int .i64 vt.2.2] 33)) := (Below.refl _ _).alloc (Nat.le_refl _) _
    replace KB := hid (KB.out.below b KB.out.lt)
    replace KX := hid (KX.out.below b KX.out.lt)
    replace KS := hid (KS.out.below b KS.out.lt)
    replace KY := hid (KY.out.below b KY.out.lt)
    replace KZ := hid (KZ.out.below b KZ.out.lt)
    replace KT := hid (KT.out.below b KT.out.lt)
    replace KV := hid (KV.out.below b KV.out.lt)
    have KM : Hid (BkCells (w16.alloc (.cells #[.int .i64 vt.1, .int .i64 vt.2.1, .int .i64 vt.2.2] 33)) w16.heap.size 0 vt) := (balloc3 _ _).1
    replace B : Hid (Below w.heap.size w (w16.alloc (.cells #[.int .i64 vt.1, .int .i64 vt.2.1, .int .i64 vt.2.2] 33))) := B.out.trans (b.mono B.out.size)
    clear b
    have hn1 : (tt != tt) = false := by simp
    have hn2 : (ty != ty) = false := by simp
    have hn3 : (tv != tv) = false := by simp
    obtain ⟨q00, q01, q02⟩ := KB.out
    obtain ⟨q10, q11, q12⟩ := KX.out
    obtain ⟨q20, q21, q22⟩ := KS.out
    obtain ⟨q30, q31, q32⟩ := KY.out
    obtain ⟨q40, q41, q42⟩ := KZ.out
    obtain ⟨q50, q51, q52⟩ := KT.out
    obtain ⟨q60, q61, q62⟩ := KV.out
    obtain ⟨q70, q71, q72⟩ := KM.out
    go_wp2_with fail
    refine (HTG.out _ tt TGb.out _).mono ?_
    rintro e w17 ⟨rfl, b⟩
    replace KB := hid (KB.out.below b KB.out.lt)
    replace KX := hid (KX.out.below b KX.out.lt)
    replace KS := hid (KS.out.below b KS.out.lt)
    replace KY := hid (KY.out.below b KY.out.lt)
    replace KZ := hid (KZ.out.below b KZ.out.lt)
    replace KT := hid (KT.out.below b KT.out.lt)
    replace KV := hid (KV.out.below b KV.out.lt)
    replace KM := hid (KM.out.below b KM.out.lt)
    replace B : Hid (Below w.heap.size w w17) := B.out.trans (b.mono B.out.size)
    clear b q00 q01 q02 q10 q11 q12 q20 q21 q22 q30 q31 q32 q40 q41 q42 q50 q51 q52 q60 q61 q62 q70 q71 q72
    clear hn1 hn2 hn3
    cases tt <;> cases ty <;> cases tv
    · obtain ⟨q00, q01, q02⟩ := KB.out
      obtain ⟨q10, q11, q12⟩ := KX.out
      obtain ⟨q20, q21, q22⟩ := KS.out
      obtain ⟨q30, q31, q32⟩ := KY.out
      obtain ⟨q40, q41, q42⟩ := KZ.out
      obtain ⟨q50, q51, q52⟩ := KT.out
      obtain ⟨q60, q61, q62⟩ := KV.out
      obtain ⟨q70, q71, q72⟩ := KM.out
      go_wp2
      go_ret
      exact ⟨by first | rfl | simp, B.out⟩
    · have hv := (NGo.out (by first | trivial | rfl)).2
      obtain ⟨q00, q01, q02⟩ := KB.out
      obtain ⟨q10, q11, q12⟩ := KX.out
      obtain ⟨q20, q21, q22⟩ := KS.out
      obtain ⟨q30, q31, q32⟩ := KY.out
      obtain ⟨q40, q41, q42⟩ := KZ.out
      obtain ⟨q50, q51, q52⟩ := KT.out
      obtain ⟨q60, q61, q62⟩ := KV.out
      obtain ⟨q70, q71, q72⟩ := KM.out
      go_wp2_with fail
      refine (HTG.out _ true (NGo.out (by first | trivial | rfl)).1 _).mono ?_
      rintro e w18 ⟨rfl, b⟩
      replace KB := hid (KB.out.below b KB.out.lt)
      replace KX := hid (KX.out.below b KX.out.lt)
      replace KS := hid (KS.out.below b KS.out.lt)
      replace KY := hid (KY.out.below b KY.out.lt)
      replace KZ := hid (KZ.out.below b KZ.out.lt)
      replace KT := hid (KT.out.below b KT.out.lt)
      replace KV := hid (KV.out.below b KV.out.lt)
      replace KM := hid (KM.out.below b KM.out.lt)
      replace B : Hid (Below w.heap.size w w18) := B.out.trans (b.mono B.out.size)
      clear b q00 q01 q02 q10 q11 q12 q20 q21 q22 q30 q31 q32 q40 q41 q42 q50 q51 q52 q60 q61 q62 q70 q71 q72
      obtain ⟨q00, q01, q02⟩ := KB.out
      obtain ⟨q10, q11, q12⟩ := KX.out
      obtain ⟨q20, q21, q22⟩ := KS.out
      obtain ⟨q30, q31, q32⟩ := KY.out
      obtain ⟨q40, q41, q42⟩ := KZ.out
      obtain ⟨q50, q51, q52⟩ := KT.out
      obtain ⟨q60, q61, q62⟩ := KV.out
      obtain ⟨q70, q71, q72⟩ := KM.out
      go_wp2
      go_ret
      exact ⟨by first | rfl | simp, B.out⟩
    · have hy := (YGo.out (by first | trivial | rfl)).2
      obtain ⟨q00, q01, q02⟩ := KB.out
      obtain ⟨q10, q11, q12⟩ := KX.out
      obtain ⟨q20, q21, q22⟩ := KS.out
      obtain ⟨q30, q31, q32⟩ := KY.out
      obtain ⟨q40, q41, q42⟩ := KZ.out
      obtain ⟨q50, q51, q52⟩ := KT.out
      obtain ⟨q60, q61, q62⟩ := KV.out
      obtain ⟨q70, q71, q72⟩ := KM.out
      go_wp2_with fail
      refine (HTG.out _ true (YGo.out (by first | trivial | rfl)).1 _).mono ?_
      rintro e w18 ⟨rfl, b⟩
      replace KB := hid (KB.out.below b KB.out.lt)
      replace KX := hid (KX.out.below b KX.out.lt)
      replace KS := hid (KS.out.below b KS.out.lt)
      replace KY := hid (KY.out.below b KY.out.lt)
      replace KZ := hid (KZ.out.below b KZ.out.lt)
      replace KT := hid (KT.out.below b KT.out.lt)
      replace KV := hid (KV.out.below b KV.out.lt)
      replace KM := hid (KM.out.below b KM.out.lt)
      replace B : Hid (Below w.heap.size w w18) := B.out.trans (b.mono B.out.size)
      clear b q00 q01 q02 q10 q11 q12 q20 q21 q22 q30 q31 q32 q40 q41 q42 q50 q51 q52 q60 q61 q62 q70 q71 q72
      obtain ⟨q00, q01, q02⟩ := KB.out
      obtain ⟨q10, q11, q12⟩ := KX.out
      obtain ⟨q20, q21, q22⟩ := KS.out
      obtain ⟨q30, q31, q32⟩ := KY.out
      obtain ⟨q40, q41, q42⟩ := KZ.out
      obtain ⟨q50, q51, q52⟩ := KT.out
      obtain ⟨q60, q61, q62⟩ := KV.out
      obtain ⟨q70, q71, q72⟩ := KM.out
      go_wp2
      go_ret
      exact ⟨by first | rfl | simp, B.out⟩
    · have hy := (YGo.out (by first | trivial | rfl)).2
      obtain ⟨q00, q01, q02⟩ := KB.out
      obtain ⟨q10, q11, q12⟩ := KX.out
      obtain ⟨q20, q21, q22⟩ := KS.out
      obtain ⟨q30, q31, q32⟩ := KY.out
      obtain ⟨q40, q41, q42⟩ := KZ.out
      obtain ⟨q50, q51, q52⟩ := KT.out
      obtain ⟨q60, q61, q62⟩ := KV.out
      obtain ⟨q70, q71, q72⟩ := KM.out
      go_wp2_with fail
      refine (HTG.out _ true (YGo.out (by first | trivial | rfl)).1 _).mono ?_
      rintro e w18 ⟨rfl, b⟩
      replace KB := hid (KB.out.below b KB.out.lt)
      replace KX := hid (KX.out.below b KX.out.lt)
      replace KS := hid (KS.out.below b KS.out.lt)
      replace KY := hid (KY.out.below b KY.out.lt)
      replace KZ := hid (KZ.out.below b KZ.out.lt)
      replace KT := hid (KT.out.below b KT.out.lt)
      replace KV := hid (KV.out.below b KV.out.lt)
      replace KM := hid (KM.out.below b KM.out.lt)
      replace B : Hid (Below w.heap.size w w18) := B.out.trans (b.mono B.out.size)
      clear b q00 q01 q02 q10 q11 q12 q20 q21 q22 q30 q31 q32 q40 q41 q42 q50 q51 q52 q60 q61 q62 q70 q71 q72
      have hv := (NGo.out (by first | trivial | rfl)).2
      obtain ⟨q00, q01, q02⟩ := KB.out
      obtain ⟨q10, q11, q12⟩ := KX.out
      obtain ⟨q20, q21, q22⟩ := KS.out
      obtain ⟨q30, q31, q32⟩ := KY.out
      obtain ⟨q40, q41, q42⟩ := KZ.out
      obtain ⟨q50, q51, q52⟩ := KT.out
      obtain ⟨q60, q61, q62⟩ := KV.out
      obtain ⟨q70, q71, q72⟩ := KM.out
      go_wp2_with fail
      refine (HTG.out _ true (NGo.out (by first | trivial | rfl)).1 _).mono ?_
      rintro e w19 ⟨rfl, b⟩
      replace KB := hid (KB.out.below b KB.out.lt)
      replace KX := hid (KX.out.below b KX.out.lt)
      replace KS := hid (KS.out.below b KS.out.lt)
      replace KY := hid (KY.out.below b KY.out.lt)
      replace KZ := hid (KZ.out.below b KZ.out.lt)
      replace KT := hid (KT.out.below b KT.out.lt)
      replace KV := hid (KV.out.below b KV.out.lt)
      replace KM := hid (KM.out.below b KM.out.lt)
      replace B : Hid (Below w.heap.size w w19) := B.out.trans (b.mono B.out.size)
      clear b q00 q01 q02 q10 q11 q12 q20 q21 q22 q30 q31 q32 q40 q41 q42 q50 q51 q52 q60 q61 q62 q70 q71 q72
      obtain ⟨q00, q01, q02⟩ := KB.out
      obtain ⟨q10, q11, q12⟩ := KX.out
      obtain ⟨q20, q21, q22⟩ := KS.out
      obtain ⟨q30, q31, q32⟩ := KY.out
      obtain ⟨q40, q41, q42⟩ := KZ.out
      obtain ⟨q50, q51, q52⟩ := KT.out
      obtain ⟨q60, q61, q62⟩ := KV.out
      obtain ⟨q70, q71, q72⟩ := KM.out
      go_wp2
      go_ret
      exact ⟨by first | rfl | simp, B.out⟩
    · obtain ⟨q00, q01, q02⟩ := KB.out
      obtain ⟨q10, q11, q12⟩ := KX.out
      obtain ⟨q20, q21, q22⟩ := KS.out
      obtain ⟨q30, q31, q32⟩ := KY.out
      obtain ⟨q40, q41, q42⟩ := KZ.out
      obtain ⟨q50, q51, q52⟩ := KT.out
      obtain ⟨q60, q61, q62⟩ := KV.out
      obtain ⟨q70, q71, q72⟩ := KM.out
      go_wp2_with fail
      refine (HTG.out _ true (TGo.out (by first | trivial | rfl)) _).mono ?_
      rintro e w18 ⟨rfl, b⟩
      replace KB := hid (KB.out.below b KB.out.lt)
      replace KX := hid (KX.out.below b KX.out.lt)
      replace KS := hid (KS.out.below b KS.out.lt)
      replace KY := hid (KY.out.below b KY.out.lt)
      replace KZ := hid (KZ.out.below b KZ.out.lt)
      replace KT := hid (KT.out.below b KT.out.lt)
      replace KV := hid (KV.out.below b KV.out.lt)
      replace KM := hid (KM.out.below b KM.out.lt)
      replace B : Hid (Below w.heap.size w w18) := B.out.trans (b.mono B.out.size)
      clear b q00 q01 q02 q10 q11 q12 q20 q21 q22 q30 q31 q32 q40 q41 q42 q50 q51 q52 q60 q61 q62 q70 q71 q72
      obtain ⟨q00, q01, q02⟩ := KB.out
      obtain ⟨q10, q11, q12⟩ := KX.out
      obtain ⟨q20, q21, q22⟩ := KS.out
      obtain ⟨q30, q31, q32⟩ := KY.out
      obtain ⟨q40, q41, q42⟩ := KZ.out
      obtain ⟨q50, q51, q52⟩ := KT.out
      obtain ⟨q60, q61, q62⟩ := KV.out
      obtain ⟨q70, q71, q72⟩ := KM.out
      go_wp2
      go_ret
      exact ⟨by first | rfl | simp, B.out⟩
    · obtain ⟨q00, q01, q02⟩ := KB.out
      obtain ⟨q10, q11, q12⟩ := KX.out
      obtain ⟨q20, q21, q22⟩ := KS.out
      obtain ⟨q30, q31, q32⟩ := KY.out
      obtain ⟨q40, q41, q42⟩ := KZ.out
      obtain ⟨q50, q51, q52⟩ := KT.out
      obtain ⟨q60, q61, q62⟩ := KV.out
      obtain ⟨q70, q71, q72⟩ := KM.out
      go_wp2_with fail
      refine (HTG.out _ true (TGo.out (by first | trivial | rfl)) _).mono ?_
      rintro e w18 ⟨rfl, b⟩
      replace KB := hid (KB.out.below b KB.out.lt)
      replace KX := hid (KX.out.below b KX.out.lt)
      replace KS := hid (KS.out.below b KS.out.lt)
      replace KY := hid (KY.out.below b KY.out.lt)
      replace KZ := hid (KZ.out.below b KZ.out.lt)
      replace KT := hid (KT.out.below b KT.out.lt)
      replace KV := hid (KV.out.below b KV.out.lt)
      replace KM := hid (KM.out.below b KM.out.lt)
      replace B : Hid (Below w.heap.size w w18) := B.out.trans (b.mono B.out.size)
      clear b q00 q01 q02 q10 q11 q12 q20 q21 q22 q30 q31 q32 q40 q41 q42 q50 q51 q52 q60 q61 q62 q70 q71 q72
      have hv := (NGo.out (by first | trivial | rfl)).2
      obtain ⟨q00, q01, q02⟩ := KB.out
      obtain ⟨q10, q11, q12⟩ := KX.out
      obtain ⟨q20, q21, q22⟩ := KS.out
      obtain ⟨q30, q31, q32⟩ := KY.out
      obtain ⟨q40, q41, q42⟩ := KZ.out
      obtain ⟨q50, q51, q52⟩ := KT.out
      obtain ⟨q60, q61, q62⟩ := KV.out
      obtain ⟨q70, q71, q72⟩ := KM.out
      go_wp2_with fail
      refine (HTG.out _ true (NGo.out (by first | trivial | rfl)).1 _).mono ?_
      rintro e w19 ⟨rfl, b⟩
      replace KB := hid (KB.out.below b KB.out.lt)
      replace KX := hid (KX.out.below b KX.out.lt)
      replace KS := hid (KS.out.below b KS.out.lt)
      replace KY := hid (KY.out.below b KY.out.lt)
      replace KZ := hid (KZ.out.below b KZ.out.lt)
      replace KT := hid (KT.out.below b KT.out.lt)
      replace KV := hid (KV.out.below b KV.out.lt)
      replace KM := hid (KM.out.below b KM.out.lt)
      replace B : Hid (Below w.heap.size w w19) := B.out.trans (b.mono B.out.size)
      clear b q00 q01 q02 q10 q11 q12 q20 q21 q22 q30 q31 q32 q40 q41 q42 q50 q51 q52 q60 q61 q62 q70 q71 q72
      obtain ⟨q00, q01, q02⟩ := KB.out
      obtain ⟨q10, q11, q12⟩ := KX.out
      obtain ⟨q20, q21, q22⟩ := KS.out
      obtain ⟨q30, q31, q32⟩ := KY.out
      obtain ⟨q40, q41, q42⟩ := KZ.out
      obtain ⟨q50, q51, q52⟩ := KT.out
      obtain ⟨q60, q61, q62⟩ := KV.out
      obtain ⟨q70, q71, q72⟩ := KM.out
      go_wp2
      go_ret
      exact ⟨by first | rfl | simp, B.out⟩
    · obtain ⟨q00, q01, q02⟩ := KB.out
      obtain ⟨q10, q11, q12⟩ := KX.out
      obtain ⟨q20, q21, q22⟩ := KS.out
      obtain ⟨q30, q31, q32⟩ := KY.out
      obtain ⟨q40, q41, q42⟩ := KZ.out
      obtain ⟨q50, q51, q52⟩ := KT.out
      obtain ⟨q60, q61, q62⟩ := KV.out
      obtain ⟨q70, q71, q72⟩ := KM.out
      go_wp2_with fail
      refine (HTG.out _ true (TGo.out (by first | trivial | rfl)) _).mono ?_
      rintro e w18 ⟨rfl, b⟩
      replace KB := hid (KB.out.below b KB.out.lt)
      replace KX := hid (KX.out.below b KX.out.lt)
      replace KS := hid (KS.out.below b KS.out.lt)
      replace KY := hid (KY.out.below b KY.out.lt)
      replace KZ := hid (KZ.out.below b KZ.out.lt)
      replace KT := hid (KT.out.below b KT.out.lt)
      replace KV := hid (KV.out.below b KV.out.lt)
      replace KM := hid (KM.out.below b KM.out.lt)
      replace B : Hid (Below w.heap.size w w18) := B.out.trans (b.mono B.out.size)
      clear b q00 q01 q02 q10 q11 q12 q20 q21 q22 q30 q31 q32 q40 q41 q42 q50 q51 q52 q60 q61 q62 q70 q71 q72
      have hy := (YGo.out (by first | trivial | rfl)).2
      obtain ⟨q00, q01, q02⟩ := KB.out
      obtain ⟨q10, q11, q12⟩ := KX.out
      obtain ⟨q20, q21, q22⟩ := KS.out
      obtain ⟨q30, q31, q32⟩ := KY.out
      obtain ⟨q40, q41, q42⟩ := KZ.out
      obtain ⟨q50, q51, q52⟩ := KT.out
      obtain ⟨q60, q61, q62⟩ := KV.out
      obtain ⟨q70, q71, q72⟩ := KM.out
      go_wp2_with fail
      refine (HTG.out _ true (YGo.out (by first | trivial | rfl)).1 _).mono ?_
      rintro e w19 ⟨rfl, b⟩
      replace KB := hid (KB.out.below b KB.out.lt)
      replace KX := hid (KX.out.below b KX.out.lt)
      replace KS := hid (KS.out.below b KS.out.lt)
      replace KY := hid (KY.out.below b KY.out.lt)
      replace KZ := hid (KZ.out.below b KZ.out.lt)
      replace KT := hid (KT.out.below b KT.out.lt)
      replace KV := hid (KV.out.below b KV.out.lt)
      replace KM := hid (KM.out.below b KM.out.lt)
      replace B : Hid (Below w.heap.size w w19) := B.out.trans (b.mono B.out.size)
      clear b q00 q01 q02 q10 q11 q12 q20 q21 q22 q30 q31 q32 q40 q41 q42 q50 q51 q52 q60 q61 q62 q70 q71 q72
      obtain ⟨q00, q01, q02⟩ := KB.out
      obtain ⟨q10, q11, q12⟩ := KX.out
      obtain ⟨q20, q21, q22⟩ := KS.out
      obtain ⟨q30, q31, q32⟩ := KY.out
      obtain ⟨q40, q41, q42⟩ := KZ.out
      obtain ⟨q50, q51, q52⟩ := KT.out
      obtain ⟨q60, q61, q62⟩ := KV.out
      obtain ⟨q70, q71, q72⟩ := KM.out
      go_wp2
      go_ret
      exact ⟨by first | rfl | simp, B.out⟩
    · obtain ⟨q00, q01, q02⟩ := KB.out
      obtain ⟨q10, q11, q12⟩ := KX.out
      obtain ⟨q20, q21, q22⟩ := KS.out
      obtain ⟨q30, q31, q32⟩ := KY.out
      obtain ⟨q40, q41, q42⟩ := KZ.out
      obtain ⟨q50, q51, q52⟩ := KT.out
      obtain ⟨q60, q61, q62⟩ := KV.out
      obtain ⟨q70, q71, q72⟩ := KM.out
      go_wp2_with fail
      refine (HTG.out _ true (TGo.out (by first | trivial | rfl)) _).mono ?_
      rintro e w18 ⟨rfl, b⟩
      replace KB := hid (KB.out.below b KB.out.lt)
      replace KX := hid (KX.out.below b KX.out.lt)
      replace KS := hid (KS.out.below b KS.out.lt)
      replace KY := hid (KY.out.below b KY.out.lt)
      replace KZ := hid (KZ.out.below b KZ.out.lt)
      replace KT := hid (KT.out.below b KT.out.lt)
      replace KV := hid (KV.out.below b KV.out.lt)
      replace KM := hid (KM.out.below b KM.out.lt)
      replace B : Hid (Below w.heap.size w w18) := B.out.trans (b.mono B.out.size)
      clear b q00 q01 q02 q10 q11 q12 q20 q21 q22 q30 q31 q32 q40 q41 q42 q50 q51 q52 q60 q61 q62 q70 q71 q72
      have hy := (YGo.out (by first | trivial | rfl)).2
      obtain ⟨q00, q01, q02⟩ := KB.out
      obtain ⟨q10, q11, q12⟩ := KX.out
      obtain ⟨q20, q21, q22⟩ := KS.out
      obtain ⟨q30, q31, q32⟩ := KY.out
      obtain ⟨q40, q41, q42⟩ := KZ.out
      obtain ⟨q50, q51, q52⟩ := KT.out
      obtain ⟨q60, q61, q62⟩ := KV.out
      obtain ⟨q70, q71, q72⟩ := KM.out
      go_wp2_with fail
      refine (HTG.out _ true (YGo.out (by first | trivial | rfl)).1 _).mono ?_
      rintro e w19 ⟨rfl, b⟩
      replace KB := hid (KB.out.below b KB.out.lt)
      replace KX := hid (KX.out.below b KX.out.lt)
      replace KS := hid (KS.out.below b KS.out.lt)
      replace KY := hid (KY.out.below b KY.out.lt)
      replace KZ := hid (KZ.out.below b KZ.out.lt)
      replace KT := hid (KT.out.below b KT.out.lt)
      replace KV := hid (KV.out.below b KV.out.lt)
      replace KM := hid (KM.out.below b KM.out.lt)
      replace B : Hid (Below w.heap.size w w19) := B.out.trans (b.mono B.out.size)
      clear b q00 q01 q02 q10 q11 q12 q20 q21 q22 q30 q31 q32 q40 q41 q42 q50 q51 q52 q60 q61 q62 q70 q71 q72
      have hv := (NGo.out (by first | trivial | rfl)).2
      obtain ⟨q00, q01, q02⟩ := KB.out
      obtain ⟨q10, q11, q12⟩ := KX.out
      obtain ⟨q20, q21, q22⟩ := KS.out
      obtain ⟨q30, q31, q32⟩ := KY.out
      obtain ⟨q40, q41, q42⟩ := KZ.out
      obtain ⟨q50, q51, q52⟩ := KT.out
      obtain ⟨q60, q61, q62⟩ := KV.out
      obtain ⟨q70, q71, q72⟩ := KM.out
      go_wp2_with fail
      refine (HTG.out _ true (NGo.out (by first | trivial | rfl)).1 _).mono ?_
      rintro e w20 ⟨rfl, b⟩
      replace KB := hid (KB.out.below b KB.out.lt)
      replace KX := hid (KX.out.below b KX.out.lt)
      replace KS := hid (KS.out.below b KS.out.lt)
      replace KY := hid (KY.out.below b KY.out.lt)
      replace KZ := hid (KZ.out.below b KZ.out.lt)
      replace KT := hid (KT.out.below b KT.out.lt)
      replace KV := hid (KV.out.below b KV.out.lt)
      replace KM := hid (KM.out.below b KM.out.lt)
      replace B : Hid (Below w.heap.size w w20) := B.out.trans (b.mono B.out.size)
      clear b q00 q01 q02 q10 q11 q12 q20 q21 q22 q30 q31 q32 q40 q41 q42 q50 q51 q52 q60 q61 q62 q70 q71 q72
      obtain ⟨q00, q01, q02⟩ := KB.out
      obtain ⟨q10, q11, q12⟩ := KX.out
      obtain ⟨q20, q21, q22⟩ := KS.out
      obtain ⟨q30, q31, q32⟩ := KY.out
      obtain ⟨q40, q41, q42⟩ := KZ.out
      obtain ⟨q50, q51, q52⟩ := KT.out
      obtain ⟨q60, q61, q62⟩ := KV.out
      obtain ⟨q70, q71, q72⟩ := KM.out
      go_wp2
      go_ret
      exact ⟨by first | rfl | simp, B.out⟩
  · obtain ⟨hb, hf⟩ : rateB r d = true ∧ flowB xs = true := by rw [← Bool.and_eq_true]; simpa using hn
    have HRb := hid hb
    have HF := hid hf
    have hlen := flowB_len hf
    obtain ⟨os, hos⟩ : ∃ os, os = goL (goes r d (fl xs)) xs.length := ⟨_, rfl⟩
    obtain ⟨ws, hws⟩ : ∃ ws, ws = goL (fun t => (sh r d (fl xs) (t + 1)).2) xs.length := ⟨_, rfl⟩
    obtain ⟨c, hc⟩ : ∃ c, c = confF r d xs := ⟨_, rfl⟩
    have hol : os.length = xs.length := by rw [hos, goL_len]
    have hwl : ws.length = xs.length := by rw [hws, goL_len]
    have K1 : Hid (∀ v w, KReads w v xs → Calls Try.prog 6 #[.int .i64 r, .int .i64 d, v] w fun e w' => ∃ u0 u1, e = .returned (.tuple #[u0, u1, .bool true]) ∧ KOwn w.heap.size w'.heap.size w' u0 os ∧ KOwn w.heap.size w'.heap.size w' u1 ws ∧ Apart7 u0 u1 ∧ Below w.heap.size w w') := fun v w hr => by rw [hos, hws]; exact HTS.out.yes r d v xs w hr hb hf
    have K2 : Hid (∀ v w, KReads w v xs → Calls Try.prog 7 #[.int .i64 r, .int .i64 d, v] w fun e w' => ∃ u0 u1, e = .returned (.tuple #[u0, u1, .bool true]) ∧ KOwn w.heap.size w'.heap.size w' u0 os ∧ KOwn w.heap.size w'.heap.size w' u1 ws ∧ Apart7 u0 u1 ∧ Below w.heap.size w w') := fun v w hr => by rw [hos, hws]; exact sshape_yes r d v xs w hr hb hf
    have K3 : Hid (∀ v w, KReads w v xs → Calls Try.prog 8 #[.int .i64 r, .int .i64 d, v] w fun e w' => e = .returned (.tuple #[.bool c, .bool true]) ∧ Below w.heap.size w w') := fun v w hr => by rw [hc]; exact HTC.out.yes r d v xs w hr hb hf
    have K4 : Hid (∀ v w, KReads w v xs → Calls Try.prog 9 #[.int .i64 r, .int .i64 d, v] w fun e w' => e = .returned (.tuple #[.bool c, .bool true]) ∧ Below w.heap.size w w') := fun v w hr => by rw [hc]; exact sconf_yes r d v xs w hr hb hf
    have K5 : Hid (∀ v w, KReads w v os → Calls Try.prog 8 #[.int .i64 r, .int .i64 d, v] w fun e w' => e = .returned (.tuple #[.bool true, .bool true]) ∧ Below w.heap.size w w') := fun v w hr => by
      have := HTC.out.yes r d v os w hr hb (by rw [hos]; exact goes_flow hb hf)
      rw [hos, goes_confF hb hf] at this
      exact this
    have HSame : Hid (decide (os = xs) = c) := by show _ = _; rw [hos, hc]; exact (confF_same hb hf).symm
    have HSum : Hid (∀ k : Nat, xs.length = k + 1 → psum (fl os) os.length + fl ws k = psum (fl xs) xs.length ∧ 0 ≤ psum (fl os) os.length ∧ psum (fl os) os.length ≤ 10000 ∧ 0 ≤ fl ws k ∧ fl ws k ≤ 10000) := fun k hk => by rw [hos, hws]; exact shape_sum hb hf hk
    have HBo : Hid (∀ t, 0 ≤ fl os t ∧ fl os t ≤ 10000) := fun t => by rw [hos]; have := flowB_in (goes_flow hb hf) t; omega
    have HBx : Hid (∀ t, 0 ≤ fl xs t ∧ fl xs t ≤ 10000) := fun t => by have := flowB_in hf t; omega
    have HOL := hid hol
    have HWL := hid hwl
    have hcc : (c != c) = false := by simp
    clear hn hb hf hos hws hc hol hwl
    go_wp2_with fail
    refine (K1.out _ _ RT.out).mono ?_
    rintro e w2 ⟨uRA, uRW, rfl, oa, ob, _, b⟩
    replace RT := hid (RT.out.below b)
    have RA := hid oa.reads
    have RW := hid ob.reads
    clear oa ob
    replace B : Hid (Below w.heap.size w w2) := B.out.trans (b.mono B.out.size)
    clear b
    go_wp2_with fail
    refine (K2.out _ _ RT.out).mono ?_
    rintro e w3 ⟨uRS, uRV, rfl, oa, ob, _, b⟩
    replace RT := hid (RT.out.below b)
    replace RA := hid (RA.out.below b)
    replace RW := hid (RW.out.below b)
    have RS := hid oa.reads
    have RV := hid ob.reads
    clear oa ob
    replace B : Hid (Below w.heap.size w w3) := B.out.trans (b.mono B.out.size)
    clear b
    go_wp2_with fail
    refine (K3.out _ _ RT.out).mono ?_
    rintro e w4 ⟨rfl, b⟩
    replace RT := hid (RT.out.below b)
    replace RA := hid (RA.out.below b)
    replace RW := hid (RW.out.below b)
    replace RS := hid (RS.out.below b)
    replace RV := hid (RV.out.below b)
    replace B : Hid (Below w.heap.size w w4) := B.out.trans (b.mono B.out.size)
    clear b
    go_wp2_with fail
    refine (K4.out _ _ RT.out).mono ?_
    rintro e w5 ⟨rfl, b⟩
    replace RT := hid (RT.out.below b)
    replace RA := hid (RA.out.below b)
    replace RW := hid (RW.out.below b)
    replace RS := hid (RS.out.below b)
    replace RV := hid (RV.out.below b)
    replace B : Hid (Below w.heap.size w w5) := B.out.trans (b.mono B.out.size)
    clear b
    go_wp2_with fail
    refine (sameInts_same _ _ _ _ RA.out.r RS.out.r).mono ?_
    rintro e w6 ⟨rfl, b⟩
    replace RT := hid (RT.out.below b)
    replace RA := hid (RA.out.below b)
    replace RW := hid (RW.out.below b)
    replace RS := hid (RS.out.below b)
    replace RV := hid (RV.out.below b)
    replace B : Hid (Below w.heap.size w w6) := B.out.trans (b.mono B.out.size)
    clear b
    go_wp2_with fail
    refine (sameInts_same _ _ _ _ RW.out.r RV.out.r).mono ?_
    rintro e w7 ⟨rfl, b⟩
    replace RT := hid (RT.out.below b)
    replace RA := hid (RA.out.below b)
    replace RW := hid (RW.out.below b)
    replace RS := hid (RS.out.below b)
    replace RV := hid (RV.out.below b)
    replace B : Hid (Below w.heap.size w w7) := B.out.trans (b.mono B.out.size)
    clear b
    clear RS RV
    go_wp2_with fail
    refine (K5.out _ _ RA.out).mono ?_
    rintro e w8 ⟨rfl, b⟩
    replace RT := hid (RT.out.below b)
    replace RA := hid (RA.out.below b)
    replace RW := hid (RW.out.below b)
    replace B : Hid (Below w.heap.size w w8) := B.out.trans (b.mono B.out.size)
    clear b
    go_wp2_with fail
    refine (sameInts_dec _ _ os xs c HSame.out HOL.out.symm _ RA.out RT.out).mono ?_
    rintro e w9 ⟨rfl, b⟩
    replace RT := hid (RT.out.below b)
    replace RA := hid (RA.out.below b)
    replace RW := hid (RW.out.below b)
    replace B : Hid (Below w.heap.size w w9) := B.out.trans (b.mono B.out.size)
    clear b
    obtain ⟨ao, cao, eo, _, _⟩ := RA.out
    rw [HOL.out] at eo
    subst eo
    obtain ⟨aw, caw, ew, _, hwc⟩ := RW.out
    rw [HWL.out] at ew
    subst ew
    by_cases hz : 0 < xs.length
    · have d0 : decide ((0 : Int) < (xs.length : Int)) = true := by rw [decide_eq_true_eq]; omega
      obtain ⟨k, hk⟩ : ∃ k, xs.length = k + 1 := ⟨xs.length - 1, by omega⟩
      obtain ⟨hs1, hs2, hs3, hs4, hs5⟩ := HSum.out k hk
      obtain ⟨gw, ow, rfl, hcw⟩ : ∃ g o, aw = some ⟨g, o, none⟩ ∧ w9.cell? ⟨g, o + k, none⟩ = some (.int .i64 (fl ws k)) := by
        rcases hwc with h | ⟨g, o, h1, h2⟩
        · have := HWL.out; rw [h] at this; simp at this; omega
        · exact ⟨g, o, h1, h2 k (by rw [HWL.out]; omega)⟩
      obtain ⟨so, hso⟩ : ∃ so, so = psum (fl os) os.length := ⟨_, rfl⟩
      obtain ⟨sx, hsx⟩ : ∃ sx, sx = psum (fl xs) xs.length := ⟨_, rfl⟩
      obtain ⟨wk, hwk⟩ : ∃ wk, wk = fl ws k := ⟨_, rfl⟩
      have HQ : Hid (∀ v s wq, (v = .slice ao xs.length cao ∧ s = so) ∨ (v = .slice al xs.length cal ∧ s = sx) → Below w9.heap.size w9 wq → Calls Try.prog 11 #[v] wq fun e w' => e = .returned (.int .i64 s) ∧ w' = wq) := fun v s wq h hq => by
        rcases h with ⟨rfl, rfl⟩ | ⟨rfl, rfl⟩
        · rw [hso]; exact sumOf_any _ os _ (RA.out.below hq) (by rw [HOL.out]; omega) HBo.out
        · rw [hsx]; exact sumOf_any _ xs _ (RT.out.below hq) (by omega) HBx.out
      have qX : Below w9.heap.size w9 w9.drew := (Below.refl _ _).drew
      rw [← hso, ← hwk, ← hsx] at hs1
      rw [← hso] at hs2 hs3
      rw [← hwk] at hs4 hs5 hcw
      have hnl : IntKind.i64.wrap ((xs.length : Int) - 1) = (k : Int) := by rw [IntKind.wrap_i64]; omega
      have hsw : IntKind.i64.wrap (so + wk) = sx := by rw [IntKind.wrap_i64]; omega
      have hnn : (sx != sx) = false := by simp
      have n0 : (0 : Int) ≤ (k : Int) := by omega
      have n1 : (k : Int) < (xs.length : Int) := by omega
      have d1 : decide (0 < xs.length) = true := by rw [decide_eq_true_eq]; exact hz
      clear hwc hso hsx hwk hs1 hs2 hs3 hs4 hs5 hk
      go_wp2_with fail
      go_region_held3 (fun w' => w'.cell? ⟨gw, ow + k, none⟩ = some (.int .i64 wk) ∧ Below w9.heap.size w9 w') (first | (refine ⟨?_, ?_⟩ <;> assumption) | exact ⟨hcw, qX⟩)
        (first | (go_at_call 11; refine (HQ.out _ _ _ (by first | exact .inl ⟨rfl, rfl⟩ | exact .inr ⟨rfl, rfl⟩) (by first | assumption | exact (by assumption : _ ∧ Below w9.heap.size w9 _).2)).mono ?_; rintro e w' ⟨rfl, hw⟩; obtain rfl := hw.symm))
      replace B : Hid (Below w.heap.size w _) := B.out.drew
      clear RT RA RW
      go_wp2_with fail
      refine (drawTickB_any _ _ (code_after8 HC1.out B.out)).mono ?_
      rintro e w10 ⟨xb, rfl, b⟩
      replace B : Hid (Below w.heap.size w w10) := B.out.trans (b.mono B.out.size)
      clear b
      obtain ⟨xt, tt, hI, hS, hg, hgo⟩ := tick_case HTT.out xb
      have TI := hid hI
      have TS := hid hS
      have TGb := hid hg
      have TGo := hid hgo
      clear hI hS hg hgo
      have b : Below w10.heap.size w10 (w10.alloc (.cells #[.int .i64 xb.1, .int .i64 xb.2.1, .int .i64 xb.2.2] 33)) := (Below.refl _ _).alloc (Nat.le_refl _) _
      have KB : Hid (BkCells (w10.alloc (.cells #[.int .i64 xb.1, .int .i64 xb.2.1, .int .i64 xb.2.2] 33)) w10.heap.size 0 xb) := (balloc3 _ _).1
      replace B : Hid (Below w.heap.size w (w10.alloc (.cells #[.int .i64 xb.1, .int .i64 xb.2.1, .int .i64 xb.2.2] 33))) := B.out.trans (b.mono B.out.size)
      clear b
      obtain ⟨q00, q01, q02⟩ := KB.out
      go_wp2_with fail
      refine (TI.out _).mono ?_
      rintro e w11 ⟨rfl, b⟩
      replace KB := hid (KB.out.below b KB.out.lt)
      replace B : Hid (Below w.heap.size w w11) := B.out.trans (b.mono B.out.size)
      clear b q00 q01 q02
      have b : Below w11.heap.size w11 (w11.alloc (.cells #[.int .i64 xt.1, .int .i64 xt.2.1, .int .i64 xt.2.2] 33)) := (Below.refl _ _).alloc (Nat.le_refl _) _
      replace KB := hid (KB.out.below b KB.out.lt)
      have KX : Hid (BkCells (w11.alloc (.cells #[.int .i64 xt.1, .int .i64 xt.2.1, .int .i64 xt.2.2] 33)) w11.heap.size 0 xt) := (balloc3 _ _).1
      replace B : Hid (Below w.heap.size w (w11.alloc (.cells #[.int .i64 xt.1, .int .i64 xt.2.1, .int .i64 xt.2.2] 33))) := B.out.trans (b.mono B.out.size)
      clear b
      obtain ⟨q00, q01, q02⟩ := KB.out
      obtain ⟨q10, q11, q12⟩ := KX.out
      go_wp2_with fail
      refine (TS.out _).mono ?_
      rintro e w12 ⟨rfl, b⟩
      replace KB := hid (KB.out.below b KB.out.lt)
      replace KX := hid (KX.out.below b KX.out.lt)
      replace B : Hid (Below w.heap.size w w12) := B.out.trans (b.mono B.out.size)
      clear b q00 q01 q02 q10 q11 q12
      have b : Below w12.heap.size w12 (w12.alloc (.cells #[.int .i64 xt.1, .int .i64 xt.2.1, .int .i64 xt.2.2] 33)) := (Below.refl _ _).alloc (Nat.le_refl _) _
      replace KB := hid (KB.out.below b KB.out.lt)
      replace KX := hid (KX.out.below b KX.out.lt)
      have KS : Hid (BkCells (w12.alloc (.cells #[.int .i64 xt.1, .int .i64 xt.2.1, .int .i64 xt.2.2] 33)) w12.heap.size 0 xt) := (balloc3 _ _).1
      replace B : Hid (Below w.heap.size w (w12.alloc (.cells #[.int .i64 xt.1, .int .i64 xt.2.1, .int .i64 xt.2.2] 33))) := B.out.trans (b.mono B.out.size)
      clear b
      obtain ⟨q00, q01, q02⟩ := KB.out
      obtain ⟨q10, q11, q12⟩ := KX.out
      obtain ⟨q20, q21, q22⟩ := KS.out
      go_wp2_with fail
      refine (drawTakeB_any _ _ (code_after8 HC1.out B.out)).mono ?_
      rintro e w13 ⟨yb, m, rfl, b⟩
      replace KB := hid (KB.out.below b KB.out.lt)
      replace KX := hid (KX.out.below b KX.out.lt)
      replace KS := hid (KS.out.below b KS.out.lt)
      replace B : Hid (Below w.heap.size w w13) := B.out.trans (b.mono B.out.size)
      clear b q00 q01 q02 q10 q11 q12 q20 q21 q22
      obtain ⟨yt, ty, hI, hS, hgo⟩ := take_case HTK.out yb m
      have YI := hid hI
      have YS := hid hS
      have YGo := hid hgo
      clear hI hS hgo
      have b : Below w13.heap.size w13 (w13.alloc (.cells #[.int .i64 yb.1, .int .i64 yb.2.1, .int .i64 yb.2.2] 33)) := (Below.refl _ _).alloc (Nat.le_refl _) _
      replace KB := hid (KB.out.below b KB.out.lt)
      replace KX := hid (KX.out.below b KX.out.lt)
      replace KS := hid (KS.out.below b KS.out.lt)
      have KY : Hid (BkCells (w13.alloc (.cells #[.int .i64 yb.1, .int .i64 yb.2.1, .int .i64 yb.2.2] 33)) w13.heap.size 0 yb) := (balloc3 _ _).1
      replace B : Hid (Below w.heap.size w (w13.alloc (.cells #[.int .i64 yb.1, .int .i64 yb.2.1, .int .i64 yb.2.2] 33))) := B.out.trans (b.mono B.out.size)
      clear b
      obtain ⟨q00, q01, q02⟩ := KB.out
      obtain ⟨q10, q11, q12⟩ := KX.out
      obtain ⟨q20, q21, q22⟩ := KS.out
      obtain ⟨q30, q31, q32⟩ := KY.out
      go_wp2_with fail
      refine (YI.out _).mono ?_
      rintro e w14 ⟨rfl, b⟩
      replace KB := hid (KB.out.below b KB.out.lt)
      replace KX := hid (KX.out.below b KX.out.lt)
      replace KS := hid (KS.out.below b KS.out.lt)
      replace KY := hid (KY.out.below b KY.out.lt)
      replace B : Hid (Below w.heap.size w w14) := B.out.trans (b.mono B.out.size)
      clear b q00 q01 q02 q10 q11 q12 q20 q21 q22 q30 q31 q32
      have b : Below w14.heap.size w14 (w14.alloc (.cells #[.int .i64 yt.1, .int .i64 yt.2.1, .int .i64 yt.2.2] 33)) := (Below.refl _ _).alloc (Nat.le_refl _) _
      replace KB := hid (KB.out.below b KB.out.lt)
      replace KX := hid (KX.out.below b KX.out.lt)
      replace KS := hid (KS.out.below b KS.out.lt)
      replace KY := hid (KY.out.below b KY.out.lt)
      have KZ : Hid (BkCells (w14.alloc (.cells #[.int .i64 yt.1, .int .i64 yt.2.1, .int .i64 yt.2.2] 33)) w14.heap.size 0 yt) := (balloc3 _ _).1
      replace B : Hid (Below w.heap.size w (w14.alloc (.cells #[.int .i64 yt.1, .int .i64 yt.2.1, .int .i64 yt.2.2] 33))) := B.out.trans (b.mono B.out.size)
      clear b
      obtain ⟨q00, q01, q02⟩ := KB.out
      obtain ⟨q10, q11, q12⟩ := KX.out
      obtain ⟨q20, q21, q22⟩ := KS.out
      obtain ⟨q30, q31, q32⟩ := KY.out
      obtain ⟨q40, q41, q42⟩ := KZ.out
      go_wp2_with fail
      refine (YS.out _).mono ?_
      rintro e w15 ⟨rfl, b⟩
      replace KB := hid (KB.out.below b KB.out.lt)
      replace KX := hid (KX.out.below b KX.out.lt)
      replace KS := hid (KS.out.below b KS.out.lt)
      replace KY := hid (KY.out.below b KY.out.lt)
      replace KZ := hid (KZ.out.below b KZ.out.lt)
      replace B : Hid (Below w.heap.size w w15) := B.out.trans (b.mono B.out.size)
      clear b q00 q01 q02 q10 q11 q12 q20 q21 q22 q30 q31 q32 q40 q41 q42
      have b : Below w15.heap.size w15 (w15.alloc (.cells #[.int .i64 yt.1, .int .i64 yt.2.1, .int .i64 yt.2.2] 33)) := (Below.refl _ _).alloc (Nat.le_refl _) _
      replace KB := hid (KB.out.below b KB.out.lt)
      replace KX := hid (KX.out.below b KX.out.lt)
      replace KS := hid (KS.out.below b KS.out.lt)
      replace KY := hid (KY.out.below b KY.out.lt)
      replace KZ := hid (KZ.out.below b KZ.out.lt)
      have KT : Hid (BkCells (w15.alloc (.cells #[.int .i64 yt.1, .int .i64 yt.2.1, .int .i64 yt.2.2] 33)) w15.heap.size 0 yt) := (balloc3 _ _).1
      replace B : Hid (Below w.heap.size w (w15.alloc (.cells #[.int .i64 yt.1, .int .i64 yt.2.1, .int .i64 yt.2.2] 33))) := B.out.trans (b.mono B.out.size)
      clear b
      obtain ⟨q00, q01, q02⟩ := KB.out
      obtain ⟨q10, q11, q12⟩ := KX.out
      obtain ⟨q20, q21, q22⟩ := KS.out
      obtain ⟨q30, q31, q32⟩ := KY.out
      obtain ⟨q40, q41, q42⟩ := KZ.out
      obtain ⟨q50, q51, q52⟩ := KT.out
      go_wp2_with fail
      refine (drawNewB_any _ _ (code_after8 HC1.out B.out)).mono ?_
      rintro e w16 ⟨rn, dn, rfl, b⟩
      replace KB := hid (KB.out.below b KB.out.lt)
      replace KX := hid (KX.out.below b KX.out.lt)
      replace KS := hid (KS.out.below b KS.out.lt)
      replace KY := hid (KY.out.below b KY.out.lt)
      replace KZ := hid (KZ.out.below b KZ.out.lt)
      replace KT := hid (KT.out.below b KT.out.lt)
      replace B : Hid (Below w.heap.size w w16) := B.out.trans (b.mono B.out.size)
      clear b q00 q01 q02 q10 q11 q12 q20 q21 q22 q30 q31 q32 q40 q41 q42 q50 q51 q52
      obtain ⟨vt, tv, hI, hS, hgo⟩ := new_case HTN.out rn dn
      have NI := hid hI
      have NS := hid hS
      have NGo := hid hgo
      clear hI hS hgo
      obtain ⟨q00, q01, q02⟩ := KB.out
      obtain ⟨q10, q11, q12⟩ := KX.out
      obtain ⟨q20, q21, q22⟩ := KS.out
      obtain ⟨q30, q31, q32⟩ := KY.out
      obtain ⟨q40, q41, q42⟩ := KZ.out
      obtain ⟨q50, q51, q52⟩ := KT.out
      go_wp2_with fail
      refine (NI.out _).mono ?_
      rintro e w17 ⟨rfl, b⟩
      replace KB := hid (KB.out.below b KB.out.lt)
      replace KX := hid (KX.out.below b KX.out.lt)
      replace KS := hid (KS.out.below b KS.out.lt)
      replace KY := hid (KY.out.below b KY.out.lt)
      replace KZ := hid (KZ.out.below b KZ.out.lt)
      replace KT := hid (KT.out.below b KT.out.lt)
      replace B : Hid (Below w.heap.size w w17) := B.out.trans (b.mono B.out.size)
      clear b q00 q01 q02 q10 q11 q12 q20 q21 q22 q30 q31 q32 q40 q41 q42 q50 q51 q52
      have b : Below w17.heap.size w17 (w17.alloc (.cells #[.int .i64 vt.1, .int .i64 vt.2.1, .int .i64 vt.2.2] 33)) := (Below.refl _ _).alloc (Nat.le_refl _) _
      replace KB := hid (KB.out.below b KB.out.lt)
      replace KX := hid (KX.out.below b KX.out.lt)
      replace KS := hid (KS.out.below b KS.out.lt)
      replace KY := hid (KY.out.below b KY.out.lt)
      replace KZ := hid (KZ.out.below b KZ.out.lt)
      replace KT := hid (KT.out.below b KT.out.lt)
      have KV : Hid (BkCells (w17.alloc (.cells #[.int .i64 vt.1, .int .i64 vt.2.1, .int .i64 vt.2.2] 33)) w17.heap.size 0 vt) := (balloc3 _ _).1
      replace B : Hid (Below w.heap.size w (w17.alloc (.cells #[.int .i64 vt.1, .int .i64 vt.2.1, .int .i64 vt.2.2] 33))) := B.out.trans (b.mono B.out.size)
      clear b
      obtain ⟨q00, q01, q02⟩ := KB.out
      obtain ⟨q10, q11, q12⟩ := KX.out
      obtain ⟨q20, q21, q22⟩ := KS.out
      obtain ⟨q30, q31, q32⟩ := KY.out
      obtain ⟨q40, q41, q42⟩ := KZ.out
      obtain ⟨q50, q51, q52⟩ := KT.out
      obtain ⟨q60, q61, q62⟩ := KV.out
      go_wp2_with fail
      refine (NS.out _).mono ?_
      rintro e w18 ⟨rfl, b⟩
      replace KB := hid (KB.out.below b KB.out.lt)
      replace KX := hid (KX.out.below b KX.out.lt)
      replace KS := hid (KS.out.below b KS.out.lt)
      replace KY := hid (KY.out.below b KY.out.lt)
      replace KZ := hid (KZ.out.below b KZ.out.lt)
      replace KT := hid (KT.out.below b KT.out.lt)
      replace KV := hid (KV.out.below b KV.out.lt)
      replace B : Hid (Below w.heap.size w w18) := B.out.trans (b.mono B.out.size)
      clear b q00 q01 q02 q10 q11 q12 q20 q21 q22 q30 q31 q32 q40 q41 q42 q50 q51 q52 q60 q61 q62
      have b : Below w18.heap.size w18 (w18.alloc (.cells #[.int .i64 vt.1, .int .i64 vt.2.1, .int .i64 vt.2.2] 33)) := (Below.refl _ _).alloc (Nat.le_refl _) _
      replace KB := hid (KB.out.below b KB.out.lt)
      replace KX := hid (KX.out.below b KX.out.lt)
      replace KS := hid (KS.out.below b KS.out.lt)
      replace KY := hid (KY.out.below b KY.out.lt)
      replace KZ := hid (KZ.out.below b KZ.out.lt)
      replace KT := hid (KT.out.below b KT.out.lt)
      replace KV := hid (KV.out.below b KV.out.lt)
      have KM : Hid (BkCells (w18.alloc (.cells #[.int .i64 vt.1, .int .i64 vt.2.1, .int .i64 vt.2.2] 33)) w18.heap.size 0 vt) := (balloc3 _ _).1
      replace B : Hid (Below w.heap.size w (w18.alloc (.cells #[.int .i64 vt.1, .int .i64 vt.2.1, .int .i64 vt.2.2] 33))) := B.out.trans (b.mono B.out.size)
      clear b
      have hn1 : (tt != tt) = false := by simp
      have hn2 : (ty != ty) = false := by simp
      have hn3 : (tv != tv) = false := by simp
      obtain ⟨q00, q01, q02⟩ := KB.out
      obtain ⟨q10, q11, q12⟩ := KX.out
      obtain ⟨q20, q21, q22⟩ := KS.out
      obtain ⟨q30, q31, q32⟩ := KY.out
      obtain ⟨q40, q41, q42⟩ := KZ.out
      obtain ⟨q50, q51, q52⟩ := KT.out
      obtain ⟨q60, q61, q62⟩ := KV.out
      obtain ⟨q70, q71, q72⟩ := KM.out
      go_wp2_with fail
      refine (HTG.out _ tt TGb.out _).mono ?_
      rintro e w19 ⟨rfl, b⟩
      replace KB := hid (KB.out.below b KB.out.lt)
      replace KX := hid (KX.out.below b KX.out.lt)
      replace KS := hid (KS.out.below b KS.out.lt)
      replace KY := hid (KY.out.below b KY.out.lt)
      replace KZ := hid (KZ.out.below b KZ.out.lt)
      replace KT := hid (KT.out.below b KT.out.lt)
      replace KV := hid (KV.out.below b KV.out.lt)
      replace KM := hid (KM.out.below b KM.out.lt)
      replace B : Hid (Below w.heap.size w w19) := B.out.trans (b.mono B.out.size)
      clear b q00 q01 q02 q10 q11 q12 q20 q21 q22 q30 q31 q32 q40 q41 q42 q50 q51 q52 q60 q61 q62 q70 q71 q72
      clear hn1 hn2 hn3
      cases tt <;> cases ty <;> cases tv
      · obtain ⟨q00, q01, q02⟩ := KB.out
        obtain ⟨q10, q11, q12⟩ := KX.out
        obtain ⟨q20, q21, q22⟩ := KS.out
        obtain ⟨q30, q31, q32⟩ := KY.out
        obtain ⟨q40, q41, q42⟩ := KZ.out
        obtain ⟨q50, q51, q52⟩ := KT.out
        obtain ⟨q60, q61, q62⟩ := KV.out
        obtain ⟨q70, q71, q72⟩ := KM.out
        go_wp2
        go_ret
        exact ⟨by first | rfl | simp, B.out⟩
      · have hv := (NGo.out (by first | trivial | rfl)).2
        obtain ⟨q00, q01, q02⟩ := KB.out
        obtain ⟨q10, q11, q12⟩ := KX.out
        obtain ⟨q20, q21, q22⟩ := KS.out
        obtain ⟨q30, q31, q32⟩ := KY.out
        obtain ⟨q40, q41, q42⟩ := KZ.out
        obtain ⟨q50, q51, q52⟩ := KT.out
        obtain ⟨q60, q61, q62⟩ := KV.out
        obtain ⟨q70, q71, q72⟩ := KM.out
        go_wp2_with fail
        refine (HTG.out _ true (NGo.out (by first | trivial | rfl)).1 _).mono ?_
        rintro e w20 ⟨rfl, b⟩
        replace KB := hid (KB.out.below b KB.out.lt)
        replace KX := hid (KX.out.below b KX.out.lt)
        replace KS := hid (KS.out.below b KS.out.lt)
        replace KY := hid (KY.out.below b KY.out.lt)
        replace KZ := hid (KZ.out.below b KZ.out.lt)
        replace KT := hid (KT.out.below b KT.out.lt)
        replace KV := hid (KV.out.below b KV.out.lt)
        replace KM := hid (KM.out.below b KM.out.lt)
        replace B : Hid (Below w.heap.size w w20) := B.out.trans (b.mono B.out.size)
        clear b q00 q01 q02 q10 q11 q12 q20 q21 q22 q30 q31 q32 q40 q41 q42 q50 q51 q52 q60 q61 q62 q70 q71 q72
        obtain ⟨q00, q01, q02⟩ := KB.out
        obtain ⟨q10, q11, q12⟩ := KX.out
        obtain ⟨q20, q21, q22⟩ := KS.out
        obtain ⟨q30, q31, q32⟩ := KY.out
        obtain ⟨q40, q41, q42⟩ := KZ.out
        obtain ⟨q50, q51, q52⟩ := KT.out
        obtain ⟨q60, q61, q62⟩ := KV.out
        obtain ⟨q70, q71, q72⟩ := KM.out
        go_wp2
        go_ret
        exact ⟨by first | rfl | simp, B.out⟩
      · have hy := (YGo.out (by first | trivial | rfl)).2
        obtain ⟨q00, q01, q02⟩ := KB.out
        obtain ⟨q10, q11, q12⟩ := KX.out
        obtain ⟨q20, q21, q22⟩ := KS.out
        obtain ⟨q30, q31, q32⟩ := KY.out
        obtain ⟨q40, q41, q42⟩ := KZ.out
        obtain ⟨q50, q51, q52⟩ := KT.out
        obtain ⟨q60, q61, q62⟩ := KV.out
        obtain ⟨q70, q71, q72⟩ := KM.out
        go_wp2_with fail
        refine (HTG.out _ true (YGo.out (by first | trivial | rfl)).1 _).mono ?_
        rintro e w20 ⟨rfl, b⟩
        replace KB := hid (KB.out.below b KB.out.lt)
        replace KX := hid (KX.out.below b KX.out.lt)
        replace KS := hid (KS.out.below b KS.out.lt)
        replace KY := hid (KY.out.below b KY.out.lt)
        replace KZ := hid (KZ.out.below b KZ.out.lt)
        replace KT := hid (KT.out.below b KT.out.lt)
        replace KV := hid (KV.out.below b KV.out.lt)
        replace KM := hid (KM.out.below b KM.out.lt)
        replace B : Hid (Below w.heap.size w w20) := B.out.trans (b.mono B.out.size)
        clear b q00 q01 q02 q10 q11 q12 q20 q21 q22 q30 q31 q32 q40 q41 q42 q50 q51 q52 q60 q61 q62 q70 q71 q72
        obtain ⟨q00, q01, q02⟩ := KB.out
        obtain ⟨q10, q11, q12⟩ := KX.out
        obtain ⟨q20, q21, q22⟩ := KS.out
        obtain ⟨q30, q31, q32⟩ := KY.out
        obtain ⟨q40, q41, q42⟩ := KZ.out
        obtain ⟨q50, q51, q52⟩ := KT.out
        obtain ⟨q60, q61, q62⟩ := KV.out
        obtain ⟨q70, q71, q72⟩ := KM.out
        go_wp2
        go_ret
        exact ⟨by first | rfl | simp, B.out⟩
      · have hy := (YGo.out (by first | trivial | rfl)).2
        obtain ⟨q00, q01, q02⟩ := KB.out
        obtain ⟨q10, q11, q12⟩ := KX.out
        obtain ⟨q20, q21, q22⟩ := KS.out
        obtain ⟨q30, q31, q32⟩ := KY.out
        obtain ⟨q40, q41, q42⟩ := KZ.out
        obtain ⟨q50, q51, q52⟩ := KT.out
        obtain ⟨q60, q61, q62⟩ := KV.out
        obtain ⟨q70, q71, q72⟩ := KM.out
        go_wp2_with fail
        refine (HTG.out _ true (YGo.out (by first | trivial | rfl)).1 _).mono ?_
        rintro e w20 ⟨rfl, b⟩
        replace KB := hid (KB.out.below b KB.out.lt)
        replace KX := hid (KX.out.below b KX.out.lt)
        replace KS := hid (KS.out.below b KS.out.lt)
        replace KY := hid (KY.out.below b KY.out.lt)
        replace KZ := hid (KZ.out.below b KZ.out.lt)
        replace KT := hid (KT.out.below b KT.out.lt)
        replace KV := hid (KV.out.below b KV.out.lt)
        replace KM := hid (KM.out.below b KM.out.lt)
        replace B : Hid (Below w.heap.size w w20) := B.out.trans (b.mono B.out.size)
        clear b q00 q01 q02 q10 q11 q12 q20 q21 q22 q30 q31 q32 q40 q41 q42 q50 q51 q52 q60 q61 q62 q70 q71 q72
        have hv := (NGo.out (by first | trivial | rfl)).2
        obtain ⟨q00, q01, q02⟩ := KB.out
        obtain ⟨q10, q11, q12⟩ := KX.out
        obtain ⟨q20, q21, q22⟩ := KS.out
        obtain ⟨q30, q31, q32⟩ := KY.out
        obtain ⟨q40, q41, q42⟩ := KZ.out
        obtain ⟨q50, q51, q52⟩ := KT.out
        obtain ⟨q60, q61, q62⟩ := KV.out
        obtain ⟨q70, q71, q72⟩ := KM.out
        go_wp2_with fail
        refine (HTG.out _ true (NGo.out (by first | trivial | rfl)).1 _).mono ?_
        rintro e w21 ⟨rfl, b⟩
        replace KB := hid (KB.out.below b KB.out.lt)
        replace KX := hid (KX.out.below b KX.out.lt)
        replace KS := hid (KS.out.below b KS.out.lt)
        replace KY := hid (KY.out.below b KY.out.lt)
        replace KZ := hid (KZ.out.below b KZ.out.lt)
        replace KT := hid (KT.out.below b KT.out.lt)
        replace KV := hid (KV.out.below b KV.out.lt)
        replace KM := hid (KM.out.below b KM.out.lt)
        replace B : Hid (Below w.heap.size w w21) := B.out.trans (b.mono B.out.size)
        clear b q00 q01 q02 q10 q11 q12 q20 q21 q22 q30 q31 q32 q40 q41 q42 q50 q51 q52 q60 q61 q62 q70 q71 q72
        obtain ⟨q00, q01, q02⟩ := KB.out
        obtain ⟨q10, q11, q12⟩ := KX.out
        obtain ⟨q20, q21, q22⟩ := KS.out
        obtain ⟨q30, q31, q32⟩ := KY.out
        obtain ⟨q40, q41, q42⟩ := KZ.out
        obtain ⟨q50, q51, q52⟩ := KT.out
        obtain ⟨q60, q61, q62⟩ := KV.out
        obtain ⟨q70, q71, q72⟩ := KM.out
        go_wp2
        go_ret
        exact ⟨by first | rfl | simp, B.out⟩
      · obtain ⟨q00, q01, q02⟩ := KB.out
        obtain ⟨q10, q11, q12⟩ := KX.out
        obtain ⟨q20, q21, q22⟩ := KS.out
        obtain ⟨q30, q31, q32⟩ := KY.out
        obtain ⟨q40, q41, q42⟩ := KZ.out
        obtain ⟨q50, q51, q52⟩ := KT.out
        obtain ⟨q60, q61, q62⟩ := KV.out
        obtain ⟨q70, q71, q72⟩ := KM.out
        go_wp2_with fail
        refine (HTG.out _ true (TGo.out (by first | trivial | rfl)) _).mono ?_
        rintro e w20 ⟨rfl, b⟩
        replace KB := hid (KB.out.below b KB.out.lt)
        replace KX := hid (KX.out.below b KX.out.lt)
        replace KS := hid (KS.out.below b KS.out.lt)
        replace KY := hid (KY.out.below b KY.out.lt)
        replace KZ := hid (KZ.out.below b KZ.out.lt)
        replace KT := hid (KT.out.below b KT.out.lt)
        replace KV := hid (KV.out.below b KV.out.lt)
        replace KM := hid (KM.out.below b KM.out.lt)
        replace B : Hid (Below w.heap.size w w20) := B.out.trans (b.mono B.out.size)
        clear b q00 q01 q02 q10 q11 q12 q20 q21 q22 q30 q31 q32 q40 q41 q42 q50 q51 q52 q60 q61 q62 q70 q71 q72
        obtain ⟨q00, q01, q02⟩ := KB.out
        obtain ⟨q10, q11, q12⟩ := KX.out
        obtain ⟨q20, q21, q22⟩ := KS.out
        obtain ⟨q30, q31, q32⟩ := KY.out
        obtain ⟨q40, q41, q42⟩ := KZ.out
        obtain ⟨q50, q51, q52⟩ := KT.out
        obtain ⟨q60, q61, q62⟩ := KV.out
        obtain ⟨q70, q71, q72⟩ := KM.out
        go_wp2
        go_ret
        exact ⟨by first | rfl | simp, B.out⟩
      · obtain ⟨q00, q01, q02⟩ := KB.out
        obtain ⟨q10, q11, q12⟩ := KX.out
        obtain ⟨q20, q21, q22⟩ := KS.out
        obtain ⟨q30, q31, q32⟩ := KY.out
        obtain ⟨q40, q41, q42⟩ := KZ.out
        obtain ⟨q50, q51, q52⟩ := KT.out
        obtain ⟨q60, q61, q62⟩ := KV.out
        obtain ⟨q70, q71, q72⟩ := KM.out
        go_wp2_with fail
        refine (HTG.out _ true (TGo.out (by first | trivial | rfl)) _).mono ?_
        rintro e w20 ⟨rfl, b⟩
        replace KB := hid (KB.out.below b KB.out.lt)
        replace KX := hid (KX.out.below b KX.out.lt)
        replace KS := hid (KS.out.below b KS.out.lt)
        replace KY := hid (KY.out.below b KY.out.lt)
        replace KZ := hid (KZ.out.below b KZ.out.lt)
        replace KT := hid (KT.out.below b KT.out.lt)
        replace KV := hid (KV.out.below b KV.out.lt)
        replace KM := hid (KM.out.below b KM.out.lt)
        replace B : Hid (Below w.heap.size w w20) := B.out.trans (b.mono B.out.size)
        clear b q00 q01 q02 q10 q11 q12 q20 q21 q22 q30 q31 q32 q40 q41 q42 q50 q51 q52 q60 q61 q62 q70 q71 q72
        have hv := (NGo.out (by first | trivial | rfl)).2
        obtain ⟨q00, q01, q02⟩ := KB.out
        obtain ⟨q10, q11, q12⟩ := KX.out
        obtain ⟨q20, q21, q22⟩ := KS.out
        obtain ⟨q30, q31, q32⟩ := KY.out
        obtain ⟨q40, q41, q42⟩ := KZ.out
        obtain ⟨q50, q51, q52⟩ := KT.out
        obtain ⟨q60, q61, q62⟩ := KV.out
        obtain ⟨q70, q71, q72⟩ := KM.out
        go_wp2_with fail
        refine (HTG.out _ true (NGo.out (by first | trivial | rfl)).1 _).mono ?_
        rintro e w21 ⟨rfl, b⟩
        replace KB := hid (KB.out.below b KB.out.lt)
        replace KX := hid (KX.out.below b KX.out.lt)
        replace KS := hid (KS.out.below b KS.out.lt)
        replace KY := hid (KY.out.below b KY.out.lt)
        replace KZ := hid (KZ.out.below b KZ.out.lt)
        replace KT := hid (KT.out.below b KT.out.lt)
        replace KV := hid (KV.out.below b KV.out.lt)
        replace KM := hid (KM.out.below b KM.out.lt)
        replace B : Hid (Below w.heap.size w w21) := B.out.trans (b.mono B.out.size)
        clear b q00 q01 q02 q10 q11 q12 q20 q21 q22 q30 q31 q32 q40 q41 q42 q50 q51 q52 q60 q61 q62 q70 q71 q72
        obtain ⟨q00, q01, q02⟩ := KB.out
        obtain ⟨q10, q11, q12⟩ := KX.out
        obtain ⟨q20, q21, q22⟩ := KS.out
        obtain ⟨q30, q31, q32⟩ := KY.out
        obtain ⟨q40, q41, q42⟩ := KZ.out
        obtain ⟨q50, q51, q52⟩ := KT.out
        obtain ⟨q60, q61, q62⟩ := KV.out
        obtain ⟨q70, q71, q72⟩ := KM.out
        go_wp2
        go_ret
        exact ⟨by first | rfl | simp, B.out⟩
      · obtain ⟨q00, q01, q02⟩ := KB.out
        obtain ⟨q10, q11, q12⟩ := KX.out
        obtain ⟨q20, q21, q22⟩ := KS.out
        obtain ⟨q30, q31, q32⟩ := KY.out
        obtain ⟨q40, q41, q42⟩ := KZ.out
        obtain ⟨q50, q51, q52⟩ := KT.out
        obtain ⟨q60, q61, q62⟩ := KV.out
        obtain ⟨q70, q71, q72⟩ := KM.out
        go_wp2_with fail
        refine (HTG.out _ true (TGo.out (by first | trivial | rfl)) _).mono ?_
        rintro e w20 ⟨rfl, b⟩
        replace KB := hid (KB.out.below b KB.out.lt)
        replace KX := hid (KX.out.below b KX.out.lt)
        replace KS := hid (KS.out.below b KS.out.lt)
        replace KY := hid (KY.out.below b KY.out.lt)
        replace KZ := hid (KZ.out.below b KZ.out.lt)
        replace KT := hid (KT.out.below b KT.out.lt)
        replace KV := hid (KV.out.below b KV.out.lt)
        replace KM := hid (KM.out.below b KM.out.lt)
        replace B : Hid (Below w.heap.size w w20) := B.out.trans (b.mono B.out.size)
        clear b q00 q01 q02 q10 q11 q12 q20 q21 q22 q30 q31 q32 q40 q41 q42 q50 q51 q52 q60 q61 q62 q70 q71 q72
        have hy := (YGo.out (by first | trivial | rfl)).2
        obtain ⟨q00, q01, q02⟩ := KB.out
        obtain ⟨q10, q11, q12⟩ := KX.out
        obtain ⟨q20, q21, q22⟩ := KS.out
        obtain ⟨q30, q31, q32⟩ := KY.out
        obtain ⟨q40, q41, q42⟩ := KZ.out
        obtain ⟨q50, q51, q52⟩ := KT.out
        obtain ⟨q60, q61, q62⟩ := KV.out
        obtain ⟨q70, q71, q72⟩ := KM.out
        go_wp2_with fail
        refine (HTG.out _ true (YGo.out (by first | trivial | rfl)).1 _).mono ?_
        rintro e w21 ⟨rfl, b⟩
        replace KB := hid (KB.out.below b KB.out.lt)
        replace KX := hid (KX.out.below b KX.out.lt)
        replace KS := hid (KS.out.below b KS.out.lt)
        replace KY := hid (KY.out.below b KY.out.lt)
        replace KZ := hid (KZ.out.below b KZ.out.lt)
        replace KT := hid (KT.out.below b KT.out.lt)
        replace KV := hid (KV.out.below b KV.out.lt)
        replace KM := hid (KM.out.below b KM.out.lt)
        replace B : Hid (Below w.heap.size w w21) := B.out.trans (b.mono B.out.size)
        clear b q00 q01 q02 q10 q11 q12 q20 q21 q22 q30 q31 q32 q40 q41 q42 q50 q51 q52 q60 q61 q62 q70 q71 q72
        obtain ⟨q00, q01, q02⟩ := KB.out
        obtain ⟨q10, q11, q12⟩ := KX.out
        obtain ⟨q20, q21, q22⟩ := KS.out
        obtain ⟨q30, q31, q32⟩ := KY.out
        obtain ⟨q40, q41, q42⟩ := KZ.out
        obtain ⟨q50, q51, q52⟩ := KT.out
        obtain ⟨q60, q61, q62⟩ := KV.out
        obtain ⟨q70, q71, q72⟩ := KM.out
        go_wp2
        go_ret
        exact ⟨by first | rfl | simp, B.out⟩
      · obtain ⟨q00, q01, q02⟩ := KB.out
        obtain ⟨q10, q11, q12⟩ := KX.out
        obtain ⟨q20, q21, q22⟩ := KS.out
        obtain ⟨q30, q31, q32⟩ := KY.out
        obtain ⟨q40, q41, q42⟩ := KZ.out
        obtain ⟨q50, q51, q52⟩ := KT.out
        obtain ⟨q60, q61, q62⟩ := KV.out
        obtain ⟨q70, q71, q72⟩ := KM.out
        go_wp2_with fail
        refine (HTG.out _ true (TGo.out (by first | trivial | rfl)) _).mono ?_
        rintro e w20 ⟨rfl, b⟩
        replace KB := hid (KB.out.below b KB.out.lt)
        replace KX := hid (KX.out.below b KX.out.lt)
        replace KS := hid (KS.out.below b KS.out.lt)
        replace KY := hid (KY.out.below b KY.out.lt)
        replace KZ := hid (KZ.out.below b KZ.out.lt)
        replace KT := hid (KT.out.below b KT.out.lt)
        replace KV := hid (KV.out.below b KV.out.lt)
        replace KM := hid (KM.out.below b KM.out.lt)
        replace B : Hid (Below w.heap.size w w20) := B.out.trans (b.mono B.out.size)
        clear b q00 q01 q02 q10 q11 q12 q20 q21 q22 q30 q31 q32 q40 q41 q42 q50 q51 q52 q60 q61 q62 q70 q71 q72
        have hy := (YGo.out (by first | trivial | rfl)).2
        obtain ⟨q00, q01, q02⟩ := KB.out
        obtain ⟨q10, q11, q12⟩ := KX.out
        obtain ⟨q20, q21, q22⟩ := KS.out
        obtain ⟨q30, q31, q32⟩ := KY.out
        obtain ⟨q40, q41, q42⟩ := KZ.out
        obtain ⟨q50, q51, q52⟩ := KT.out
        obtain ⟨q60, q61, q62⟩ := KV.out
        obtain ⟨q70, q71, q72⟩ := KM.out
        go_wp2_with fail
        refine (HTG.out _ true (YGo.out (by first | trivial | rfl)).1 _).mono ?_
        rintro e w21 ⟨rfl, b⟩
        replace KB := hid (KB.out.below b KB.out.lt)
        replace KX := hid (KX.out.below b KX.out.lt)
        replace KS := hid (KS.out.below b KS.out.lt)
        replace KY := hid (KY.out.below b KY.out.lt)
        replace KZ := hid (KZ.out.below b KZ.out.lt)
        replace KT := hid (KT.out.below b KT.out.lt)
        replace KV := hid (KV.out.below b KV.out.lt)
        replace KM := hid (KM.out.below b KM.out.lt)
        replace B : Hid (Below w.heap.size w w21) := B.out.trans (b.mono B.out.size)
        clear b q00 q01 q02 q10 q11 q12 q20 q21 q22 q30 q31 q32 q40 q41 q42 q50 q51 q52 q60 q61 q62 q70 q71 q72
        have hv := (NGo.out (by first | trivial | rfl)).2
        obtain ⟨q00, q01, q02⟩ := KB.out
        obtain ⟨q10, q11, q12⟩ := KX.out
        obtain ⟨q20, q21, q22⟩ := KS.out
        obtain ⟨q30, q31, q32⟩ := KY.out
        obtain ⟨q40, q41, q42⟩ := KZ.out
        obtain ⟨q50, q51, q52⟩ := KT.out
        obtain ⟨q60, q61, q62⟩ := KV.out
        obtain ⟨q70, q71, q72⟩ := KM.out
        go_wp2_with fail
        refine (HTG.out _ true (NGo.out (by first | trivial | rfl)).1 _).mono ?_
        rintro e w22 ⟨rfl, b⟩
        replace KB := hid (KB.out.below b KB.out.lt)
        replace KX := hid (KX.out.below b KX.out.lt)
        replace KS := hid (KS.out.below b KS.out.lt)
        replace KY := hid (KY.out.below b KY.out.lt)
        replace KZ := hid (KZ.out.below b KZ.out.lt)
        replace KT := hid (KT.out.below b KT.out.lt)
        replace KV := hid (KV.out.below b KV.out.lt)
        replace KM := hid (KM.out.below b KM.out.lt)
        replace B : Hid (Below w.heap.size w w22) := B.out.trans (b.mono B.out.size)
        clear b q00 q01 q02 q10 q11 q12 q20 q21 q22 q30 q31 q32 q40 q41 q42 q50 q51 q52 q60 q61 q62 q70 q71 q72
        obtain ⟨q00, q01, q02⟩ := KB.out
        obtain ⟨q10, q11, q12⟩ := KX.out
        obtain ⟨q20, q21, q22⟩ := KS.out
        obtain ⟨q30, q31, q32⟩ := KY.out
        obtain ⟨q40, q41, q42⟩ := KZ.out
        obtain ⟨q50, q51, q52⟩ := KT.out
        obtain ⟨q60, q61, q62⟩ := KV.out
        obtain ⟨q70, q71, q72⟩ := KM.out
        go_wp2
        go_ret
        exact ⟨by first | rfl | simp, B.out⟩
    · have d0 : decide ((0 : Int) < (xs.length : Int)) = false := by rw [decide_eq_false_iff_not]; omega
      have d1 : decide (0 < xs.length) = false := by rw [decide_eq_false_iff_not]; exact hz
      clear hwc RT RA RW
      go_wp2_with fail
      go_big_region
      replace B : Hid (Below w.heap.size w _) := B.out.drew
      go_wp2_with fail
      refine (drawTickB_any _ _ (code_after8 HC1.out B.out)).mono ?_
      rintro e w10 ⟨xb, rfl, b⟩
      replace B : Hid (Below w.heap.size w w10) := B.out.trans (b.mono B.out.size)
      clear b
      obtain ⟨xt, tt, hI, hS, hg, hgo⟩ := tick_case HTT.out xb
      have TI := hid hI
      have TS := hid hS
      have TGb := hid hg
      have TGo := hid hgo
      clear hI hS hg hgo
      have b : Below w10.heap.size w10 (w10.alloc (.cells #[.int .i64 xb.1, .int .i64 xb.2.1, .int .i64 xb.2.2] 33)) := (Below.refl _ _).alloc (Nat.le_refl _) _
      have KB : Hid (BkCells (w10.alloc (.cells #[.int .i64 xb.1, .int .i64 xb.2.1, .int .i64 xb.2.2] 33)) w10.heap.size 0 xb) := (balloc3 _ _).1
      replace B : Hid (Below w.heap.size w (w10.alloc (.cells #[.int .i64 xb.1, .int .i64 xb.2.1, .int .i64 xb.2.2] 33))) := B.out.trans (b.mono B.out.size)
      clear b
      obtain ⟨q00, q01, q02⟩ := KB.out
      go_wp2_with fail
      refine (TI.out _).mono ?_
      rintro e w11 ⟨rfl, b⟩
      replace KB := hid (KB.out.below b KB.out.lt)
      replace B : Hid (Below w.heap.size w w11) := B.out.trans (b.mono B.out.size)
      clear b q00 q01 q02
      have b : Below w11.heap.size w11 (w11.alloc (.cells #[.int .i64 xt.1, .int .i64 xt.2.1, .int .i64 xt.2.2] 33)) := (Below.refl _ _).alloc (Nat.le_refl _) _
      replace KB := hid (KB.out.below b KB.out.lt)
      have KX : Hid (BkCells (w11.alloc (.cells #[.int .i64 xt.1, .int .i64 xt.2.1, .int .i64 xt.2.2] 33)) w11.heap.size 0 xt) := (balloc3 _ _).1
      replace B : Hid (Below w.heap.size w (w11.alloc (.cells #[.int .i64 xt.1, .int .i64 xt.2.1, .int .i64 xt.2.2] 33))) := B.out.trans (b.mono B.out.size)
      clear b
      obtain ⟨q00, q01, q02⟩ := KB.out
      obtain ⟨q10, q11, q12⟩ := KX.out
      go_wp2_with fail
      refine (TS.out _).mono ?_
      rintro e w12 ⟨rfl, b⟩
      replace KB := hid (KB.out.below b KB.out.lt)
      replace KX := hid (KX.out.below b KX.out.lt)
      replace B : Hid (Below w.heap.size w w12) := B.out.trans (b.mono B.out.size)
      clear b q00 q01 q02 q10 q11 q12
      have b : Below w12.heap.size w12 (w12.alloc (.cells #[.int .i64 xt.1, .int .i64 xt.2.1, .int .i64 xt.2.2] 33)) := (Below.refl _ _).alloc (Nat.le_refl _) _
      replace KB := hid (KB.out.below b KB.out.lt)
      replace KX := hid (KX.out.below b KX.out.lt)
      have KS : Hid (BkCells (w12.alloc (.cells #[.int .i64 xt.1, .int .i64 xt.2.1, .int .i64 xt.2.2] 33)) w12.heap.size 0 xt) := (balloc3 _ _).1
      replace B : Hid (Below w.heap.size w (w12.alloc (.cells #[.int .i64 xt.1, .int .i64 xt.2.1, .int .i64 xt.2.2] 33))) := B.out.trans (b.mono B.out.size)
      clear b
      obtain ⟨q00, q01, q02⟩ := KB.out
      obtain ⟨q10, q11, q12⟩ := KX.out
      obtain ⟨q20, q21, q22⟩ := KS.out
      go_wp2_with fail
      refine (drawTakeB_any _ _ (code_after8 HC1.out B.out)).mono ?_
      rintro e w13 ⟨yb, m, rfl, b⟩
      replace KB := hid (KB.out.below b KB.out.lt)
      replace KX := hid (KX.out.below b KX.out.lt)
      replace KS := hid (KS.out.below b KS.out.lt)
      replace B : Hid (Below w.heap.size w w13) := B.out.trans (b.mono B.out.size)
      clear b q00 q01 q02 q10 q11 q12 q20 q21 q22
      obtain ⟨yt, ty, hI, hS, hgo⟩ := take_case HTK.out yb m
      have YI := hid hI
      have YS := hid hS
      have YGo := hid hgo
      clear hI hS hgo
      have b : Below w13.heap.size w13 (w13.alloc (.cells #[.int .i64 yb.1, .int .i64 yb.2.1, .int .i64 yb.2.2] 33)) := (Below.refl _ _).alloc (Nat.le_refl _) _
      replace KB := hid (KB.out.below b KB.out.lt)
      replace KX := hid (KX.out.below b KX.out.lt)
      replace KS := hid (KS.out.below b KS.out.lt)
      have KY : Hid (BkCells (w13.alloc (.cells #[.int .i64 yb.1, .int .i64 yb.2.1, .int .i64 yb.2.2] 33)) w13.heap.size 0 yb) := (balloc3 _ _).1
      replace B : Hid (Below w.heap.size w (w13.alloc (.cells #[.int .i64 yb.1, .int .i64 yb.2.1, .int .i64 yb.2.2] 33))) := B.out.trans (b.mono B.out.size)
      clear b
      obtain ⟨q00, q01, q02⟩ := KB.out
      obtain ⟨q10, q11, q12⟩ := KX.out
      obtain ⟨q20, q21, q22⟩ := KS.out
      obtain ⟨q30, q31, q32⟩ := KY.out
      go_wp2_with fail
      refine (YI.out _).mono ?_
      rintro e w14 ⟨rfl, b⟩
      replace KB := hid (KB.out.below b KB.out.lt)
      replace KX := hid (KX.out.below b KX.out.lt)
      replace KS := hid (KS.out.below b KS.out.lt)
      replace KY := hid (KY.out.below b KY.out.lt)
      replace B : Hid (Below w.heap.size w w14) := B.out.trans (b.mono B.out.size)
      clear b q00 q01 q02 q10 q11 q12 q20 q21 q22 q30 q31 q32
      have b : Below w14.heap.size w14 (w14.alloc (.cells #[.int .i64 yt.1, .int .i64 yt.2.1, .int .i64 yt.2.2] 33)) := (Below.refl _ _).alloc (Nat.le_refl _) _
      replace KB := hid (KB.out.below b KB.out.lt)
      replace KX := hid (KX.out.below b KX.out.lt)
      replace KS := hid (KS.out.below b KS.out.lt)
      replace KY := hid (KY.out.below b KY.out.lt)
      have KZ : Hid (BkCells (w14.alloc (.cells #[.int .i64 yt.1, .int .i64 yt.2.1, .int .i64 yt.2.2] 33)) w14.heap.size 0 yt) := (balloc3 _ _).1
      replace B : Hid (Below w.heap.size w (w14.alloc (.cells #[.int .i64 yt.1, .int .i64 yt.2.1, .int .i64 yt.2.2] 33))) := B.out.trans (b.mono B.out.size)
      clear b
      obtain ⟨q00, q01, q02⟩ := KB.out
      obtain ⟨q10, q11, q12⟩ := KX.out
      obtain ⟨q20, q21, q22⟩ := KS.out
      obtain ⟨q30, q31, q32⟩ := KY.out
      obtain ⟨q40, q41, q42⟩ := KZ.out
      go_wp2_with fail
      refine (YS.out _).mono ?_
      rintro e w15 ⟨rfl, b⟩
      replace KB := hid (KB.out.below b KB.out.lt)
      replace KX := hid (KX.out.below b KX.out.lt)
      replace KS := hid (KS.out.below b KS.out.lt)
      replace KY := hid (KY.out.below b KY.out.lt)
      replace KZ := hid (KZ.out.below b KZ.out.lt)
      replace B : Hid (Below w.heap.size w w15) := B.out.trans (b.mono B.out.size)
      clear b q00 q01 q02 q10 q11 q12 q20 q21 q22 q30 q31 q32 q40 q41 q42
      have b : Below w15.heap.size w15 (w15.alloc (.cells #[.int .i64 yt.1, .int .i64 yt.2.1, .int .i64 yt.2.2] 33)) := (Below.refl _ _).alloc (Nat.le_refl _) _
      replace KB := hid (KB.out.below b KB.out.lt)
      replace KX := hid (KX.out.below b KX.out.lt)
      replace KS := hid (KS.out.below b KS.out.lt)
      replace KY := hid (KY.out.below b KY.out.lt)
      replace KZ := hid (KZ.out.below b KZ.out.lt)
      have KT : Hid (BkCells (w15.alloc (.cells #[.int .i64 yt.1, .int .i64 yt.2.1, .int .i64 yt.2.2] 33)) w15.heap.size 0 yt) := (balloc3 _ _).1
      replace B : Hid (Below w.heap.size w (w15.alloc (.cells #[.int .i64 yt.1, .int .i64 yt.2.1, .int .i64 yt.2.2] 33))) := B.out.trans (b.mono B.out.size)
      clear b
      obtain ⟨q00, q01, q02⟩ := KB.out
      obtain ⟨q10, q11, q12⟩ := KX.out
      obtain ⟨q20, q21, q22⟩ := KS.out
      obtain ⟨q30, q31, q32⟩ := KY.out
      obtain ⟨q40, q41, q42⟩ := KZ.out
      obtain ⟨q50, q51, q52⟩ := KT.out
      go_wp2_with fail
      refine (drawNewB_any _ _ (code_after8 HC1.out B.out)).mono ?_
      rintro e w16 ⟨rn, dn, rfl, b⟩
      replace KB := hid (KB.out.below b KB.out.lt)
      replace KX := hid (KX.out.below b KX.out.lt)
      replace KS := hid (KS.out.below b KS.out.lt)
      replace KY := hid (KY.out.below b KY.out.lt)
      replace KZ := hid (KZ.out.below b KZ.out.lt)
      replace KT := hid (KT.out.below b KT.out.lt)
      replace B : Hid (Below w.heap.size w w16) := B.out.trans (b.mono B.out.size)
      clear b q00 q01 q02 q10 q11 q12 q20 q21 q22 q30 q31 q32 q40 q41 q42 q50 q51 q52
      obtain ⟨vt, tv, hI, hS, hgo⟩ := new_case HTN.out rn dn
      have NI := hid hI
      have NS := hid hS
      have NGo := hid hgo
      clear hI hS hgo
      obtain ⟨q00, q01, q02⟩ := KB.out
      obtain ⟨q10, q11, q12⟩ := KX.out
      obtain ⟨q20, q21, q22⟩ := KS.out
      obtain ⟨q30, q31, q32⟩ := KY.out
      obtain ⟨q40, q41, q42⟩ := KZ.out
      obtain ⟨q50, q51, q52⟩ := KT.out
      go_wp2_with fail
      refine (NI.out _).mono ?_
      rintro e w17 ⟨rfl, b⟩
      replace KB := hid (KB.out.below b KB.out.lt)
      replace KX := hid (KX.out.below b KX.out.lt)
      replace KS := hid (KS.out.below b KS.out.lt)
      replace KY := hid (KY.out.below b KY.out.lt)
      replace KZ := hid (KZ.out.below b KZ.out.lt)
      replace KT := hid (KT.out.below b KT.out.lt)
      replace B : Hid (Below w.heap.size w w17) := B.out.trans (b.mono B.out.size)
      clear b q00 q01 q02 q10 q11 q12 q20 q21 q22 q30 q31 q32 q40 q41 q42 q50 q51 q52
      have b : Below w17.heap.size w17 (w17.alloc (.cells #[.int .i64 vt.1, .int .i64 vt.2.1, .int .i64 vt.2.2] 33)) := (Below.refl _ _).alloc (Nat.le_refl _) _
      replace KB := hid (KB.out.below b KB.out.lt)
      replace KX := hid (KX.out.below b KX.out.lt)
      replace KS := hid (KS.out.below b KS.out.lt)
      replace KY := hid (KY.out.below b KY.out.lt)
      replace KZ := hid (KZ.out.below b KZ.out.lt)
      replace KT := hid (KT.out.below b KT.out.lt)
      have KV : Hid (BkCells (w17.alloc (.cells #[.int .i64 vt.1, .int .i64 vt.2.1, .int .i64 vt.2.2] 33)) w17.heap.size 0 vt) := (balloc3 _ _).1
      replace B : Hid (Below w.heap.size w (w17.alloc (.cells #[.int .i64 vt.1, .int .i64 vt.2.1, .int .i64 vt.2.2] 33))) := B.out.trans (b.mono B.out.size)
      clear b
      obtain ⟨q00, q01, q02⟩ := KB.out
      obtain ⟨q10, q11, q12⟩ := KX.out
      obtain ⟨q20, q21, q22⟩ := KS.out
      obtain ⟨q30, q31, q32⟩ := KY.out
      obtain ⟨q40, q41, q42⟩ := KZ.out
      obtain ⟨q50, q51, q52⟩ := KT.out
      obtain ⟨q60, q61, q62⟩ := KV.out
      go_wp2_with fail
      refine (NS.out _).mono ?_
      rintro e w18 ⟨rfl, b⟩
      replace KB := hid (KB.out.below b KB.out.lt)
      replace KX := hid (KX.out.below b KX.out.lt)
      replace KS := hid (KS.out.below b KS.out.lt)
      replace KY := hid (KY.out.below b KY.out.lt)
      replace KZ := hid (KZ.out.below b KZ.out.lt)
      replace KT := hid (KT.out.below b KT.out.lt)
      replace KV := hid (KV.out.below b KV.out.lt)
      replace B : Hid (Below w.heap.size w w18) := B.out.trans (b.mono B.out.size)
      clear b q00 q01 q02 q10 q11 q12 q20 q21 q22 q30 q31 q32 q40 q41 q42 q50 q51 q52 q60 q61 q62
      have b : Below w18.heap.size w18 (w18.alloc (.cells #[.int .i64 vt.1, .int .i64 vt.2.1, .int .i64 vt.2.2] 33)) := (Below.refl _ _).alloc (Nat.le_refl _) _
      replace KB := hid (KB.out.below b KB.out.lt)
      replace KX := hid (KX.out.below b KX.out.lt)
      replace KS := hid (KS.out.below b KS.out.lt)
      replace KY := hid (KY.out.below b KY.out.lt)
      replace KZ := hid (KZ.out.below b KZ.out.lt)
      replace KT := hid (KT.out.below b KT.out.lt)
      replace KV := hid (KV.out.below b KV.out.lt)
      have KM : Hid (BkCells (w18.alloc (.cells #[.int .i64 vt.1, .int .i64 vt.2.1, .int .i64 vt.2.2] 33)) w18.heap.size 0 vt) := (balloc3 _ _).1
      replace B : Hid (Below w.heap.size w (w18.alloc (.cells #[.int .i64 vt.1, .int .i64 vt.2.1, .int .i64 vt.2.2] 33))) := B.out.trans (b.mono B.out.size)
      clear b
      have hn1 : (tt != tt) = false := by simp
      have hn2 : (ty != ty) = false := by simp
      have hn3 : (tv != tv) = false := by simp
      obtain ⟨q00, q01, q02⟩ := KB.out
      obtain ⟨q10, q11, q12⟩ := KX.out
      obtain ⟨q20, q21, q22⟩ := KS.out
      obtain ⟨q30, q31, q32⟩ := KY.out
      obtain ⟨q40, q41, q42⟩ := KZ.out
      obtain ⟨q50, q51, q52⟩ := KT.out
      obtain ⟨q60, q61, q62⟩ := KV.out
      obtain ⟨q70, q71, q72⟩ := KM.out
      go_wp2_with fail
      refine (HTG.out _ tt TGb.out _).mono ?_
      rintro e w19 ⟨rfl, b⟩
      replace KB := hid (KB.out.below b KB.out.lt)
      replace KX := hid (KX.out.below b KX.out.lt)
      replace KS := hid (KS.out.below b KS.out.lt)
      replace KY := hid (KY.out.below b KY.out.lt)
      replace KZ := hid (KZ.out.below b KZ.out.lt)
      replace KT := hid (KT.out.below b KT.out.lt)
      replace KV := hid (KV.out.below b KV.out.lt)
      replace KM := hid (KM.out.below b KM.out.lt)
      replace B : Hid (Below w.heap.size w w19) := B.out.trans (b.mono B.out.size)
      clear b q00 q01 q02 q10 q11 q12 q20 q21 q22 q30 q31 q32 q40 q41 q42 q50 q51 q52 q60 q61 q62 q70 q71 q72
      clear hn1 hn2 hn3
      cases tt <;> cases ty <;> cases tv
      · obtain ⟨q00, q01, q02⟩ := KB.out
        obtain ⟨q10, q11, q12⟩ := KX.out
        obtain ⟨q20, q21, q22⟩ := KS.out
        obtain ⟨q30, q31, q32⟩ := KY.out
        obtain ⟨q40, q41, q42⟩ := KZ.out
        obtain ⟨q50, q51, q52⟩ := KT.out
        obtain ⟨q60, q61, q62⟩ := KV.out
        obtain ⟨q70, q71, q72⟩ := KM.out
        go_wp2
        go_ret
        exact ⟨by first | rfl | simp, B.out⟩
      · have hv := (NGo.out (by first | trivial | rfl)).2
        obtain ⟨q00, q01, q02⟩ := KB.out
        obtain ⟨q10, q11, q12⟩ := KX.out
        obtain ⟨q20, q21, q22⟩ := KS.out
        obtain ⟨q30, q31, q32⟩ := KY.out
        obtain ⟨q40, q41, q42⟩ := KZ.out
        obtain ⟨q50, q51, q52⟩ := KT.out
        obtain ⟨q60, q61, q62⟩ := KV.out
        obtain ⟨q70, q71, q72⟩ := KM.out
        go_wp2_with fail
        refine (HTG.out _ true (NGo.out (by first | trivial | rfl)).1 _).mono ?_
        rintro e w20 ⟨rfl, b⟩
        replace KB := hid (KB.out.below b KB.out.lt)
        replace KX := hid (KX.out.below b KX.out.lt)
        replace KS := hid (KS.out.below b KS.out.lt)
        replace KY := hid (KY.out.below b KY.out.lt)
        replace KZ := hid (KZ.out.below b KZ.out.lt)
        replace KT := hid (KT.out.below b KT.out.lt)
        replace KV := hid (KV.out.below b KV.out.lt)
        replace KM := hid (KM.out.below b KM.out.lt)
        replace B : Hid (Below w.heap.size w w20) := B.out.trans (b.mono B.out.size)
        clear b q00 q01 q02 q10 q11 q12 q20 q21 q22 q30 q31 q32 q40 q41 q42 q50 q51 q52 q60 q61 q62 q70 q71 q72
        obtain ⟨q00, q01, q02⟩ := KB.out
        obtain ⟨q10, q11, q12⟩ := KX.out
        obtain ⟨q20, q21, q22⟩ := KS.out
        obtain ⟨q30, q31, q32⟩ := KY.out
        obtain ⟨q40, q41, q42⟩ := KZ.out
        obtain ⟨q50, q51, q52⟩ := KT.out
        obtain ⟨q60, q61, q62⟩ := KV.out
        obtain ⟨q70, q71, q72⟩ := KM.out
        go_wp2
        go_ret
        exact ⟨by first | rfl | simp, B.out⟩
      · have hy := (YGo.out (by first | trivial | rfl)).2
        obtain ⟨q00, q01, q02⟩ := KB.out
        obtain ⟨q10, q11, q12⟩ := KX.out
        obtain ⟨q20, q21, q22⟩ := KS.out
        obtain ⟨q30, q31, q32⟩ := KY.out
        obtain ⟨q40, q41, q42⟩ := KZ.out
        obtain ⟨q50, q51, q52⟩ := KT.out
        obtain ⟨q60, q61, q62⟩ := KV.out
        obtain ⟨q70, q71, q72⟩ := KM.out
        go_wp2_with fail
        refine (HTG.out _ true (YGo.out (by first | trivial | rfl)).1 _).mono ?_
        rintro e w20 ⟨rfl, b⟩
        replace KB := hid (KB.out.below b KB.out.lt)
        replace KX := hid (KX.out.below b KX.out.lt)
        replace KS := hid (KS.out.below b KS.out.lt)
        replace KY := hid (KY.out.below b KY.out.lt)
        replace KZ := hid (KZ.out.below b KZ.out.lt)
        replace KT := hid (KT.out.below b KT.out.lt)
        replace KV := hid (KV.out.below b KV.out.lt)
        replace KM := hid (KM.out.below b KM.out.lt)
        replace B : Hid (Below w.heap.size w w20) := B.out.trans (b.mono B.out.size)
        clear b q00 q01 q02 q10 q11 q12 q20 q21 q22 q30 q31 q32 q40 q41 q42 q50 q51 q52 q60 q61 q62 q70 q71 q72
        obtain ⟨q00, q01, q02⟩ := KB.out
        obtain ⟨q10, q11, q12⟩ := KX.out
        obtain ⟨q20, q21, q22⟩ := KS.out
        obtain ⟨q30, q31, q32⟩ := KY.out
        obtain ⟨q40, q41, q42⟩ := KZ.out
        obtain ⟨q50, q51, q52⟩ := KT.out
        obtain ⟨q60, q61, q62⟩ := KV.out
        obtain ⟨q70, q71, q72⟩ := KM.out
        go_wp2
        go_ret
        exact ⟨by first | rfl | simp, B.out⟩
      · have hy := (YGo.out (by first | trivial | rfl)).2
        obtain ⟨q00, q01, q02⟩ := KB.out
        obtain ⟨q10, q11, q12⟩ := KX.out
        obtain ⟨q20, q21, q22⟩ := KS.out
        obtain ⟨q30, q31, q32⟩ := KY.out
        obtain ⟨q40, q41, q42⟩ := KZ.out
        obtain ⟨q50, q51, q52⟩ := KT.out
        obtain ⟨q60, q61, q62⟩ := KV.out
        obtain ⟨q70, q71, q72⟩ := KM.out
        go_wp2_with fail
        refine (HTG.out _ true (YGo.out (by first | trivial | rfl)).1 _).mono ?_
        rintro e w20 ⟨rfl, b⟩
        replace KB := hid (KB.out.below b KB.out.lt)
        replace KX := hid (KX.out.below b KX.out.lt)
        replace KS := hid (KS.out.below b KS.out.lt)
        replace KY := hid (KY.out.below b KY.out.lt)
        replace KZ := hid (KZ.out.below b KZ.out.lt)
        replace KT := hid (KT.out.below b KT.out.lt)
        replace KV := hid (KV.out.below b KV.out.lt)
        replace KM := hid (KM.out.below b KM.out.lt)
        replace B : Hid (Below w.heap.size w w20) := B.out.trans (b.mono B.out.size)
        clear b q00 q01 q02 q10 q11 q12 q20 q21 q22 q30 q31 q32 q40 q41 q42 q50 q51 q52 q60 q61 q62 q70 q71 q72
        have hv := (NGo.out (by first | trivial | rfl)).2
        obtain ⟨q00, q01, q02⟩ := KB.out
        obtain ⟨q10, q11, q12⟩ := KX.out
        obtain ⟨q20, q21, q22⟩ := KS.out
        obtain ⟨q30, q31, q32⟩ := KY.out
        obtain ⟨q40, q41, q42⟩ := KZ.out
        obtain ⟨q50, q51, q52⟩ := KT.out
        obtain ⟨q60, q61, q62⟩ := KV.out
        obtain ⟨q70, q71, q72⟩ := KM.out
        go_wp2_with fail
        refine (HTG.out _ true (NGo.out (by first | trivial | rfl)).1 _).mono ?_
        rintro e w21 ⟨rfl, b⟩
        replace KB := hid (KB.out.below b KB.out.lt)
        replace KX := hid (KX.out.below b KX.out.lt)
        replace KS := hid (KS.out.below b KS.out.lt)
        replace KY := hid (KY.out.below b KY.out.lt)
        replace KZ := hid (KZ.out.below b KZ.out.lt)
        replace KT := hid (KT.out.below b KT.out.lt)
        replace KV := hid (KV.out.below b KV.out.lt)
        replace KM := hid (KM.out.below b KM.out.lt)
        replace B : Hid (Below w.heap.size w w21) := B.out.trans (b.mono B.out.size)
        clear b q00 q01 q02 q10 q11 q12 q20 q21 q22 q30 q31 q32 q40 q41 q42 q50 q51 q52 q60 q61 q62 q70 q71 q72
        obtain ⟨q00, q01, q02⟩ := KB.out
        obtain ⟨q10, q11, q12⟩ := KX.out
        obtain ⟨q20, q21, q22⟩ := KS.out
        obtain ⟨q30, q31, q32⟩ := KY.out
        obtain ⟨q40, q41, q42⟩ := KZ.out
        obtain ⟨q50, q51, q52⟩ := KT.out
        obtain ⟨q60, q61, q62⟩ := KV.out
        obtain ⟨q70, q71, q72⟩ := KM.out
        go_wp2
        go_ret
        exact ⟨by first | rfl | simp, B.out⟩
      · obtain ⟨q00, q01, q02⟩ := KB.out
        obtain ⟨q10, q11, q12⟩ := KX.out
        obtain ⟨q20, q21, q22⟩ := KS.out
        obtain ⟨q30, q31, q32⟩ := KY.out
        obtain ⟨q40, q41, q42⟩ := KZ.out
        obtain ⟨q50, q51, q52⟩ := KT.out
        obtain ⟨q60, q61, q62⟩ := KV.out
        obtain ⟨q70, q71, q72⟩ := KM.out
        go_wp2_with fail
        refine (HTG.out _ true (TGo.out (by first | trivial | rfl)) _).mono ?_
        rintro e w20 ⟨rfl, b⟩
        replace KB := hid (KB.out.below b KB.out.lt)
        replace KX := hid (KX.out.below b KX.out.lt)
        replace KS := hid (KS.out.below b KS.out.lt)
        replace KY := hid (KY.out.below b KY.out.lt)
        replace KZ := hid (KZ.out.below b KZ.out.lt)
        replace KT := hid (KT.out.below b KT.out.lt)
        replace KV := hid (KV.out.below b KV.out.lt)
        replace KM := hid (KM.out.below b KM.out.lt)
        replace B : Hid (Below w.heap.size w w20) := B.out.trans (b.mono B.out.size)
        clear b q00 q01 q02 q10 q11 q12 q20 q21 q22 q30 q31 q32 q40 q41 q42 q50 q51 q52 q60 q61 q62 q70 q71 q72
        obtain ⟨q00, q01, q02⟩ := KB.out
        obtain ⟨q10, q11, q12⟩ := KX.out
        obtain ⟨q20, q21, q22⟩ := KS.out
        obtain ⟨q30, q31, q32⟩ := KY.out
        obtain ⟨q40, q41, q42⟩ := KZ.out
        obtain ⟨q50, q51, q52⟩ := KT.out
        obtain ⟨q60, q61, q62⟩ := KV.out
        obtain ⟨q70, q71, q72⟩ := KM.out
        go_wp2
        go_ret
        exact ⟨by first | rfl | simp, B.out⟩
      · obtain ⟨q00, q01, q02⟩ := KB.out
        obtain ⟨q10, q11, q12⟩ := KX.out
        obtain ⟨q20, q21, q22⟩ := KS.out
        obtain ⟨q30, q31, q32⟩ := KY.out
        obtain ⟨q40, q41, q42⟩ := KZ.out
        obtain ⟨q50, q51, q52⟩ := KT.out
        obtain ⟨q60, q61, q62⟩ := KV.out
        obtain ⟨q70, q71, q72⟩ := KM.out
        go_wp2_with fail
        refine (HTG.out _ true (TGo.out (by first | trivial | rfl)) _).mono ?_
        rintro e w20 ⟨rfl, b⟩
        replace KB := hid (KB.out.below b KB.out.lt)
        replace KX := hid (KX.out.below b KX.out.lt)
        replace KS := hid (KS.out.below b KS.out.lt)
        replace KY := hid (KY.out.below b KY.out.lt)
        replace KZ := hid (KZ.out.below b KZ.out.lt)
        replace KT := hid (KT.out.below b KT.out.lt)
        replace KV := hid (KV.out.below b KV.out.lt)
        replace KM := hid (KM.out.below b KM.out.lt)
        replace B : Hid (Below w.heap.size w w20) := B.out.trans (b.mono B.out.size)
        clear b q00 q01 q02 q10 q11 q12 q20 q21 q22 q30 q31 q32 q40 q41 q42 q50 q51 q52 q60 q61 q62 q70 q71 q72
        have hv := (NGo.out (by first | trivial | rfl)).2
        obtain ⟨q00, q01, q02⟩ := KB.out
        obtain ⟨q10, q11, q12⟩ := KX.out
        obtain ⟨q20, q21, q22⟩ := KS.out
        obtain ⟨q30, q31, q32⟩ := KY.out
        obtain ⟨q40, q41, q42⟩ := KZ.out
        obtain ⟨q50, q51, q52⟩ := KT.out
        obtain ⟨q60, q61, q62⟩ := KV.out
        obtain ⟨q70, q71, q72⟩ := KM.out
        go_wp2_with fail
        refine (HTG.out _ true (NGo.out (by first | trivial | rfl)).1 _).mono ?_
        rintro e w21 ⟨rfl, b⟩
        replace KB := hid (KB.out.below b KB.out.lt)
        replace KX := hid (KX.out.below b KX.out.lt)
        replace KS := hid (KS.out.below b KS.out.lt)
        replace KY := hid (KY.out.below b KY.out.lt)
        replace KZ := hid (KZ.out.below b KZ.out.lt)
        replace KT := hid (KT.out.below b KT.out.lt)
        replace KV := hid (KV.out.below b KV.out.lt)
        replace KM := hid (KM.out.below b KM.out.lt)
        replace B : Hid (Below w.heap.size w w21) := B.out.trans (b.mono B.out.size)
        clear b q00 q01 q02 q10 q11 q12 q20 q21 q22 q30 q31 q32 q40 q41 q42 q50 q51 q52 q60 q61 q62 q70 q71 q72
        obtain ⟨q00, q01, q02⟩ := KB.out
        obtain ⟨q10, q11, q12⟩ := KX.out
        obtain ⟨q20, q21, q22⟩ := KS.out
        obtain ⟨q30, q31, q32⟩ := KY.out
        obtain ⟨q40, q41, q42⟩ := KZ.out
        obtain ⟨q50, q51, q52⟩ := KT.out
        obtain ⟨q60, q61, q62⟩ := KV.out
        obtain ⟨q70, q71, q72⟩ := KM.out
        go_wp2
        go_ret
        exact ⟨by first | rfl | simp, B.out⟩
      · obtain ⟨q00, q01, q02⟩ := KB.out
        obtain ⟨q10, q11, q12⟩ := KX.out
        obtain ⟨q20, q21, q22⟩ := KS.out
        obtain ⟨q30, q31, q32⟩ := KY.out
        obtain ⟨q40, q41, q42⟩ := KZ.out
        obtain ⟨q50, q51, q52⟩ := KT.out
        obtain ⟨q60, q61, q62⟩ := KV.out
        obtain ⟨q70, q71, q72⟩ := KM.out
        go_wp2_with fail
        refine (HTG.out _ true (TGo.out (by first | trivial | rfl)) _).mono ?_
        rintro e w20 ⟨rfl, b⟩
        replace KB := hid (KB.out.below b KB.out.lt)
        replace KX := hid (KX.out.below b KX.out.lt)
        replace KS := hid (KS.out.below b KS.out.lt)
        replace KY := hid (KY.out.below b KY.out.lt)
        replace KZ := hid (KZ.out.below b KZ.out.lt)
        replace KT := hid (KT.out.below b KT.out.lt)
        replace KV := hid (KV.out.below b KV.out.lt)
        replace KM := hid (KM.out.below b KM.out.lt)
        replace B : Hid (Below w.heap.size w w20) := B.out.trans (b.mono B.out.size)
        clear b q00 q01 q02 q10 q11 q12 q20 q21 q22 q30 q31 q32 q40 q41 q42 q50 q51 q52 q60 q61 q62 q70 q71 q72
        have hy := (YGo.out (by first | trivial | rfl)).2
        obtain ⟨q00, q01, q02⟩ := KB.out
        obtain ⟨q10, q11, q12⟩ := KX.out
        obtain ⟨q20, q21, q22⟩ := KS.out
        obtain ⟨q30, q31, q32⟩ := KY.out
        obtain ⟨q40, q41, q42⟩ := KZ.out
        obtain ⟨q50, q51, q52⟩ := KT.out
        obtain ⟨q60, q61, q62⟩ := KV.out
        obtain ⟨q70, q71, q72⟩ := KM.out
        go_wp2_with fail
        refine (HTG.out _ true (YGo.out (by first | trivial | rfl)).1 _).mono ?_
        rintro e w21 ⟨rfl, b⟩
        replace KB := hid (KB.out.below b KB.out.lt)
        replace KX := hid (KX.out.below b KX.out.lt)
        replace KS := hid (KS.out.below b KS.out.lt)
        replace KY := hid (KY.out.below b KY.out.lt)
        replace KZ := hid (KZ.out.below b KZ.out.lt)
        replace KT := hid (KT.out.below b KT.out.lt)
        replace KV := hid (KV.out.below b KV.out.lt)
        replace KM := hid (KM.out.below b KM.out.lt)
        replace B : Hid (Below w.heap.size w w21) := B.out.trans (b.mono B.out.size)
        clear b q00 q01 q02 q10 q11 q12 q20 q21 q22 q30 q31 q32 q40 q41 q42 q50 q51 q52 q60 q61 q62 q70 q71 q72
        obtain ⟨q00, q01, q02⟩ := KB.out
        obtain ⟨q10, q11, q12⟩ := KX.out
        obtain ⟨q20, q21, q22⟩ := KS.out
        obtain ⟨q30, q31, q32⟩ := KY.out
        obtain ⟨q40, q41, q42⟩ := KZ.out
        obtain ⟨q50, q51, q52⟩ := KT.out
        obtain ⟨q60, q61, q62⟩ := KV.out
        obtain ⟨q70, q71, q72⟩ := KM.out
        go_wp2
        go_ret
        exact ⟨by first | rfl | simp, B.out⟩
      · obtain ⟨q00, q01, q02⟩ := KB.out
        obtain ⟨q10, q11, q12⟩ := KX.out
        obtain ⟨q20, q21, q22⟩ := KS.out
        obtain ⟨q30, q31, q32⟩ := KY.out
        obtain ⟨q40, q41, q42⟩ := KZ.out
        obtain ⟨q50, q51, q52⟩ := KT.out
        obtain ⟨q60, q61, q62⟩ := KV.out
        obtain ⟨q70, q71, q72⟩ := KM.out
        go_wp2_with fail
        refine (HTG.out _ true (TGo.out (by first | trivial | rfl)) _).mono ?_
        rintro e w20 ⟨rfl, b⟩
        replace KB := hid (KB.out.below b KB.out.lt)
        replace KX := hid (KX.out.below b KX.out.lt)
        replace KS := hid (KS.out.below b KS.out.lt)
        replace KY := hid (KY.out.below b KY.out.lt)
        replace KZ := hid (KZ.out.below b KZ.out.lt)
        replace KT := hid (KT.out.below b KT.out.lt)
        replace KV := hid (KV.out.below b KV.out.lt)
        replace KM := hid (KM.out.below b KM.out.lt)
        replace B : Hid (Below w.heap.size w w20) := B.out.trans (b.mono B.out.size)
        clear b q00 q01 q02 q10 q11 q12 q20 q21 q22 q30 q31 q32 q40 q41 q42 q50 q51 q52 q60 q61 q62 q70 q71 q72
        have hy := (YGo.out (by first | trivial | rfl)).2
        obtain ⟨q00, q01, q02⟩ := KB.out
        obtain ⟨q10, q11, q12⟩ := KX.out
        obtain ⟨q20, q21, q22⟩ := KS.out
        obtain ⟨q30, q31, q32⟩ := KY.out
        obtain ⟨q40, q41, q42⟩ := KZ.out
        obtain ⟨q50, q51, q52⟩ := KT.out
        obtain ⟨q60, q61, q62⟩ := KV.out
        obtain ⟨q70, q71, q72⟩ := KM.out
        go_wp2_with fail
        refine (HTG.out _ true (YGo.out (by first | trivial | rfl)).1 _).mono ?_
        rintro e w21 ⟨rfl, b⟩
        replace KB := hid (KB.out.below b KB.out.lt)
        replace KX := hid (KX.out.below b KX.out.lt)
        replace KS := hid (KS.out.below b KS.out.lt)
        replace KY := hid (KY.out.below b KY.out.lt)
        replace KZ := hid (KZ.out.below b KZ.out.lt)
        replace KT := hid (KT.out.below b KT.out.lt)
        replace KV := hid (KV.out.below b KV.out.lt)
        replace KM := hid (KM.out.below b KM.out.lt)
        replace B : Hid (Below w.heap.size w w21) := B.out.trans (b.mono B.out.size)
        clear b q00 q01 q02 q10 q11 q12 q20 q21 q22 q30 q31 q32 q40 q41 q42 q50 q51 q52 q60 q61 q62 q70 q71 q72
        have hv := (NGo.out (by first | trivial | rfl)).2
        obtain ⟨q00, q01, q02⟩ := KB.out
        obtain ⟨q10, q11, q12⟩ := KX.out
        obtain ⟨q20, q21, q22⟩ := KS.out
        obtain ⟨q30, q31, q32⟩ := KY.out
        obtain ⟨q40, q41, q42⟩ := KZ.out
        obtain ⟨q50, q51, q52⟩ := KT.out
        obtain ⟨q60, q61, q62⟩ := KV.out
        obtain ⟨q70, q71, q72⟩ := KM.out
        go_wp2_with fail
        refine (HTG.out _ true (NGo.out (by first | trivial | rfl)).1 _).mono ?_
        rintro e w22 ⟨rfl, b⟩
        replace KB := hid (KB.out.below b KB.out.lt)
        replace KX := hid (KX.out.below b KX.out.lt)
        replace KS := hid (KS.out.below b KS.out.lt)
        replace KY := hid (KY.out.below b KY.out.lt)
        replace KZ := hid (KZ.out.below b KZ.out.lt)
        replace KT := hid (KT.out.below b KT.out.lt)
        replace KV := hid (KV.out.below b KV.out.lt)
        replace KM := hid (KM.out.below b KM.out.lt)
        replace B : Hid (Below w.heap.size w w22) := B.out.trans (b.mono B.out.size)
        clear b q00 q01 q02 q10 q11 q12 q20 q21 q22 q30 q31 q32 q40 q41 q42 q50 q51 q52 q60 q61 q62 q70 q71 q72
        obtain ⟨q00, q01, q02⟩ := KB.out
        obtain ⟨q10, q11, q12⟩ := KX.out
        obtain ⟨q20, q21, q22⟩ := KS.out
        obtain ⟨q30, q31, q32⟩ := KY.out
        obtain ⟨q40, q41, q42⟩ := KZ.out
        obtain ⟨q50, q51, q52⟩ := KT.out
        obtain ⟨q60, q61, q62⟩ := KV.out
        obtain ⟨q70, q71, q72⟩ := KM.out
        go_wp2
        go_ret
        exact ⟨by first | rfl | simp, B.out⟩
end Go.Proofs.Ytcieefggijjekac
