/-
  slices.ContainsFunc, slices.IndexFunc over a court's cases and slips: whether one is wrong. Nothing old is written.
-/
import Derived.Test.YtdlkilacnnjglaaICa1
import Derived.Test.YtdlkilacnnjglaaINote
import Derived.Test.YtdlkilacnnjglaaCoOpen
import Derived.Deep.RegionWith
namespace Go.Proofs.Ytdlkilacnnjglaa
open Go.RowKit

theorem ca_anyY {f : CaEl → Bool} {xs : List CaEl} (k : Nat) (hk : k < xs.length) (h : f (xs.getD k (0, false, 0, 0)) = true) : xs.any f = true := by
  rw [List.any_eq_true]
  exact ⟨xs.getD k (0, false, 0, 0), by simp [List.getD_eq_getElem?_getD, hk], h⟩
theorem ca_not_all (f : CaEl → Bool) (xs : List CaEl) : xs.any (fun x => !f x) = !xs.all f := by
  induction xs with
  | nil => rfl
  | cons x xs ih => simp [ih]
theorem sl_anyT (f : SlEl → Bool) (xs : List SlEl) (k : Nat) (hk : k < xs.length) : (xs.take (k + 1)).any f = ((xs.take k).any f || f (xs.getD k (0, 0, 0))) := by
  rw [List.take_succ_eq_append_getElem hk, List.any_append]
  simp [List.getD_eq_getElem?_getD, hk]
theorem sl_anyY {f : SlEl → Bool} {xs : List SlEl} (k : Nat) (hk : k < xs.length) (h : f (xs.getD k (0, 0, 0)) = true) : xs.any f = true := by
  rw [List.any_eq_true]
  exact ⟨xs.getD k (0, 0, 0), by simp [List.getD_eq_getElem?_getD, hk], h⟩
theorem sl_not_all (f : SlEl → Bool) (xs : List SlEl) : xs.any (fun x => !f x) = !xs.all f := by
  induction xs with
  | nil => rfl
  | cons x xs ih => simp [ih]
set_option maxRecDepth 100000 in
set_option maxHeartbeats 4000000 in
theorem iidxW_any (now : Int) (v1 v2 : Value) (v : Value) (xs : List CaEl) (w : World) (hr : CaReads w v xs) :
    Calls Try.prog 81 #[v, .func (.func 55) #[.agg #[.int .i64 now, v1, v2]] #[]] w fun e w' => ∃ r : Int, e = .returned (.int .i64 r) ∧ decide (0 ≤ r) = xs.any (fun x => !(caseB now) x) ∧ Below w.heap.size w w' := by
  have HR := hid hr
  obtain ⟨a, cap, rfl, hl, _⟩ := hr
  obtain ⟨f, hf⟩ : ∃ f : CaEl → Bool, f = fun x => !(caseB now) x := ⟨_, rfl⟩
  rw [← hf]
  go_enter Try.func81, Try.ntmps81
  go_wp2
  go_loopw [8] (fun i wr => ∃ k : Nat, k ≤ xs.length ∧ i = .int .i64 k ∧ (xs.take k).any f = false ∧ Below w.heap.size w wr) (fun i _ => xs.length - (intOf i).toNat)
  case atStart => exact ⟨0, Nat.zero_le _, rfl, rfl, Below.refl _ _⟩
  case round =>
    obtain ⟨k, hk, rfl, hall, hb⟩ := hrel
    have HL := hid hall
    have HB := hid hb
    clear hall hb
    by_cases hlt : k < xs.length
    · obtain ⟨g, o, cap', e, hc⟩ := (HR.out.below HB.out).cells k hlt
      cases e
      obtain ⟨x, hx0⟩ : ∃ x, x = xs.getD k (0, false, 0, 0) := ⟨_, rfl⟩
      have hck := hc k hlt
      rw [← hx0] at hck
      obtain ⟨c0, c1, c2, c3⟩ := hck
      obtain ⟨b, hb1⟩ : ∃ b, (caseB now) x = b := ⟨_, rfl⟩
      have HB1 := hid hb1
      have HFX : f x = !b := by rw [hf]; simp only [hb1]
      have HS : Hid ((xs.take (k + 1)).any f = !b) := by show _ = _; rw [ca_anyT f xs k hlt, HL.out, ← hx0, HFX, Bool.false_or]
      have HY : Hid (b = false → xs.any f = true) := fun h => ca_anyY k hlt (by rw [← hx0, HFX, h]; rfl)
      clear hc hb1 hx0 HFX hf
      go_wp2_with fail
      refine (iisWrongCase_eq now _ _ x b HB1.out _).mono ?_
      rintro e w2 ⟨rfl, b2⟩
      have HB2 := hid (HB.out.trans (b2.mono HB.out.size))
      clear b2
      cases b
      · have hv : Hid (xs.any f = true) := HY.out rfl
        go_wp2
        go_ret
        exact ⟨_, rfl, by rw [hv.out]; simp, HB2.out⟩
      · go_wp2
        go_roundw
        case rel => exact ⟨k + 1, by omega, by go_num, HS.out, HB2.out⟩
        case measure => simp [intOf]; omega
    · have hv : Hid (xs.any f = false) := by show _ = _; have := HL.out; rw [List.take_of_length_le (by omega)] at this; exact this
      go_wp2
      go_ret
      exact ⟨_, rfl, by rw [hv.out]; rfl, HB.out⟩
set_option maxRecDepth 100000 in
theorem icontW_any (now : Int) (v1 v2 : Value) (v : Value) (xs : List CaEl) (t : Bool) (ht : xs.all ((caseB now)) = t) (w : World) (hr : CaReads w v xs) :
    Calls Try.prog 54 #[v, .func (.func 55) #[.agg #[.int .i64 now, v1, v2]] #[]] w fun e w' => e = .returned (.bool (!t)) ∧ Below w.heap.size w w' := by
  have HR := hid hr
  have HT : Hid (xs.any (fun x => !(caseB now) x) = !t) := by show _ = _; rw [ca_not_all, ht]
  clear hr ht
  go_enter Try.func54, Try.ntmps54
  go_wp2_with fail
  refine (iidxW_any now _ _ v xs _ HR.out).mono ?_
  rintro e w' ⟨r, rfl, hd, b2⟩
  rw [HT.out] at hd
  have HB := hid b2
  clear b2
  go_wp2
  go_ret
  exact ⟨by rw [← hd]; rfl, HB.out⟩
def noOdd (x : CaEl) : Bool := !oddB x
theorem iatOdds_eq' (x : CaEl) (t : Bool) (h : noOdd x = t) (w : World) :
    Calls Try.prog 60 #[.agg #[.int .i64 x.1, .bool x.2.1, .int .i64 x.2.2.1, .int .i64 x.2.2.2]] w fun e w' => e = .returned (.bool (!t)) ∧ Below w.heap.size w w' :=
  iatOdds_eq x (!t) (by rw [← h]; simp [noOdd]) w
set_option maxRecDepth 100000 in
set_option maxHeartbeats 4000000 in
theorem iidxO_any  (v : Value) (xs : List CaEl) (w : World) (hr : CaReads w v xs) :
    Calls Try.prog 81 #[v, .func (.func 60) #[] #[]] w fun e w' => ∃ r : Int, e = .returned (.int .i64 r) ∧ decide (0 ≤ r) = xs.any (fun x => !(noOdd) x) ∧ Below w.heap.size w w' := by
  have HR := hid hr
  obtain ⟨a, cap, rfl, hl, _⟩ := hr
  obtain ⟨f, hf⟩ : ∃ f : CaEl → Bool, f = fun x => !(noOdd) x := ⟨_, rfl⟩
  rw [← hf]
  go_enter Try.func81, Try.ntmps81
  go_wp2
  go_loopw [8] (fun i wr => ∃ k : Nat, k ≤ xs.length ∧ i = .int .i64 k ∧ (xs.take k).any f = false ∧ Below w.heap.size w wr) (fun i _ => xs.length - (intOf i).toNat)
  case atStart => exact ⟨0, Nat.zero_le _, rfl, rfl, Below.refl _ _⟩
  case round =>
    obtain ⟨k, hk, rfl, hall, hb⟩ := hrel
    have HL := hid hall
    have HB := hid hb
    clear hall hb
    by_cases hlt : k < xs.length
    · obtain ⟨g, o, cap', e, hc⟩ := (HR.out.below HB.out).cells k hlt
      cases e
      obtain ⟨x, hx0⟩ : ∃ x, x = xs.getD k (0, false, 0, 0) := ⟨_, rfl⟩
      have hck := hc k hlt
      rw [← hx0] at hck
      obtain ⟨c0, c1, c2, c3⟩ := hck
      obtain ⟨b, hb1⟩ : ∃ b, (noOdd) x = b := ⟨_, rfl⟩
      have HB1 := hid hb1
      have HFX : f x = !b := by rw [hf]; simp only [hb1]
      have HS : Hid ((xs.take (k + 1)).any f = !b) := by show _ = _; rw [ca_anyT f xs k hlt, HL.out, ← hx0, HFX, Bool.false_or]
      have HY : Hid (b = false → xs.any f = true) := fun h => ca_anyY k hlt (by rw [← hx0, HFX, h]; rfl)
      clear hc hb1 hx0 HFX hf
      go_wp2_with fail
      refine (iatOdds_eq' x b HB1.out _).mono ?_
      rintro e w2 ⟨rfl, b2⟩
      have HB2 := hid (HB.out.trans (b2.mono HB.out.size))
      clear b2
      cases b
      · have hv : Hid (xs.any f = true) := HY.out rfl
        go_wp2
        go_ret
        exact ⟨_, rfl, by rw [hv.out]; simp, HB2.out⟩
      · go_wp2
        go_roundw
        case rel => exact ⟨k + 1, by omega, by go_num, HS.out, HB2.out⟩
        case measure => simp [intOf]; omega
    · have hv : Hid (xs.any f = false) := by show _ = _; have := HL.out; rw [List.take_of_length_le (by omega)] at this; exact this
      go_wp2
      go_ret
      exact ⟨_, rfl, by rw [hv.out]; rfl, HB.out⟩
set_option maxRecDepth 100000 in
theorem icontO_any  (v : Value) (xs : List CaEl) (t : Bool) (ht : xs.all ((noOdd)) = t) (w : World) (hr : CaReads w v xs) :
    Calls Try.prog 54 #[v, .func (.func 60) #[] #[]] w fun e w' => e = .returned (.bool (!t)) ∧ Below w.heap.size w w' := by
  have HR := hid hr
  have HT : Hid (xs.any (fun x => !(noOdd) x) = !t) := by show _ = _; rw [ca_not_all, ht]
  clear hr ht
  go_enter Try.func54, Try.ntmps54
  go_wp2_with fail
  refine (iidxO_any v xs _ HR.out).mono ?_
  rintro e w' ⟨r, rfl, hd, b2⟩
  rw [HT.out] at hd
  have HB := hid b2
  clear b2
  go_wp2
  go_ret
  exact ⟨by rw [← hd]; rfl, HB.out⟩
set_option maxRecDepth 100000 in
set_option maxHeartbeats 8000000 in
theorem iisWrongSlip_eq (now : Int) (v1 v2 : Value) (cs : List CaEl) (x : SlEl) (t : Bool) (h : slipB cs x = t) (w : World) (hr : CaReads w v1 cs) :
    Calls Try.prog 57 #[.agg #[.int .i64 now, v1, v2], .agg #[.int .i64 x.1, .int .i64 x.2.1, .int .i64 x.2.2]] w fun e w' => e = .returned (.bool (!t)) ∧ Below w.heap.size w w' := by
  have HR := hid hr
  obtain ⟨a, c, rfl, hl, _⟩ := hr
  obtain ⟨ki, ca, wh⟩ := x
  simp only
  have HT := hid h
  clear h
  have PC := hid ((boxL_new w [.int .i64 now, .slice a cs.length c, v2] 26).below ((Below.refl (w.heap.size + 1) (w.alloc (.cells #[.int .i64 now, .slice a cs.length c, v2] 26))).alloc (by simp) (.cells #[.int .i64 ki, .int .i64 ca, .int .i64 wh] 80)) (by omega))
  have BW : Hid (Below w.heap.size w ((w.alloc (.cells #[.int .i64 now, .slice a cs.length c, v2] 26)).alloc (.cells #[.int .i64 ki, .int .i64 ca, .int .i64 wh] 80))) := ((Below.refl _ _).alloc (Nat.le_refl _) _).alloc (by simp) _
  obtain ⟨W, hW⟩ : ∃ W, W = (w.alloc (.cells #[.int .i64 now, .slice a cs.length c, v2] 26)).alloc (.cells #[.int .i64 ki, .int .i64 ca, .int .i64 wh] 80) := ⟨_, rfl⟩
  rw [← hW] at PC BW
  have HW := hid hW
  clear hW
  go_enter Try.func57, Try.ntmps57
  go_wp2_with fail
  rw [← HW.out]
  clear HW
  refine (inoteOf_eq (ki, ca, wh) _).mono ?_
  rintro e w1 ⟨rfl, bb⟩
  replace BW := hid (BW.out.trans (bb.mono BW.out.size))
  replace PC := hid (PC.out.below bb PC.out.lt)
  clear bb
  obtain ⟨q0, q1, q2⟩ := PC.out.three
  by_cases h1 : (ki = 1 ∨ ki = 2) ∧ wh = 0
  · obtain ⟨vd, hvd⟩ : ∃ vd : Int, nv (ki, ca, wh) = .iface 126 (.agg #[.int .i64 ca, .int .i64 vd]) := by
      obtain ⟨rfl | rfl, rfl⟩ := h1
      · exact ⟨1, rfl⟩
      · exact ⟨2, rfl⟩
    rw [hvd]
    have HE : Hid (decide (0 ≤ ca ∧ ca < (cs.length : Int)) = t) := by
      show _ = _
      rw [← HT.out]
      obtain ⟨rfl | rfl, rfl⟩ := h1 <;> simp [slipB]
    clear HT hvd h1
    go_wp2_with fail
    refine (ipleaIsOf_eq ca vd now a cs.length c v2 t HE.out _).mono ?_
    rintro e w2 ⟨rfl, bb⟩
    replace BW := hid (BW.out.trans (bb.mono BW.out.size))
    clear bb
    go_wp2
    go_ret
    exact ⟨rfl, BW.out⟩
  by_cases h2 : ki = 3 ∧ wh ≠ 0
  · have hvd : nv (ki, ca, wh) = .iface 127 (.agg #[.int .i64 ca, .int .i64 wh]) := by
      obtain ⟨rfl, h2⟩ := h2
      simp [nv, h2]
    rw [hvd]
    have HE : Hid ((decide (0 ≤ ca ∧ ca < (cs.length : Int)) && decide (wh = saidAt cs ca)) = t) := by
      show _ = _
      rw [← HT.out]
      obtain ⟨rfl, h2⟩ := h2
      simp [slipB, h2]
    clear HT hvd h1 h2
    go_wp2_with fail
    refine (isayIsOf_eq ca wh now _ v2 cs t HE.out _ (HR.out.below BW.out)).mono ?_
    rintro e w2 ⟨rfl, bb⟩
    replace BW := hid (BW.out.trans (bb.mono BW.out.size))
    clear bb
    go_wp2
    go_ret
    exact ⟨rfl, BW.out⟩
  have hvd : nv (ki, ca, wh) = .nilIface := by
    unfold nv
    simp only
    rw [if_neg (by omega), if_neg (by omega), if_neg h2]
  rw [hvd]
  have HV : Hid (t = false) := by
    show _ = _
    rw [← HT.out]
    unfold slipB
    simp only
    by_cases h3 : ki = 3
    · have h0 : wh = 0 := by omega
      subst h3 h0
      simp
    · rw [if_neg h3]
      by_cases h4 : 1 ≤ ki ∧ ki ≤ 3
      · rw [decide_eq_false (p := wh = 0) (by omega)]; simp
      · rw [decide_eq_false h4]; simp
  clear HT hvd h1 h2
  go_wp2
  go_ret
  exact ⟨by rw [HV.out]; rfl, BW.out⟩
set_option maxRecDepth 100000 in
set_option maxHeartbeats 4000000 in
theorem iidxS_any (now : Int) (v1 v2 : Value) (cs : List CaEl) (v : Value) (xs : List SlEl) (w : World) (hr : SlReads w v xs) (hcs : CaReads w v1 cs) :
    Calls Try.prog 83 #[v, .func (.func 57) #[.agg #[.int .i64 now, v1, v2]] #[]] w fun e w' => ∃ r : Int, e = .returned (.int .i64 r) ∧ decide (0 ≤ r) = xs.any (fun x => !(slipB cs) x) ∧ Below w.heap.size w w' := by
  have HR := hid hr
  have HCS := hid hcs
  obtain ⟨a, cap, rfl, hl, _⟩ := hr
  obtain ⟨f, hf⟩ : ∃ f : SlEl → Bool, f = fun x => !(slipB cs) x := ⟨_, rfl⟩
  rw [← hf]
  go_enter Try.func83, Try.ntmps83
  go_wp2
  go_loopw [8] (fun i wr => ∃ k : Nat, k ≤ xs.length ∧ i = .int .i64 k ∧ (xs.take k).any f = false ∧ Below w.heap.size w wr) (fun i _ => xs.length - (intOf i).toNat)
  case atStart => exact ⟨0, Nat.zero_le _, rfl, rfl, Below.refl _ _⟩
  case round =>
    obtain ⟨k, hk, rfl, hall, hb⟩ := hrel
    have HL := hid hall
    have HB := hid hb
    clear hall hb
    by_cases hlt : k < xs.length
    · obtain ⟨g, o, cap', e, hc⟩ := (HR.out.below HB.out).cells k hlt
      cases e
      obtain ⟨x, hx0⟩ : ∃ x, x = xs.getD k (0, 0, 0) := ⟨_, rfl⟩
      have hck := hc k hlt
      rw [← hx0] at hck
      obtain ⟨c0, c1, c2⟩ := hck
      obtain ⟨b, hb1⟩ : ∃ b, (slipB cs) x = b := ⟨_, rfl⟩
      have HB1 := hid hb1
      have HFX : f x = !b := by rw [hf]; simp only [hb1]
      have HS : Hid ((xs.take (k + 1)).any f = !b) := by show _ = _; rw [sl_anyT f xs k hlt, HL.out, ← hx0, HFX, Bool.false_or]
      have HY : Hid (b = false → xs.any f = true) := fun h => sl_anyY k hlt (by rw [← hx0, HFX, h]; rfl)
      clear hc hb1 hx0 HFX hf
      go_wp2_with fail
      refine (iisWrongSlip_eq now _ _ cs x b HB1.out _ (HCS.out.below HB.out)).mono ?_
      rintro e w2 ⟨rfl, b2⟩
      have HB2 := hid (HB.out.trans (b2.mono HB.out.size))
      clear b2
      cases b
      · have hv : Hid (xs.any f = true) := HY.out rfl
        go_wp2
        go_ret
        exact ⟨_, rfl, by rw [hv.out]; simp, HB2.out⟩
      · go_wp2
        go_roundw
        case rel => exact ⟨k + 1, by omega, by go_num, HS.out, HB2.out⟩
        case measure => simp [intOf]; omega
    · have hv : Hid (xs.any f = false) := by show _ = _; have := HL.out; rw [List.take_of_length_le (by omega)] at this; exact this
      go_wp2
      go_ret
      exact ⟨_, rfl, by rw [hv.out]; rfl, HB.out⟩
set_option maxRecDepth 100000 in
theorem icontS_any (now : Int) (v1 v2 : Value) (cs : List CaEl) (v : Value) (xs : List SlEl) (t : Bool) (ht : xs.all ((slipB cs)) = t) (w : World) (hr : SlReads w v xs) (hcs : CaReads w v1 cs) :
    Calls Try.prog 56 #[v, .func (.func 57) #[.agg #[.int .i64 now, v1, v2]] #[]] w fun e w' => e = .returned (.bool (!t)) ∧ Below w.heap.size w w' := by
  have HR := hid hr
  have HCS := hid hcs
  have HT : Hid (xs.any (fun x => !(slipB cs) x) = !t) := by show _ = _; rw [sl_not_all, ht]
  clear hr ht
  go_enter Try.func56, Try.ntmps56
  go_wp2_with fail
  refine (iidxS_any now _ _ cs v xs _ HR.out HCS.out).mono ?_
  rintro e w' ⟨r, rfl, hd, b2⟩
  rw [HT.out] at hd
  have HB := hid b2
  clear b2
  go_wp2
  go_ret
  exact ⟨by rw [← hd]; rfl, HB.out⟩
end Go.Proofs.Ytdlkilacnnjglaa
