/-
  The law FnLost answers true at every two lists of bytes.
-/
import Derived.Test.YtijojdempijhbadDrawLost
import Derived.Test.YtijojdempijhbadSPlay
import Derived.Test.YtijojdempijhbadIPlay
import Derived.Test.YtijojdempijhbadIBuiltin9
import Derived.Test.YtijojdempijhbadSHas1
import Derived.Test.YtijojdempijhbadITell2
import Derived.Test.YtijojdempijhbadKSpanConv
import Derived.Test.YtijojdempijhbadLenFacts
import Derived.Test.YtijojdempijhbadRows2
import Derived.Test.YtijojdempijhbadKIntRows
import Derived.Test.YtijojdempijhbadHasL
import Derived.Test.YtijojdempijhbadBits
namespace Go.Proofs.Ytijojdempijhbad
open Go.RowKit

theorem code_after11 {w w' : World} {v : Value} (h : CodeOk w.heap.size w v) (hb : Below w.heap.size w w') : CodeOk w'.heap.size w' v := by
  obtain ⟨a, len, cap, rfl, hl, hx⟩ := h.below hb
  refine ⟨a, len, cap, rfl, hl, ?_⟩
  rcases hx with hx | ⟨cb, off, rfl, hlt, hc⟩
  · exact .inl hx
  · exact .inr ⟨cb, off, rfl, Nat.lt_of_lt_of_le hlt hb.size, hc⟩
theorem kform11 {w : World} {v : Value} {xs : List Int} (h : KReads w v xs) : ∃ a c, v = .slice a xs.length c := by obtain ⟨a, c, e, _⟩ := h; exact ⟨a, c, e⟩
theorem spform11 {w : World} {v : Value} {xs : List Sp} (h : SpReads w v xs) : ∃ a c, v = .slice a xs.length c := by obtain ⟨a, c, e, _⟩ := h; exact ⟨a, c, e⟩
theorem acks_good {xs : List Int} (h : acksB xs = true) : goodL (acksY xs) = true ∧ lenL (acksY xs) = (xs.length : Int) := by
  have h' := h
  unfold acksB at h'
  rw [Bool.and_eq_true, decide_eq_true_eq] at h'
  obtain ⟨i1, _, i3⟩ := acks_len h'.1 xs.length (Nat.le_refl _)
  have e : acksY xs = acksU xs xs.length := by unfold acksY; rw [h]; rfl
  rw [e]
  refine ⟨?_, i1⟩
  unfold goodL
  rw [i3, decide_eq_true h'.2]
  rfl
set_option maxRecDepth 100000 in
set_option maxHeartbeats 40000000 in
theorem FnLost_walk (a0 : Option Addr) (len0 cap0 : Nat) (z0 : List Int) (a1 : Option Addr) (len1 cap1 : Nat) (z1 : List Int) (w : World) (h0 : IsRow .u8 w a0 len0 cap0 z0) (h1 : IsRow .u8 w a1 len1 cap1 z1) (b0 : cap0 * 1 ≤ 140737488351232) (b1 : cap1 * 1 ≤ 140737488351232) :
    Calls Try.prog 6 #[.slice a0 len0 cap0, .slice a1 len1 cap1] w fun e w' => e = .returned (.bool true) ∧ Below w.heap.size w w' := by
  have l0 : len0 ≤ cap0 := by rcases h0 with ⟨_, rfl, rfl, _⟩ | ⟨x, _, h, _⟩ <;> omega
  have l1 : len1 ≤ cap1 := by rcases h1 with ⟨_, rfl, rfl, _⟩ | ⟨x, _, h, _⟩ <;> omega
  by_cases hbig : (1048576 : Int) < (len0 : Int) + (len1 : Int)
  · clear h0 h1
    go_enter Try.func6, Try.ntmps6
    go_wp2
    go_ret
    exact ⟨rfl, Below.refl _ _⟩
  have HC0 := hid (code_of_row h0 (by omega))
  have HC1 := hid (code_of_row h1 (by omega))
  clear h0 h1
  go_enter Try.func6, Try.ntmps6
  go_wp2_with fail
  refine (drawPlay_any _ _ HC0.out).mono ?_
  rintro e w1 ⟨m, u, rfl, xs, ⟨hm20, hx60, hxz⟩, o1, b⟩
  obtain ⟨ax, cx, rfl⟩ := kform11 o1.reads
  have RX := hid o1.reads
  have BE := hid b
  have HIN : Hid (∀ z ∈ xs, inW z) := fun z hz => inW_small (by have := hxz z hz; omega) (by have := hxz z hz; omega)
  clear b HC0 o1 hxz
  obtain ⟨Y, hY⟩ : ∃ Y, playL (m : Int) xs = Y := ⟨_, rfl⟩
  obtain ⟨t, ht⟩ : ∃ t, playT (m : Int) xs = t := ⟨_, rfl⟩
  obtain ⟨dl, hdl⟩ : ∃ d, lateN xs = d := ⟨_, rfl⟩
  obtain ⟨ob, hob⟩ : ∃ t, oruB xs 60 = t := ⟨_, rfl⟩
  have HY := hid hY
  have Ht := hid ht
  have HDL := hid hdl
  have HOB := hid hob
  clear hY ht hdl hob
  go_wp2_with fail
  refine (iplay_any (m : Int) _ xs _ RX.out HIN.out Y t HY.out Ht.out).mono ?_
  rintro e w2 ⟨u2, rfl, o2, bb⟩
  obtain ⟨ay, cy, rfl⟩ := kform11 o2.reads
  have RY := hid o2.reads
  replace RX := hid (RX.out.below bb)
  replace BE := hid (BE.out.trans (bb.mono BE.out.size))
  clear bb o2
  go_wp2_with fail
  refine (splay_any (m : Int) _ xs _ RX.out Y t HY.out Ht.out).mono ?_
  rintro e w3 ⟨u3, rfl, o3, bb⟩
  obtain ⟨az, cz, rfl⟩ := kform11 o3.reads
  have RZ := hid o3.reads
  replace RX := hid (RX.out.below bb)
  replace RY := hid (RY.out.below bb)
  replace BE := hid (BE.out.trans (bb.mono BE.out.size))
  clear bb o3
  go_wp2_with fail
  refine (ilate11_any _ xs _ RX.out HIN.out dl ob HDL.out HOB.out).mono ?_
  rintro e w4 ⟨rfl, bb⟩
  replace RX := hid (RX.out.below bb)
  replace RY := hid (RY.out.below bb)
  replace RZ := hid (RZ.out.below bb)
  replace BE := hid (BE.out.trans (bb.mono BE.out.size))
  clear bb
  go_wp2_with fail
  refine (slate11_any _ xs _ RX.out dl ob HDL.out HOB.out).mono ?_
  rintro e w5 ⟨rfl, bb⟩
  replace RX := hid (RX.out.below bb)
  replace RY := hid (RY.out.below bb)
  replace RZ := hid (RZ.out.below bb)
  replace BE := hid (BE.out.trans (bb.mono BE.out.size))
  clear bb
  have n0 : (t != t) = false := by simp
  have n1 : (ob != ob) = false := by simp
  have n2 : (dl != dl) = false := by simp
  go_wp2_with fail
  refine (sameK_same _ _ Y _ RY.out RZ.out).mono ?_
  rintro e w6 ⟨rfl, hw⟩
  have bb := sameK_below hw
  replace RX := hid (RX.out.below bb)
  replace RY := hid (RY.out.below bb)
  replace BE := hid (BE.out.trans (bb.mono BE.out.size))
  clear bb hw RZ
  cases t
  · clear RY RX HY
    as_aux_lemma =>
      go_wp2_with fail
      refine (drawAcks_any _ _ (code_after11 HC1.out BE.out)).mono ?_
      rintro e v1 ⟨ua, rfl, xa, hxa, oa, bb⟩
      obtain ⟨aa, ca, rfl⟩ := kform11 oa.reads
      have RA := hid oa.reads
      replace BE := hid (BE.out.trans (bb.mono BE.out.size))
      have HAI : Hid (∀ z ∈ xa, inW z) := fun z hz => inW_small (by have := hxa.2 z hz; omega) (by have := hxa.2 z hz; omega)
      clear bb oa hxa
      obtain ⟨Ya, hYa⟩ : ∃ Y, acksY xa = Y := ⟨_, rfl⟩
      obtain ⟨ta, hta⟩ : ∃ t, acksB xa = t := ⟨_, rfl⟩
      have HYa := hid hYa
      have Hta := hid hta
      clear hYa hta
      go_wp2_with fail
      refine (iacks_any _ xa _ RA.out HAI.out Ya ta HYa.out Hta.out).mono ?_
      rintro e v2 ⟨u2, rfl, o2, bb⟩
      obtain ⟨ay, cy, rfl⟩ := spform11 o2.reads
      have R2 := hid o2.reads
      replace RA := hid (RA.out.below bb)
      replace BE := hid (BE.out.trans (bb.mono BE.out.size))
      clear bb o2
      go_wp2_with fail
      refine (sacks_any _ xa _ RA.out Ya ta HYa.out Hta.out).mono ?_
      rintro e v3 ⟨u3, rfl, o3, bb⟩
      obtain ⟨az, cz, rfl⟩ := spform11 o3.reads
      have R3 := hid o3.reads
      replace R2 := hid (R2.out.below bb)
      replace BE := hid (BE.out.trans (bb.mono BE.out.size))
      clear bb o3 RA
      have nn : (ta != ta) = false := by simp
      go_wp2_with fail
      refine (sameSpans_same _ _ Ya _ R2.out.s R3.out.s).mono ?_
      rintro e v4 ⟨rfl, bb⟩
      replace R2 := hid (R2.out.below bb)
      replace BE := hid (BE.out.trans (bb.mono BE.out.size))
      clear bb R3
      cases ta
      · go_wp2
        go_ret
        exact ⟨rfl, BE.out⟩
      obtain ⟨ga, la⟩ := acks_good Hta.out
      rw [HYa.out] at ga la
      have GA := hid ga
      have LA := hid la
      clear ga la
      go_wp2_with fail
      refine (ilengthOf_yes _ Ya _ R2.out.s GA.out).mono ?_
      rintro e v5 ⟨rfl, bb⟩
      replace BE := hid (BE.out.trans (bb.mono BE.out.size))
      clear bb R2
      rw [LA.out]
      go_wp2
      go_ret
      exact ⟨rfl, BE.out⟩
  have HON : Hid (oruB xs 60 = true) := by
    have h := Ht.out
    unfold playT at h
    rw [Bool.and_eq_true, Bool.and_eq_true] at h
    exact oruB_wide h.2.1 (by omega)
  obtain rfl : true = ob := by rw [← HOB.out, HON.out]
  have hYl : Y.length ≤ 60 := by
    have h := selU_len (fun x => (playE (newSd (m : Int)) xs).contains x) (m : Int).toNat
    rw [← HY.out]
    unfold playL
    rw [Ht.out]
    show (selU (fun x => (playE (newSd (m : Int)) xs).contains x) (m : Int).toNat).length ≤ 60
    rw [Int.toNat_natCast] at h ⊢
    omega
  have HNO : Hid (∀ z ∈ Y, dl < 3 → xs.contains z = false) := fun z hz hd => by
    cases hc : xs.contains z
    · rfl
    · rw [← HY.out] at hz
      have := none_lost Ht.out hz (by simpa using hc)
      rw [HDL.out] at this
      omega
  have HFAR : Hid (∀ z : Int, 0 ≤ z → z + 3 ≤ topU xs xs.length → xs.contains z = false → Y.contains z = true) := fun z h0 h3 hc => by
    have := far_lost Ht.out h0 h3 (by simpa using hc)
    rw [HY.out] at this
    simpa using this
  have HTI : Hid (∀ k, k ≤ xs.length → (-1 ≤ topU xs k ∧ topU xs k ≤ 59)) := fun k hk => (topU_in k fun i hi => by
    have := (oruB_iff xs 60).1 HON.out
    rw [fl_get (show i < xs.length by omega)]
    have := this.2 _ (List.getElem_mem (show i < xs.length by omega))
    omega).1
  go_wp2
  go_loopw [85] (fun i wr => ∃ k : Nat, k ≤ Y.length ∧ i = .int .i64 (k : Nat) ∧ w6 = wr) (fun i _ => Y.length - (intOf i).toNat)
  case atStart => exact ⟨0, Nat.zero_le _, rfl, rfl⟩
  case round =>
    obtain ⟨k, hk, rfl, rfl⟩ := hrel
    by_cases hlt : k < Y.length
    · obtain ⟨g, o, cap', e, hc⟩ := RY.out.cells k hlt
      cases e
      obtain ⟨y, hy⟩ : ∃ y, Y.getD k 0 = y := ⟨_, rfl⟩
      have cy : w6.cell? ⟨g, o + k, none⟩ = some (.int .i64 y) := by rw [← hy]; exact hc k hlt
      have HNy := hid (HNO.out y (by rw [← hy]; simp [List.getD_eq_getElem?_getD, hlt]))
      have k0 : (0 : Int) ≤ (k : Int) := by omega
      have k1 : (k : Int) < (Y.length : Int) := by omega
      clear hc hy
      by_cases hd : dl < 3
      · go_wp2_with fail
        refine (lhas_eq _ xs y false (HNy.out hd) _ RX.out).mono ?_
        rintro e w' ⟨rfl, hw⟩; obtain rfl := hw.symm
        go_wp2
        go_roundw
        case rel => exact ⟨k + 1, by omega, by go_num, by first | rfl | trivial⟩
        case measure => simp [intOf]; omega
      · go_wp2
        go_roundw
        case rel => exact ⟨k + 1, by omega, by go_num, by first | rfl | trivial⟩
        case measure => simp [intOf]; omega
    · obtain rfl : k = Y.length := by omega
      clear HNO
      go_wp2
      go_loopw [17, 99] (fun tv i wr => ∃ k : Nat, k ≤ xs.length ∧ i = .int .i64 (k : Nat) ∧ tv = .int .i64 (topU xs k) ∧ w6 = wr) (fun _ i _ => xs.length - (intOf i).toNat)
      case atStart => exact ⟨0, Nat.zero_le _, rfl, rfl, rfl⟩
      case round =>
        obtain ⟨k, hk, rfl, rfl, rfl⟩ := hrel
        by_cases hlt : k < xs.length
        · obtain ⟨g, o, cap', e, hc⟩ := RX.out.cells k hlt
          cases e
          have HTS : Hid (topU xs (k + 1) = max (topU xs k) (fl xs k)) := rfl
          obtain ⟨tp, htp⟩ : ∃ tp, topU xs k = tp := ⟨_, rfl⟩
          obtain ⟨y, hy⟩ : ∃ y, fl xs k = y := ⟨_, rfl⟩
          have cy : w6.cell? ⟨g, o + k, none⟩ = some (.int .i64 y) := by rw [← hy]; exact hc k hlt
          rw [htp, hy] at HTS
          rw [htp]
          have k0 : (0 : Int) ≤ (k : Int) := by omega
          have k1 : (k : Int) < (xs.length : Int) := by omega
          clear hc hy htp
          by_cases hd : tp < y
          · go_wp2
            go_roundw
            case rel => exact ⟨k + 1, by omega, by go_num, by rw [HTS.out, Int.max_eq_right (by omega)], by first | rfl | trivial⟩
            case measure => simp [intOf]; omega
          · go_wp2
            go_roundw
            case rel => exact ⟨k + 1, by omega, by go_num, by rw [HTS.out, Int.max_eq_left (by omega)], by first | rfl | trivial⟩
            case measure => simp [intOf]; omega
        · obtain rfl : k = xs.length := by omega
          have hti := HTI.out xs.length (Nat.le_refl _)
          obtain ⟨tp, htp⟩ : ∃ tp, topU xs xs.length = tp := ⟨_, rfl⟩
          rw [htp] at HFAR hti
          rw [htp]
          clear htp HTI
          go_wp2
          go_loopw [20] (fun nv wr => ∃ n : Nat, n ≤ 60 ∧ nv = .int .i64 (n : Nat) ∧ w6 = wr) (fun nv _ => 100 - (intOf nv).toNat)
          case atStart => exact ⟨0, by omega, rfl, rfl⟩
          case round =>
            obtain ⟨n, hn, rfl, rfl⟩ := hrel
            obtain ⟨n3, hn3⟩ : ∃ n3, n + 3 = n3 := ⟨_, rfl⟩
            have e1 : (n : Int) + 3 = (n3 : Nat) := by rw [← hn3]; simp
            have e2 : IntKind.i64.wrap (n3 : Int) = (n3 : Nat) := by rw [IntKind.wrap_i64]; omega
            by_cases hgo : (n3 : Int) ≤ tp
            · obtain ⟨b1, hb1⟩ : ∃ b, xs.contains (n : Int) = b := ⟨_, rfl⟩
              have HB1 := hid hb1
              have HF := hid (HFAR.out (n : Int) (by omega) (by omega))
              rw [hb1] at HF
              have hn56 : n ≤ 56 := by omega
              clear hb1 hn3
              go_wp2_with fail
              refine (lhas_eq _ xs (n : Int) b1 HB1.out _ RX.out).mono ?_
              rintro e w' ⟨rfl, hw⟩; obtain rfl := hw.symm
              cases b1
              · have hyc := HF.out rfl
                have HYC := hid hyc
                clear hyc
                go_wp2_with fail
                refine (lhas_eq _ Y (n : Int) true HYC.out _ RY.out).mono ?_
                rintro e w' ⟨rfl, hw⟩; obtain rfl := hw.symm
                go_wp2
                go_roundw
                case rel => exact ⟨n + 1, by omega, by go_num, by first | rfl | trivial⟩
                case measure => simp [intOf]; omega
              · go_wp2
                go_roundw
                case rel => exact ⟨n + 1, by omega, by go_num, by first | rfl | trivial⟩
                case measure => simp [intOf]; omega
            · clear hn3 HFAR RX RY HY
              as_aux_lemma =>
                go_wp2_with fail
                refine (drawAcks_any _ _ (code_after11 HC1.out BE.out)).mono ?_
                rintro e v1 ⟨ua, rfl, xa, hxa, oa, bb⟩
                obtain ⟨aa, ca, rfl⟩ := kform11 oa.reads
                have RA := hid oa.reads
                replace BE := hid (BE.out.trans (bb.mono BE.out.size))
                have HAI : Hid (∀ z ∈ xa, inW z) := fun z hz => inW_small (by have := hxa.2 z hz; omega) (by have := hxa.2 z hz; omega)
                clear bb oa hxa
                obtain ⟨Ya, hYa⟩ : ∃ Y, acksY xa = Y := ⟨_, rfl⟩
                obtain ⟨ta, hta⟩ : ∃ t, acksB xa = t := ⟨_, rfl⟩
                have HYa := hid hYa
                have Hta := hid hta
                clear hYa hta
                go_wp2_with fail
                refine (iacks_any _ xa _ RA.out HAI.out Ya ta HYa.out Hta.out).mono ?_
                rintro e v2 ⟨u2, rfl, o2, bb⟩
                obtain ⟨ay, cy, rfl⟩ := spform11 o2.reads
                have R2 := hid o2.reads
                replace RA := hid (RA.out.below bb)
                replace BE := hid (BE.out.trans (bb.mono BE.out.size))
                clear bb o2
                go_wp2_with fail
                refine (sacks_any _ xa _ RA.out Ya ta HYa.out Hta.out).mono ?_
                rintro e v3 ⟨u3, rfl, o3, bb⟩
                obtain ⟨az, cz, rfl⟩ := spform11 o3.reads
                have R3 := hid o3.reads
                replace R2 := hid (R2.out.below bb)
                replace BE := hid (BE.out.trans (bb.mono BE.out.size))
                clear bb o3 RA
                have nn : (ta != ta) = false := by simp
                go_wp2_with fail
                refine (sameSpans_same _ _ Ya _ R2.out.s R3.out.s).mono ?_
                rintro e v4 ⟨rfl, bb⟩
                replace R2 := hid (R2.out.below bb)
                replace BE := hid (BE.out.trans (bb.mono BE.out.size))
                clear bb R3
                cases ta
                · go_wp2
                  go_ret
                  exact ⟨rfl, BE.out⟩
                obtain ⟨ga, la⟩ := acks_good Hta.out
                rw [HYa.out] at ga la
                have GA := hid ga
                have LA := hid la
                clear ga la
                go_wp2_with fail
                refine (ilengthOf_yes _ Ya _ R2.out.s GA.out).mono ?_
                rintro e v5 ⟨rfl, bb⟩
                replace BE := hid (BE.out.trans (bb.mono BE.out.size))
                clear bb R2
                rw [LA.out]
                go_wp2
                go_ret
                exact ⟨rfl, BE.out⟩
end Go.Proofs.Ytijojdempijhbad
