/-
  spec.RowsHit: the rows, rising, of which a byte is hit, in memory of their own; or the zero answer. Nothing old is written.
-/
import Derived.Test.YthmkeinhjlmgmadSDeep
import Derived.Test.YthmkeinhjlmgmadHitMath
import Derived.Test.YthmkeinhjlmgmadKOne
namespace Go.Proofs.Ythmkeinhjlmgmad
open Go.RowKit

set_option maxRecDepth 100000 in
set_option maxHeartbeats 4000000 in
theorem srows_any (many deep frm long : Int) (w : World) (Y : List Int) (t : Bool) (hY : hitL many deep frm long = Y) (ht : hitB many deep frm long = t) :
    Calls Try.prog 66 #[.int .i64 many, .int .i64 deep, .int .i64 frm, .int .i64 long] w fun e w' => ∃ u0, e = .returned (.tuple #[u0, .bool t]) ∧ KOwn w.heap.size w'.heap.size w' u0 Y ∧ Below w.heap.size w w' := by
  have HY := hid hY
  have Ht := hid ht
  clear hY ht
  cases t
  · have HE : Hid (Y = []) := by show _ = _; rw [← HY.out]; unfold hitL; rw [Ht.out]; rfl
    obtain ⟨b1, hb1⟩ : ∃ b, deepB many deep = b := ⟨_, rfl⟩
    have H1 := hid hb1
    cases b1
    · clear hb1
      go_enter Try.func66, Try.ntmps66
      go_wp2_with fail
      refine (sdeep_eq _ _ false H1.out _).mono ?_
      rintro e w' ⟨rfl, hw⟩; obtain rfl := hw.symm
      go_wp2
      go_ret2
      exact ⟨_, rfl, by rw [HE.out]; exact kown_nil _ _ _ _ _, Below.refl _ _⟩
    · obtain ⟨n, rfl⟩ : ∃ n : Nat, many = n := by simp [deepB] at hb1; exact ⟨many.toNat, by omega⟩
      have hn : n ≤ 120 := by simp [deepB] at hb1; omega
      have H2 : Hid (withB n frm long = false) := by have := Ht.out; unfold hitB at this; rw [H1.out] at this; exact this
      clear hb1
      by_cases h2 : 0 ≤ frm ∧ frm ≤ n
      · have H3 : Hid (decide (0 ≤ frm ∧ frm ≤ n) = true) := by show _ = _; simpa using h2
        have H4 : Hid (decide (0 ≤ long ∧ long ≤ (n : Int) - frm) = false) := by
          have := H2.out
          show _ = _
          simp [withB] at this
          rw [decide_eq_false_iff_not]
          omega
        have hw : IntKind.i64.wrap ((n : Int) - frm) = n - frm := by rw [IntKind.wrap_i64]; omega
        go_enter Try.func66, Try.ntmps66
        go_wp2_with fail
        refine (sdeep_eq _ _ true H1.out _).mono ?_
        rintro e w' ⟨rfl, hw'⟩; obtain rfl := hw'.symm
        go_wp2_with fail
        refine (l1In_eq frm 0 n true H3.out _).mono ?_
        rintro e w' ⟨rfl, hw'⟩; obtain rfl := hw'.symm
        go_wp2_with fail
        refine (l1In_eq long 0 (n - frm) false H4.out _).mono ?_
        rintro e w' ⟨rfl, hw'⟩; obtain rfl := hw'.symm
        go_wp2
        go_ret2
        exact ⟨_, rfl, by rw [HE.out]; exact kown_nil _ _ _ _ _, Below.refl _ _⟩
      · have H3 : Hid (decide (0 ≤ frm ∧ frm ≤ n) = false) := by show _ = _; simpa using h2
        clear h2
        go_enter Try.func66, Try.ntmps66
        go_wp2_with fail
        refine (sdeep_eq _ _ true H1.out _).mono ?_
        rintro e w' ⟨rfl, hw'⟩; obtain rfl := hw'.symm
        go_wp2_with fail
        refine (l1In_eq frm 0 n false H3.out _).mono ?_
        rintro e w' ⟨rfl, hw'⟩; obtain rfl := hw'.symm
        go_wp2
        go_ret2
        exact ⟨_, rfl, by rw [HE.out]; exact kown_nil _ _ _ _ _, Below.refl _ _⟩
  obtain ⟨n, d, f, l, rfl, rfl, rfl, rfl, h1, h2, h3, h4⟩ := hitB_parts Ht.out
  have HE : Hid (Y = rowsU d f l d) := by show _ = _; rw [← HY.out]; unfold hitL; rw [Ht.out, if_pos rfl]; simp
  have H1 : Hid (deepB n d = true) := by have := Ht.out; unfold hitB at this; rw [Bool.and_eq_true] at this; exact this.1
  have H2 : Hid (decide ((0 : Int) ≤ (f : Int) ∧ (f : Int) ≤ n) = true) := by show _ = _; rw [decide_eq_true_eq]; omega
  have H3 : Hid (decide ((0 : Int) ≤ (l : Int) ∧ (l : Int) ≤ (n : Int) - f) = true) := by show _ = _; rw [decide_eq_true_eq]; omega
  have hw : IntKind.i64.wrap ((n : Int) - f) = n - f := by rw [IntKind.wrap_i64]; omega
  clear HY
  have hne : ¬ (d : Int) = 0 := by omega
  have hfl : (f : Int) + (l : Int) = ((f + l : Nat) : Int) := by simp
  have hfw : IntKind.i64.wrap ((f + l : Nat) : Int) = ((f + l : Nat) : Int) := by rw [IntKind.wrap_i64]; omega
  obtain ⟨m, hm⟩ : ∃ m, f + l = m := ⟨_, rfl⟩
  rw [hm] at hfl hfw h4
  have HMm := hid hm
  clear hm
  go_enter Try.func66, Try.ntmps66
  go_wp2_with fail
  refine (sdeep_eq _ _ true H1.out _).mono ?_
  rintro e w' ⟨rfl, hw'⟩; obtain rfl := hw'.symm
  go_wp2_with fail
  refine (l1In_eq f 0 n true H2.out _).mono ?_
  rintro e w' ⟨rfl, hw'⟩; obtain rfl := hw'.symm
  go_wp2_with fail
  refine (l1In_eq l 0 (n - f) true H3.out _).mono ?_
  rintro e w' ⟨rfl, hw'⟩; obtain rfl := hw'.symm
  clear hw
  go_wp2_with fail
  go_loopw [10, 11] (fun lv rv wr => ∃ r : Nat, r ≤ d ∧ rv = .int .i64 (r : Nat) ∧ wr.ownsRow w.heap.size 3 1 lv (rowsU d f l r).length (kflat (rowsU d f l r)) ∧ Below w.heap.size w wr) (fun _ rv _ => d - (intOf rv).toNat)
  case atStart => exact ⟨0, Nat.zero_le _, rfl, World.ownsRow_nil _ _ _ _, Below.refl _ _⟩
  case round =>
    obtain ⟨r, hr, rfl, hown, hbel⟩ := hrel
    have HO := hid hown
    have HL := hid hbel
    have hsz := hbel.size
    clear hown hbel
    by_cases hlt : r < d
    · have hltd : (r : Int) < (d : Int) := by omega
      have HN := hid (rowsU_succ d f l r)
      have hlen := rowsU_len d f l r
      obtain ⟨ys, hys⟩ : ∃ ys, rowsU d f l r = ys := ⟨_, rfl⟩
      rw [hys] at HN HO hlen
      clear hys
      go_wp2_with fail
      go_loopw [12, 13] (fun hv iv wr' => ∃ k : Nat, k ≤ l ∧ iv = .int .i64 ((f + k : Nat) : Int) ∧ hv = .bool (hitU d f k r) ∧ wr = wr') (fun _ iv _ => f + l - (intOf iv).toNat)
      case atStart => exact ⟨0, Nat.zero_le _, rfl, by simp [hitU], rfl⟩
      case round =>
        obtain ⟨k, hk, rfl, rfl, rfl⟩ := hrel
        by_cases hkl : k < l
        · have HS := hid (hitU_succ d f k r)
          obtain ⟨hb, hhb⟩ : ∃ b, hitU d f k r = b := ⟨_, rfl⟩
          rw [hhb] at HS ⊢
          clear hhb
          obtain ⟨p, hp⟩ : ∃ p, f + k = p := ⟨_, rfl⟩
          rw [hp] at HS ⊢
          have hpm : (p : Int) < (m : Int) := by have := HMm.out; omega
          obtain ⟨q, hq⟩ : ∃ q, p % d = q := ⟨_, rfl⟩
          have e1 : (p : Int).tmod (d : Int) = (q : Nat) := by rw [Int.tmod_eq_emod_of_nonneg (by omega), ← hq]; rfl
          have e2 : (p : Int) % (d : Int) = (q : Nat) := by rw [← hq]; rfl
          rw [hq] at HS
          have HP := hid hp
          clear hp hq
          cases hb
          · go_wp2
            go_roundw
            case rel => exact ⟨k + 1, by omega, by have := HP.out; go_num, by rw [HS.out]; congr 1; rw [Bool.false_or, Bool.eq_iff_iff]; simp; exact ⟨fun h => by omega, fun h => by omega⟩, trivial⟩
            case measure => simp [intOf]; have := HP.out; omega
          · go_wp2
            go_roundw
            case rel => exact ⟨k + 1, by omega, by have := HP.out; go_num, by rw [HS.out]; rfl, trivial⟩
            case measure => simp [intOf]; have := HP.out; omega
        · obtain rfl : k = l := by omega
          rw [HMm.out]
          obtain ⟨hb, hhb⟩ : ∃ b, hitU d f k r = b := ⟨_, rfl⟩
          rw [hhb] at HN ⊢
          clear hhb
          cases hb
          · go_wp2
            go_roundw
            case rel => exact ⟨r + 1, by omega, by go_num, by rw [HN.out]; simpa using HO.out, HL.out⟩
            case measure => simp [intOf]; omega
          · go_wp2_with (at_builtin; refine wpList_append_reads _ rfl _ _ rfl w.heap.size _ _ _ rfl (HO.out.alloc _) _ [(r : Int)] rfl (kreads_int _ _) (by simp; omega) (by simp; omega) ?_)
            intro v' w2 hown' hgrow _
            have HO2 : Hid (w2.ownsRow w.heap.size 3 1 v' (rowsU d f k (r + 1)).length (kflat (rowsU d f k (r + 1)))) := by
              show World.ownsRow _ _ _ _ _ _ _
              rw [HN.out]
              simpa using hown'
            have HL2 : Hid (Below w.heap.size w w2) := (HL.out.alloc (by omega) _).grown hgrow (by simp; omega) (by intro g hg; exact (HO.out.lt g hg).1)
            clear hown' hgrow
            go_wp2
            go_roundw
            case rel => exact ⟨r + 1, by omega, by go_num, HO2.out, HL2.out⟩
            case measure => simp [intOf]; omega
    · obtain rfl : r = d := by omega
      have hle := rowsU_len r f l r
      have HF := hid (KOwn.of_owns HO.out (by omega))
      go_wp2
      go_ret2
      exact ⟨_, rfl, by rw [HE.out]; exact HF.out, HL.out⟩
end Go.Proofs.Ythmkeinhjlmgmad
