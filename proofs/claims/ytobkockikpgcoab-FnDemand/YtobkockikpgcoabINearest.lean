/-
  impl.nearestEnds: an iterator that gives the job of each slot in turn, with what is left in cells of its own.
-/
import Derived.Test.YtobkockikpgcoabJLeft
import Derived.Test.YtobkockikpgcoabJClone
import Derived.Test.YtobkockikpgcoabINear
import Derived.Test.YtobkockikpgcoabRFKit
namespace Go.Proofs.Ytobkockikpgcoab
open Go.RowKit Go.Shelf

abbrev encI (x : Int) : Array Value := #[.int .i64 x]

theorem leftA_succ (xs : List JbEl) (t : Nat) : leftA xs (t + 1) = takeAt (leftA xs t) (slotA xs t) := rfl

set_option maxRecDepth 100000 in
set_option maxHeartbeats 4000000 in
theorem nearest_gives (Bn : Nat) (v : Value) (xs : List JbEl) (w : World) (hlen : xs.length ≤ 8) (hneed : ∀ t j, j < xs.length → -1000 ≤ ((leftA xs t).getD j (0, 0, 0)).2.1 ∧ ((leftA xs t).getD j (0, 0, 0)).2.1 ≤ 1000) (hB : Boxed w Bn 23 v) (hr : JbReads w v xs) :
    GivesT Try.prog 42 #[.pointer (some ⟨Bn, 0, none⟩)] encI 34 (earl xs 24) w := fun l J W hW hM hY h0 => by
  have HY := hid hY
  have HM := hid hM
  have HR := hid (hr.below hW)
  have hbox := (boxed_below hB hW hB.lt).cell
  have HN := hid hneed
  obtain ⟨a, cap, rfl, _, _⟩ := hr
  clear hY hM hB hneed
  refine callsIn_of_wp Try.func42 rfl trivial ?_ rfl
  simp only [Try.ntmps42, List.size_toArray, List.length_cons, List.length_nil, Nat.reduceAdd, Nat.reduceSub, Array.replicate_succ, Array.replicate_zero, List.push_toArray, List.append_toArray, List.nil_append, List.cons_append]
  gi_wp2_with (refine ⟨trivial, ?_⟩; gi_at_call 27; refine (callsIn_wide.2 (jclone_any _ xs _ HR.out (by omega))).mono ?_; rintro e w1 ⟨v1, rfl, b1, hown⟩)
  have L1 : Hid (LeftIs W.heap.size w1 v1 (leftA xs 0)) := by
    rcases hown with ⟨e, a1, e1⟩ | ⟨hne, ho⟩
    · exact ⟨by show xs.length ≤ _; omega, .inl ⟨e, a1, e1⟩⟩
    · exact LeftIs.of_owns ho (by show xs.length ≤ _; omega) hne
  have J1 : Hid (J [] w1) := HM.out _ _ _ h0 (MovesT.of_below b1)
  clear hown b1 h0 hbox
  gi_loopw [8] (fun i wr => ∃ t : Nat, t ≤ 24 ∧ i = .int .i64 t ∧ LeftIs W.heap.size wr v1 (leftA xs t) ∧ J (earl xs t) wr) (fun i _ => 24 - (intOf i).toNat)
  case atStart => exact ⟨0, by omega, rfl, L1.out, J1.out⟩
  case round =>
    obtain ⟨t, ht, rfl, hL, hJ⟩ := hrel
    have HL := hid hL
    have HJ := hid hJ
    clear hL hJ L1 J1
    by_cases hlt : t < 24
    · have hdf : decide ((t : Int) < 24) = true := by simp; omega
      have hll := length_leftA xs t
      have hrg := slotA_range xs t
      obtain ⟨b, hb⟩ : ∃ b, slotA xs t = b := ⟨_, rfl⟩
      have HS := hid hb
      rw [hb] at hrg
      clear hb
      by_cases hb1 : b = -1
      · subst hb1
        have HT : Hid (leftA xs (t + 1) = leftA xs t) := by show _ = _; rw [leftA_succ, HS.out]; rfl
        gi_wp2_with (refine ⟨trivial, ?_⟩; gi_at_call 43; refine (callsIn_wide.2 (nearestAt_eq _ (leftA xs t) t (-1) HS.out _ HL.out.reads (by omega))).mono ?_; rintro e w2 ⟨rfl, b2⟩; have L2 := hid (HL.out.below b2); have J2 := HM.out _ _ _ HJ.out (MovesT.of_below b2); obtain ⟨fn, tmps, assign, body, hy, hR⟩ := HY.out (earl xs t) (-1) w2 J2 (by rw [length_earl, length_earl]; omega); have HRd := hid hR; clear b2 J2 hR; dsimp only [encI] at hy)
        refine HRd.out.mono ?_
        rintro e W3 ⟨rfl, hJ3, hk3⟩
        have J3 : Hid (J (earl xs (t + 1)) W3) := by show J _ _; rw [earl_succ, HS.out]; exact hJ3
        have L3 : Hid (LeftIs W.heap.size W3 v1 (leftA xs (t + 1))) := by show LeftIs _ _ _ _; rw [HT.out]; exact L2.out.keep hk3
        clear hJ3 hk3 L2
        gi_wp2
        go_roundw
        case rel => exact ⟨t + 1, by omega, by go_num, L3.out, J3.out⟩
        case measure => simp [intOf]; omega
      · obtain ⟨k, rfl⟩ : ∃ k : Nat, b = (k : Int) := ⟨b.toNat, by omega⟩
        have hkl : k < (leftA xs t).length := by omega
        obtain ⟨x, hx⟩ : ∃ x, (leftA xs t).getD k (0, 0, 0) = x := ⟨_, rfl⟩
        have HT : Hid (leftA xs (t + 1) = (leftA xs t).set k (dec1 x)) := by
          show _ = _
          rw [leftA_succ, HS.out]
          unfold takeAt
          rw [if_neg (by omega), Int.toNat_natCast, hx]
        have hxb := HN.out t k (by omega)
        rw [hx] at hxb
        have hw1 : IntKind.i64.wrap (x.2.1 - 1) = x.2.1 - 1 := by rw [IntKind.wrap_i64]; omega
        have e1 : ((k : Int) != -1) = true := by rw [bne_iff_ne]; omega
        obtain ⟨g, cap1, _, _, rfl, _⟩ := HL.out.dec k hkl x hx
        rw [hll]
        have m0 : (0 : Int) ≤ (k : Int) := by omega
        have m1 : (k : Int) < (xs.length : Int) := by omega
        have HX := hid hx
        clear hx hb1
        gi_wp2_with (refine ⟨trivial, ?_⟩; gi_at_call 43; refine (callsIn_wide.2 (nearestAt_eq _ (leftA xs t) t k HS.out _ (by rw [hll] at HL; exact HL.out.reads) (by omega))).mono ?_; rintro e w2 ⟨rfl, b2⟩; have L2 := HL.out.below b2; obtain ⟨g2, cap2, cs, z, e2, hg, hz, ⟨c0, c1, c2⟩, ⟨f0, f1, f2⟩, hset⟩ := L2.dec k hkl x HX.out; have eg : g = g2 := (by simp at e2; exact e2.1); subst eg; rw [← HT.out, hll] at hset; have HSt := hid hset; have J2 := HM.out _ _ _ (HM.out _ _ _ HJ.out (MovesT.of_below b2)) (MovesT.setCell (p := ⟨g, k * 3 + 1, none⟩) hg hz (.int .i64 (x.2.1 - 1))); obtain ⟨fn, tmps, assign, body, hy, hR⟩ := HY.out (earl xs t) k _ J2 (by rw [length_earl, length_earl]; omega); have HRd := hid hR; clear e2 hg hz hset b2 J2 hR L2; dsimp only [encI] at hy)
        refine HRd.out.mono ?_
        rintro e W3 ⟨rfl, hJ3, hk3⟩
        have J3 : Hid (J (earl xs (t + 1)) W3) := by show J _ _; rw [earl_succ, HS.out]; exact hJ3
        have L3 := hid (HSt.out.keep hk3)
        clear hJ3 hk3 HSt
        gi_wp2
        go_roundw
        case rel => exact ⟨t + 1, by omega, by go_num, L3.out, J3.out⟩
        case measure => simp [intOf]; omega
    · obtain rfl : t = 24 := by omega
      gi_wp2
      go_end0
      exact ⟨⟨_, rfl⟩, HJ.out⟩
end Go.Proofs.Ytobkockikpgcoab
