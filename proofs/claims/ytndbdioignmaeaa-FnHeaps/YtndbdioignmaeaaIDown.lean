/-
  impl.heapDown over a list's own less and swap: one goes down. Nothing else is written.
-/
import Derived.Test.YtndbdioignmaeaaIWork
import Derived.Test.YtndbdioignmaeaaISwap
namespace Go.Proofs.Ytndbdioignmaeaa
open Go.RowKit

set_option maxHeartbeats 4000000 in
theorem heapDown_any (g n cap : Nat) (xs : List WkEl) (k0 : Nat) (w : World) (ho : WkOwn g (g + 1) w (.slice (some ⟨g, 0, none⟩) n cap) xs) (hn : xs.length = n) (hk : k0 < n) (hx : n ≤ 1048576) :
    Calls Try.prog 105 #[.int .i64 k0, .int .i64 n, lessV (.slice (some ⟨g, 0, none⟩) n cap), swapV (.slice (some ⟨g, 0, none⟩) n cap)] w fun e w' => e = .returned (.int .i64 (downL n xs k0 0).2) ∧ WkOwn g (g + 1) w' (.slice (some ⟨g, 0, none⟩) n cap) (downL n xs k0 0).1 ∧ But (fun k => k = g) w w' := by
  have HO := hid ho
  have HN := hid hn
  clear ho hn
  go_enter Try.func105, Try.ntmps105
  go_wp2
  go_loopw [0, 9] (fun i s wr => ∃ (k f t : Nat) (l : List WkEl), i = .int .i64 k ∧ s = .int .i64 t ∧ t ≤ k ∧ k < n ∧ l.length = n ∧ l.length - k ≤ f ∧ downL n xs k0 0 = downL f l k t ∧ WkOwn g (g + 1) wr (.slice (some ⟨g, 0, none⟩) n cap) l ∧ But (fun k => k = g) w wr) (fun i _ _ => n - (intOf i).toNat)
  case atStart => exact ⟨k0, n, 0, xs, rfl, rfl, by omega, hk, HN.out, by rw [HN.out]; omega, rfl, HO.out, But.refl _ _⟩
  case round =>
    obtain ⟨k, f, t, l, rfl, rfl, htk, hkn, hl, hkf, hdn, hown, hbel⟩ := hrel
    have HU := hid hdn
    have HW := hid hown
    have HB := hid hbel
    have HL := hid hl
    clear hdn hown hbel hl
    obtain ⟨c, hc⟩ : ∃ c, c = 2 * k + 1 := ⟨_, rfl⟩
    obtain ⟨d, hd⟩ : ∃ d, d = 2 * k + 2 := ⟨_, rfl⟩
    have r1 : 2 * (k : Int) + 1 = (c : Int) := by omega
    have r2 : (c : Int) + 1 = (d : Int) := by omega
    have hkc : k < c := by omega
    have hcd : c < d := by omega
    have hc2 : c ≤ 3000000 := by omega
    have hd2 : d ≤ 3000000 := by omega
    have HLE : Hid (lesser l k = if d < n ∧ lessB (l.getD d wz) (l.getD c wz) = true then d else c) := by show _ = _; unfold lesser; rw [← hc, ← hd, HL.out]
    clear hc hd
    by_cases hdn : d < n
    · have hdn' : (d : Int) < (n : Int) := by omega
      have hdd : decide ((d : Int) < (n : Int)) = true := by simpa using hdn
      obtain ⟨b, hb⟩ : ∃ b, lessB (l.getD d wz) (l.getD c wz) = b := ⟨_, rfl⟩
      have HLS := hid hb
      clear hb
      go_wp2_with fail
      refine (wless_eq _ l d c b HLS.out _ HW.out.reads (by rw [HL.out]; exact hdn) (by rw [HL.out]; omega)).mono ?_
      rintro e w2 ⟨rfl, b2⟩
      have HW2 := hid (HW.out.below b2)
      have HB2 : Hid (But (fun k => k = g) w w2) := HB.out.trans (But.of b2)
      clear b2 HW HB
      cases b
      · have HE : Hid (lesser l k = c) := by show _ = _; rw [HLE.out, if_neg (by rw [HLS.out]; simp)]
        have hen : c < n := by omega
        have hge : ((n : Int) ≤ (c : Int)) = False := by simp; omega
        have hge2 : decide ((n : Int) ≤ (c : Int)) = false := by simp; omega
        clear hge
        have hen' : (c : Int) < (n : Int) := by omega
        obtain ⟨b', hb'⟩ : ∃ b, lessB (l.getD c wz) (l.getD k wz) = b := ⟨_, rfl⟩
        have HLT := hid hb'
        clear hb'
        go_wp2_with fail
        refine (wless_eq _ l c k b' HLT.out _ HW2.out.reads (by rw [HL.out]; exact hen) (by rw [HL.out]; exact hkn)).mono ?_
        rintro e w3 ⟨rfl, b3⟩
        have HW3 := hid (HW2.out.below b3)
        have HB3 : Hid (But (fun k => k = g) w w3) := HB2.out.trans (But.of b3)
        clear b3 HW2 HB2
        cases b'
        · have hs : Hid (downL n xs k0 0 = (l, t)) := by
            show _ = _
            rw [HU.out]
            exact downL_stop f l k t (lesser_stop l k (by rw [HE.out, HLT.out]; simp))
          go_wp2
          go_ret
          exact ⟨by rw [hs.out]; rfl, by rw [hs.out]; exact HW3.out, HB3.out⟩
        · have hbest := lesser_best l k (by rw [HE.out, HL.out]; exact ⟨hen, HLT.out⟩)
          rw [HE.out] at hbest
          obtain ⟨f', hf', he⟩ := downL_go f l k t hkf (by rw [HL.out]; exact hkn) (by rw [hbest.1]; exact hbest.2)
          rw [hbest.1] at hf' he
          have HDN : Hid (downL n xs k0 0 = downL f' (swapL l k c) c (t + 1)) := HU.out.trans he
          clear he hbest
          go_wp2_with fail
          refine (wswap_any g n cap l k c _ HW3.out HL.out hkn hen).mono ?_
          rintro e w4 ⟨rfl, o4, b4⟩
          have HW4 := hid o4
          have HB4 : Hid (But (fun k => k = g) w w4) := HB3.out.trans b4
          clear o4 b4 HW3 HB3
          go_wp2
          go_roundw
          case rel => exact ⟨c, f', t + 1, swapL l k c, by go_num, by go_num, by omega, hen, by rw [length_swapL]; exact HL.out, hf', HDN.out, HW4.out, HB4.out⟩
          case measure => simp [intOf]; omega
      · have HE : Hid (lesser l k = d) := by show _ = _; rw [HLE.out, if_pos ⟨hdn, HLS.out⟩]
        have hen : d < n := hdn
        have hkd : k < d := by omega
        have hge : ((n : Int) ≤ (d : Int)) = False := by simp; omega
        have hge2 : decide ((n : Int) ≤ (d : Int)) = false := by simp; omega
        clear hge
        have hen' : (d : Int) < (n : Int) := by omega
        obtain ⟨b', hb'⟩ : ∃ b, lessB (l.getD d wz) (l.getD k wz) = b := ⟨_, rfl⟩
        have HLT := hid hb'
        clear hb'
        go_wp2_with fail
        refine (wless_eq _ l d k b' HLT.out _ HW2.out.reads (by rw [HL.out]; exact hen) (by rw [HL.out]; exact hkn)).mono ?_
        rintro e w3 ⟨rfl, b3⟩
        have HW3 := hid (HW2.out.below b3)
        have HB3 : Hid (But (fun k => k = g) w w3) := HB2.out.trans (But.of b3)
        clear b3 HW2 HB2
        cases b'
        · have hs : Hid (downL n xs k0 0 = (l, t)) := by
            show _ = _
            rw [HU.out]
            exact downL_stop f l k t (lesser_stop l k (by rw [HE.out, HLT.out]; simp))
          go_wp2
          go_ret
          exact ⟨by rw [hs.out]; rfl, by rw [hs.out]; exact HW3.out, HB3.out⟩
        · have hbest := lesser_best l k (by rw [HE.out, HL.out]; exact ⟨hen, HLT.out⟩)
          rw [HE.out] at hbest
          obtain ⟨f', hf', he⟩ := downL_go f l k t hkf (by rw [HL.out]; exact hkn) (by rw [hbest.1]; exact hbest.2)
          rw [hbest.1] at hf' he
          have HDN : Hid (downL n xs k0 0 = downL f' (swapL l k d) d (t + 1)) := HU.out.trans he
          clear he hbest
          go_wp2_with fail
          refine (wswap_any g n cap l k d _ HW3.out HL.out hkn hen).mono ?_
          rintro e w4 ⟨rfl, o4, b4⟩
          have HW4 := hid o4
          have HB4 : Hid (But (fun k => k = g) w w4) := HB3.out.trans b4
          clear o4 b4 HW3 HB3
          go_wp2
          go_roundw
          case rel => exact ⟨d, f', t + 1, swapL l k d, by go_num, by go_num, by omega, hen, by rw [length_swapL]; exact HL.out, hf', HDN.out, HW4.out, HB4.out⟩
          case measure => simp [intOf]; omega
    · have hdn' : (n : Int) ≤ (d : Int) := by omega
      have hdd : decide ((d : Int) < (n : Int)) = false := by simp; omega
      have HE : Hid (lesser l k = c) := by show _ = _; rw [HLE.out, if_neg (fun h => hdn h.1)]
      have HW2 := HW
      have HB2 := HB
      clear HW HB
      by_cases hen : c < n
      · have hge : ((n : Int) ≤ (c : Int)) = False := by simp; omega
        have hge2 : decide ((n : Int) ≤ (c : Int)) = false := by simp; omega
        clear hge
        have hen' : (c : Int) < (n : Int) := by omega
        obtain ⟨b', hb'⟩ : ∃ b, lessB (l.getD c wz) (l.getD k wz) = b := ⟨_, rfl⟩
        have HLT := hid hb'
        clear hb'
        go_wp2_with fail
        refine (wless_eq _ l c k b' HLT.out _ HW2.out.reads (by rw [HL.out]; exact hen) (by rw [HL.out]; exact hkn)).mono ?_
        rintro e w3 ⟨rfl, b3⟩
        have HW3 := hid (HW2.out.below b3)
        have HB3 : Hid (But (fun k => k = g) w w3) := HB2.out.trans (But.of b3)
        clear b3 HW2 HB2
        cases b'
        · have hs : Hid (downL n xs k0 0 = (l, t)) := by
            show _ = _
            rw [HU.out]
            exact downL_stop f l k t (lesser_stop l k (by rw [HE.out, HLT.out]; simp))
          go_wp2
          go_ret
          exact ⟨by rw [hs.out]; rfl, by rw [hs.out]; exact HW3.out, HB3.out⟩
        · have hbest := lesser_best l k (by rw [HE.out, HL.out]; exact ⟨hen, HLT.out⟩)
          rw [HE.out] at hbest
          obtain ⟨f', hf', he⟩ := downL_go f l k t hkf (by rw [HL.out]; exact hkn) (by rw [hbest.1]; exact hbest.2)
          rw [hbest.1] at hf' he
          have HDN : Hid (downL n xs k0 0 = downL f' (swapL l k c) c (t + 1)) := HU.out.trans he
          clear he hbest
          go_wp2_with fail
          refine (wswap_any g n cap l k c _ HW3.out HL.out hkn hen).mono ?_
          rintro e w4 ⟨rfl, o4, b4⟩
          have HW4 := hid o4
          have HB4 : Hid (But (fun k => k = g) w w4) := HB3.out.trans b4
          clear o4 b4 HW3 HB3
          go_wp2
          go_roundw
          case rel => exact ⟨c, f', t + 1, swapL l k c, by go_num, by go_num, by omega, hen, by rw [length_swapL]; exact HL.out, hf', HDN.out, HW4.out, HB4.out⟩
          case measure => simp [intOf]; omega
      · have hge2 : decide ((n : Int) ≤ (c : Int)) = true := by simp; omega
        have hen' : (n : Int) ≤ (c : Int) := by omega
        have hs : Hid (downL n xs k0 0 = (l, t)) := by
          show _ = _
          rw [HU.out]
          exact downL_stop f l k t (lesser_stop l k (by rw [HE.out, HL.out]; exact fun h => hen h.1))
        go_wp2
        go_ret
        exact ⟨by rw [hs.out]; rfl, by rw [hs.out]; exact HW2.out, HB2.out⟩
end Go.Proofs.Ytndbdioignmaeaa
