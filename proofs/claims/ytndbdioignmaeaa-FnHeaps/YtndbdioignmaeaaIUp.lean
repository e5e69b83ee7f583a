/-
  impl.heapUp over a list's own less and swap: one goes up. Nothing else is written.
-/
import Derived.Test.YtndbdioignmaeaaIWork
import Derived.Test.YtndbdioignmaeaaISwap
namespace Go.Proofs.Ytndbdioignmaeaa
open Go.RowKit

def moved (f : Nat) (l : List WkEl) (k : Nat) : Bool := decide ((upL f l k).2 ≠ k)

set_option maxHeartbeats 4000000 in
theorem heapUp_any (g n cap : Nat) (xs : List WkEl) (k0 : Nat) (w : World) (ho : WkOwn g (g + 1) w (.slice (some ⟨g, 0, none⟩) n cap) xs) (hn : xs.length = n) (hk : k0 < n) (hx : n ≤ 1048576) :
    Calls Try.prog 98 #[.int .i64 k0, lessV (.slice (some ⟨g, 0, none⟩) n cap), swapV (.slice (some ⟨g, 0, none⟩) n cap)] w fun e w' => e = .returned (.bool (moved k0 xs k0)) ∧ WkOwn g (g + 1) w' (.slice (some ⟨g, 0, none⟩) n cap) (upL k0 xs k0).1 ∧ But (fun k => k = g) w w' ∧ ((upL k0 xs k0).2 = k0 → Below w.heap.size w w') := by
  have HO := hid ho
  have HN := hid hn
  clear ho hn
  go_enter Try.func98, Try.ntmps98
  go_wp2
  go_loopw [0] (fun i wr => ∃ (k f : Nat) (l : List WkEl), i = .int .i64 k ∧ k < n ∧ l.length = n ∧ k ≤ f ∧ upL k0 xs k0 = upL f l k ∧ WkOwn g (g + 1) wr (.slice (some ⟨g, 0, none⟩) n cap) l ∧ But (fun k => k = g) w wr ∧ k ≤ k0 ∧ (k = k0 → Below w.heap.size w wr)) (fun i _ => (intOf i).toNat)
  case atStart => exact ⟨k0, k0, xs, rfl, hk, HN.out, Nat.le_refl _, rfl, HO.out, But.refl _ _, Nat.le_refl _, fun _ => Below.refl _ _⟩
  case round =>
    obtain ⟨k, f, l, rfl, hkn, hl, hkf, hup, hown, hbel, hkk, hst⟩ := hrel
    have HU := hid hup
    have HW := hid hown
    have HB := hid hbel
    have HL := hid hl
    have HST := hid hst
    clear hup hown hbel hl hst
    by_cases hk0 : 0 < k
    · have hd0 : decide (0 < k) = true := by simpa using hk0
      obtain ⟨m, hm⟩ : ∃ m, m = (k - 1) / 2 := ⟨_, rfl⟩
      have hmk : m < k := by omega
      have HMM := hid hm
      obtain ⟨b, hb⟩ : ∃ b, lessB (l.getD k wz) (l.getD m wz) = b := ⟨_, rfl⟩
      have HLS := hid hb
      clear hm hb
      go_wp2_with fail
      refine (parent_any k m _ hk0 (by omega) HMM.out).mono ?_
      rintro e w' ⟨rfl, hw⟩; obtain rfl := hw.symm
      go_wp2_with fail
      refine (wless_eq _ l k m b HLS.out _ HW.out.reads (by rw [HL.out]; exact hkn) (by rw [HL.out]; omega)).mono ?_
      rintro e w2 ⟨rfl, b2⟩
      have HW2 := hid (HW.out.below b2)
      have HB2 : Hid (But (fun k => k = g) w w2) := HB.out.trans (But.of b2)
      cases b
      · have hs : Hid (upL k0 xs k0 = (l, k)) := by
          show _ = _
          rw [HU.out]
          refine upL_stop f l k fun h => ?_
          have h2 := h.2
          rw [← HMM.out, HLS.out] at h2
          cases h2
        have hst2 : Hid (k = k0 → Below w.heap.size w w2) := fun h => (HST.out h).trans (b2.mono (HST.out h).size)
        clear b2
        by_cases hkk0 : k = k0
        · have hne : ((k : Int) != (k0 : Int)) = false := by simp [hkk0]
          have hv : Hid (moved k0 xs k0 = false) := by show _ = _; unfold moved; rw [hs.out]; simp [hkk0]
          have H3 := hid hkk0
          clear hkk0
          go_wp2
          go_ret
          exact ⟨by rw [hv.out]; rfl, by rw [hs.out]; exact HW2.out, HB2.out, fun _ => hst2.out H3.out⟩
        · have hne : ((k : Int) != (k0 : Int)) = true := by simp; omega
          have hv : Hid (moved k0 xs k0 = true) := by show _ = _; unfold moved; rw [hs.out]; simp [hkk0]
          have H3 := hid hkk0
          clear hkk0
          go_wp2
          go_ret
          exact ⟨by rw [hv.out]; rfl, by rw [hs.out]; exact HW2.out, HB2.out, fun h => by rw [hs.out] at h; exact absurd h H3.out⟩
      · obtain ⟨f', hf', he⟩ := upL_go f l k hkf hk0 (by rw [← HMM.out]; exact HLS.out)
        rw [← HMM.out] at hf' he
        have HE : Hid (upL k0 xs k0 = upL f' (swapL l k m) m) := HU.out.trans he
        clear he b2
        go_wp2_with fail
        refine (parent_any k m _ hk0 (by omega) HMM.out).mono ?_
        rintro e w' ⟨rfl, hw⟩; obtain rfl := hw.symm
        go_wp2_with fail
        refine (wswap_any g n cap l k m _ HW2.out HL.out hkn (by omega)).mono ?_
        rintro e w3 ⟨rfl, o3, b3⟩
        have HW3 := hid o3
        have HB3 : Hid (But (fun k => k = g) w w3) := HB2.out.trans b3
        clear o3 b3
        go_wp2_with fail
        refine (parent_any k m _ hk0 (by omega) HMM.out).mono ?_
        rintro e w' ⟨rfl, hw⟩; obtain rfl := hw.symm
        go_wp2
        go_roundw
        case rel => exact ⟨m, f', swapL l k m, by go_num, by omega, by rw [length_swapL]; exact HL.out, hf', HE.out, HW3.out, HB3.out, by omega, fun h => by omega⟩
        case measure => simp [intOf]; omega
    · obtain rfl : k = 0 := by omega
      have hs : Hid (upL k0 xs k0 = (l, 0)) := by show _ = _; rw [HU.out]; exact upL_stop f l 0 (by omega)
      by_cases hkk0 : 0 = k0
      · have hne : ((0 : Int) != (k0 : Int)) = false := by simp [← hkk0]
        have hv : Hid (moved k0 xs k0 = false) := by show _ = _; unfold moved; rw [hs.out]; simp [← hkk0]
        have H3 := hid hkk0
        clear hkk0
        go_wp2
        go_ret
        exact ⟨by rw [hv.out]; rfl, by rw [hs.out]; exact HW.out, HB.out, fun _ => HST.out H3.out⟩
      · have hne : ((0 : Int) != (k0 : Int)) = true := by simp; omega
        have hv : Hid (moved k0 xs k0 = true) := by show _ = _; unfold moved; rw [hs.out]; simp [hkk0]
        have H3 := hid hkk0
        clear hkk0
        go_wp2
        go_ret
        exact ⟨by rw [hv.out]; rfl, by rw [hs.out]; exact HW.out, HB.out, fun h => by rw [hs.out] at h; exact absurd h H3.out⟩
end Go.Proofs.Ytndbdioignmaeaa
