/-
  slices.IndexFunc, slices.DeleteFunc over numbers with a closure of impl.mooreOrder: those are taken out of which it tells yes. Nothing but the row is written.
-/
import Derived.Test.YtpkngcamaahhdabDelMath
namespace Go.Proofs.Ytpkngcamaahhdab
open Go.RowKit

abbrev delMV (b : Nat) : Value := .func (.func 84) #[] #[.pointer (some ⟨b, 0, none⟩)]
/-- Whatever is written in block g, the closure tells P of the numbers below N. -/
def DelMIn (g : Nat) (w0 : World) (b N : Nat) (P : Nat → Bool) : Prop := ∀ (w : World), But (fun k => k = g) w0 w → ∀ k, k < N →
  Calls Try.prog 84 #[.int .i64 (k : Nat), .pointer (some ⟨b, 0, none⟩)] w fun e w' => e = .returned (.bool (P k)) ∧ w' = w
theorem ofN_atM (a : List Nat) (i : Nat) : (ofN a).getD i 0 = ((a.getD i 0 : Nat) : Int) := by
  by_cases h : i < a.length
  · simp [ofN, List.getD_eq_getElem?_getD, h]
  · simp [ofN, List.getD_eq_getElem?_getD, h]
set_option maxHeartbeats 4000000 in
theorem indexM_any (g n cap b N : Nat) (P : Nat → Bool) (us : List Nat) (w : World) (hn : n ≤ 1000) (ho : IRow w g n cap (ofN us)) (hd : DelMIn g w b N P) (hin : ∀ i, i < n → us.getD i 0 < N) :
    Calls Try.prog 98 #[.slice (some ⟨g, 0, none⟩) n cap, delMV b] w fun e w' => ∃ r : Int, e = .returned (.int .i64 r) ∧ ((r = -1 ∧ ∀ j, j < n → P (us.getD j 0) = false) ∨ ∃ i : Nat, r = i ∧ i < n ∧ P (us.getD i 0) = true ∧ ∀ j, j < i → P (us.getD j 0) = false) ∧ w' = w := by
  have HO := hid ho
  have HD := hid hd
  have HI := hid hin
  clear ho hd hin
  go_enter Try.func98, Try.ntmps98
  go_wp2
  go_loopw [8] (fun iv wr => ∃ k : Nat, k ≤ n ∧ iv = .int .i64 k ∧ (∀ j, j < k → P (us.getD j 0) = false) ∧ w = wr) (fun iv _ => n - (intOf iv).toNat)
  case atStart => exact ⟨0, Nat.zero_le _, rfl, fun j h => absurd h (by omega), rfl⟩
  case round =>
    obtain ⟨k, hk, rfl, hall, rfl⟩ := hrel
    have HA := hid hall
    clear hall
    by_cases hlt : k < n
    · obtain ⟨x, hx⟩ : ∃ x, x = us.getD k 0 := ⟨_, rfl⟩
      have ck : w.cell? ⟨g, k, none⟩ = some (.int .i64 (x : Nat)) := by have := HO.out.cell hlt; rw [ofN_atM, ← hx] at this; exact this
      have hxN : x < N := by rw [hx]; exact HI.out k hlt
      obtain ⟨t, ht⟩ : ∃ t, t = P x := ⟨_, rfl⟩
      have HC : Hid (Calls Try.prog 84 #[.int .i64 (x : Nat), .pointer (some ⟨b, 0, none⟩)] w fun e w' => e = .returned (.bool t) ∧ w' = w) := by rw [ht]; exact HD.out w (But.refl _ _) x hxN
      have HT : Hid (P (us.getD k 0) = t) := by show _ = _; rw [ht, hx]
      have n0 : (0 : Int) ≤ (k : Int) := by omega
      have n1 : (k : Int) < (n : Int) := by omega
      clear hx ht
      cases t
      · go_wp2_with fail
        refine HC.out.mono ?_
        rintro e w' ⟨rfl, hw⟩; obtain rfl := hw.symm
        go_wp2
        go_roundw
        case rel =>
          refine ⟨k + 1, by omega, by go_num, fun j hj => ?_, by first | rfl | trivial⟩
          by_cases e : j = k
          · rw [e]; exact HT.out
          · exact HA.out j (by omega)
        case measure => simp [intOf]; omega
      · go_wp2_with fail
        refine HC.out.mono ?_
        rintro e w' ⟨rfl, hw⟩; obtain rfl := hw.symm
        go_wp2
        go_ret
        exact ⟨_, rfl, .inr ⟨k, rfl, hlt, HT.out, HA.out⟩, rfl⟩
    · obtain rfl : k = n := by omega
      go_wp2
      go_ret
      exact ⟨_, rfl, .inl ⟨rfl, HA.out⟩, rfl⟩
set_option maxRecDepth 100000 in
set_option maxHeartbeats 8000000 in
theorem deleteM_any (g n cap b N : Nat) (P : Nat → Bool) (us : List Nat) (w : World) (hn : n ≤ 1000) (ho : IRow w g n cap (ofN us)) (hd : DelMIn g w b N P) (hin : ∀ i, i < n → us.getD i 0 < N) :
    Calls Try.prog 83 #[.slice (some ⟨g, 0, none⟩) n cap, delMV b] w fun e w' => ∃ m : Nat, e = .returned (.slice (some ⟨g, 0, none⟩) m cap) ∧ IRow w' g m cap (ofN (leftL P us)) ∧ But (fun k => k = g) w w' := by
  have HO := hid ho
  have HD := hid hd
  have HI := hid hin
  have hul : us.length = n := by have := ho.len; rw [ofN, List.length_map] at this; exact this
  have HU := hid hul
  have hcap := ho.caps.1
  clear ho hd hin hul
  go_enter Try.func83, Try.ntmps83
  go_wp2_with fail
  refine (indexM_any g n cap b N P us _ hn HO.out HD.out HI.out).mono ?_
  rintro e w' ⟨r, rfl, hr, hw⟩; obtain rfl := hw.symm
  rcases hr with ⟨rfl, hno⟩ | ⟨i, rfl, hilt, hpi, hpre⟩
  · have HL : Hid (leftL P us = us) := left_none (by rw [HU.out]; exact hno)
    clear hno
    go_wp2
    go_ret
    exact ⟨n, rfl, by rw [HL.out]; exact HO.out, But.refl _ _⟩
  · have HCut := hid (cut_start (by rw [HU.out]; exact hilt) hpi hpre)
    have hne : ((i : Int) == -1) = false := by rw [beq_eq_false_iff_ne]; omega
    clear hpi hpre
    go_wp2
    go_loopw [5, 6] (fun iv jv wr => ∃ (i j : Nat) (cs : List Int), j ≤ n ∧ iv = .int .i64 i ∧ jv = .int .i64 j ∧ Cut us P cs i j ∧ IRow wr g n cap cs ∧ But (fun k => k = g) w wr) (fun _ jv _ => n - (intOf jv).toNat)
    case atStart => exact ⟨i, i + 1, _, by omega, rfl, by go_num, HCut.out, HO.out, But.refl _ _⟩
    case round =>
      obtain ⟨p, j, cs, hj, rfl, rfl, hcut, hrow, hbut⟩ := hrel
      have HC := hid hcut
      have HR := hid hrow
      have HB := hid hbut
      have hpj := hcut.lt
      clear hcut hrow hbut HCut hne
      by_cases hlt : j < n
      · obtain ⟨x, hx⟩ : ∃ x, x = us.getD j 0 := ⟨_, rfl⟩
        have cj : wr.cell? ⟨g, j, none⟩ = some (.int .i64 (x : Nat)) := by have := HR.out.cell hlt; rw [HC.out.back j (Nat.le_refl _), ← hx] at this; exact this
        have hxN : x < N := by rw [hx]; exact HI.out j hlt
        obtain ⟨t, ht⟩ : ∃ t, t = P x := ⟨_, rfl⟩
        have HCl : Hid (Calls Try.prog 84 #[.int .i64 (x : Nat), .pointer (some ⟨b, 0, none⟩)] wr fun e w' => e = .returned (.bool t) ∧ w' = wr) := by rw [ht]; exact HD.out wr HB.out x hxN
        have HT : Hid (P (us.getD j 0) = t) := by show _ = _; rw [ht, hx]
        have HX := hid hx
        have n0 : (0 : Int) ≤ (j : Int) := by omega
        have n1 : (j : Int) < (n : Int) := by omega
        have n2 : (0 : Int) ≤ (p : Int) := by omega
        have n3 : (p : Int) < (n : Int) := by omega
        have cp : wr.cell? ⟨g, p, none⟩ = some (.int .i64 (cs.getD p 0)) := HR.out.cell (by omega)
        have fp : wr.frozen? ⟨g, p, none⟩ = false := HR.out.free p
        clear hx ht
        cases t
        · have HK : Hid (Cut us P (cs.set p (x : Nat)) (p + 1) (j + 1)) := by rw [HX.out]; exact cut_keep HC.out (by rw [HU.out]; exact hlt) HT.out
          have HR2 : Hid (IRow (wr.setCell ⟨g, p, none⟩ (.int .i64 (x : Nat))) g n cap (cs.set p (x : Nat))) := HR.out.set p _
          have HB2 : Hid (But (fun k => k = g) w (wr.setCell ⟨g, p, none⟩ (.int .i64 (x : Nat)))) := HB.out.setCell (p := ⟨g, p, none⟩) rfl _
          go_wp2_with fail
          refine HCl.out.mono ?_
          rintro e w' ⟨rfl, hw⟩; obtain rfl := hw.symm
          go_wp2
          go_roundw
          case rel => exact ⟨p + 1, j + 1, _, by omega, by go_num, by go_num, HK.out, HR2.out, HB2.out⟩
          case measure => simp [intOf]; omega
        · have HK : Hid (Cut us P cs p (j + 1)) := cut_drop HC.out (by rw [HU.out]; exact hlt) HT.out
          go_wp2_with fail
          refine HCl.out.mono ?_
          rintro e w' ⟨rfl, hw⟩; obtain rfl := hw.symm
          go_wp2
          go_roundw
          case rel => exact ⟨p, j + 1, _, by omega, rfl, by go_num, HK.out, HR.out, HB.out⟩
          case measure => simp [intOf]; omega
      · obtain rfl : j = n := by omega
        have HF : Hid (cs.take p = ofN (leftL P us)) := by have := HC.out.front; rw [List.take_of_length_le (l := us) (by rw [HU.out]; exact Nat.le_refl _)] at this; exact this
        have hcl : ∀ ty c, (Builtin.clear_ #[42] ty #[.slice (some ⟨g, p, none⟩) (j - p) c]).run Try.prog wr = .ok (.tuple #[]) (wr.setCells g p (kflat (List.replicate (j - p) 0))) := fun ty c => clear_run HR.out p hpj ty c
        obtain ⟨xs', hx1, hx2⟩ := irow_cells (List.replicate (j - p) 0) p cs wr HR.out
        have HN : Hid (IRow (wr.setCells g p (kflat (List.replicate (j - p) 0))) g p cap (ofN (leftL P us))) := by
          have := hx1.front (m := p) (by omega)
          rw [hx2, HF.out] at this
          exact this
        have HB2 : Hid (But (fun k => k = g) w (wr.setCells g p (kflat (List.replicate (j - p) 0)))) := but_cells (P := fun k => k = g) rfl _ _ _ _ HB.out
        generalize wr.setCells g p (kflat (List.replicate (j - p) 0)) = wz at hcl HN HB2
        have h1 : (0 : Int) ≤ p := by omega
        have h2 : (p : Int) ≤ j := by omega
        have h3 : (j : Int) ≤ cap := by omega
        have h5 : p ≤ cap := by omega
        have h6 : (p : Int) ≤ cap := by omega
        have h7 : ¬ cap < p := by omega
        have h8 : p < cap := by omega
        have h9 : (p : Int) < cap := by omega
        clear hx1 hx2
        go_wp2
        go_ret
        exact ⟨p, rfl, HN.out, HB2.out⟩
end Go.Proofs.Ytpkngcamaahhdab
