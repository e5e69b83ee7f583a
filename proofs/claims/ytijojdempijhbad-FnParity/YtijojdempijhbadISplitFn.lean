/-
  impl.SplitPieces: a text split into texts of one length, in memory of their own, or the zero answer; nothing old is written.
-/
import Derived.Test.YtijojdempijhbadISplit
import Derived.Test.YtijojdempijhbadXRows
namespace Go.Proofs.Ytijojdempijhbad
open Go.RowKit

theorem uv_get (t : ByteArray) (c j : Nat) (h : j < c) (hc : c ≤ t.size) : ((uv t.data.toList).take c).getD j undef = .int .u8 ((bt t j).toNat : Nat) := by
  have hj : j < t.data.size := by show j < t.size; omega
  rw [List.getD_eq_getElem?_getD, List.getElem?_take, if_pos h, bt_data t j hj]
  unfold uv
  rw [List.getElem?_map, Array.getElem?_toList, Array.getElem?_eq_getElem hj]
  rfl
theorem XOwn.of_rowIs {w : World} {g n lo : Nat} {xs : List XEl} (h : w.rowIs g 9 n (fun j => .string (xs.getD j xz))) (hn : xs.length = n) (hm : n ≤ 1152921504606846975) (hb : lo ≤ g) : XOwn lo w.heap.size w (.slice (some ⟨g, 0, none⟩) n n) xs := by
  subst hn
  exact ⟨hm, .inr ⟨g, _, rfl, ⟨hb, h.lt, Nat.le_refl _⟩, fun i hi => ⟨h.cell hi, h.frozen i⟩⟩⟩
set_option maxRecDepth 100000 in
set_option maxHeartbeats 8000000 in
theorem isplit_any (s : ByteArray) (many : Int) (w : World) (Y : List XEl) (t : Bool) (hY : splL s many = Y) (ht : splB s many = t) :
    Calls Try.prog 69 #[.string s, .int .i64 many] w fun e w' => ∃ u0, e = .returned (.tuple #[u0, .bool t]) ∧ XOwn w.heap.size w'.heap.size w' u0 Y ∧ Below w.heap.size w w' := by
  have HY := hid hY
  have Ht := hid ht
  clear hY ht
  cases t
  · have HE : Hid (Y = []) := by show _ = _; rw [← HY.out]; unfold splL; rw [Ht.out]; rfl
    by_cases h1 : many < 1
    · have d1 : decide (many < 1) = true := by simpa using h1
      go_enter Try.func69, Try.ntmps69
      go_wp2
      go_ret2
      exact ⟨_, rfl, by rw [HE.out]; exact xown_nil _ _ _ _ _, Below.refl _ _⟩
    have d1 : decide (many < 1) = false := by simpa using h1
    by_cases h2 : 8 ≤ many
    · have d2 : decide (many ≥ 8) = true := by simpa using h2
      have d3 : decide (8 ≤ many) = true := by simpa using h2
      go_enter Try.func69, Try.ntmps69
      go_wp2
      go_ret2
      exact ⟨_, rfl, by rw [HE.out]; exact xown_nil _ _ _ _ _, Below.refl _ _⟩
    have d2 : decide (8 ≤ many) = false := by simpa using h2
    have hn : ¬ ((s.size : Int) ≤ many * 16) := by have := Ht.out; unfold splB at this; rw [decide_eq_true (by omega)] at this; simpa using this
    have hw : IntKind.i64.wrap (many * 16) = many * 16 := by rw [IntKind.wrap_i64]; omega
    have hd : decide ((s.size : Int) > many * 16) = true := by simp; omega
    go_enter Try.func69, Try.ntmps69
    go_wp2
    go_ret2
    exact ⟨_, rfl, by rw [HE.out]; exact xown_nil _ _ _ _ _, Below.refl _ _⟩
  obtain ⟨m, l, rfl, h1, h2, h3, h4, h5, h6, h7, h8⟩ := splB_parts Ht.out
  have HE : Hid (Y = spU s l m) := by show _ = _; rw [← HY.out]; exact h8
  have hw : IntKind.i64.wrap ((m : Int) * 16) = (m : Int) * 16 := by rw [IntKind.wrap_i64]; omega
  have hd : decide ((s.size : Int) > (m : Int) * 16) = false := by simp; omega
  obtain ⟨n, hn⟩ : ∃ n, s.size = n := ⟨_, rfl⟩
  have hni : (s.size : Int) = (n : Int) := by rw [hn]
  rw [hn] at h3 h4 h6
  have e1 : (n : Int) + (m : Int) = ((n + m : Nat) : Int) := by simp
  have e2 : IntKind.i64.wrap ((n + m : Nat) : Int) = ((n + m : Nat) : Int) := by rw [IntKind.wrap_i64]; omega
  have e3 : ((n + m : Nat) : Int) - 1 = ((n + m - 1 : Nat) : Int) := by omega
  have e4 : IntKind.i64.wrap ((n + m - 1 : Nat) : Int) = ((n + m - 1 : Nat) : Int) := by rw [IntKind.wrap_i64]; omega
  have e5 : ((n + m - 1 : Nat) : Int).tdiv (m : Int) = (l : Nat) := by rw [Int.tdiv_eq_ediv_of_nonneg (by omega), ← h4]; rfl
  have e6 : ((n + m - 1 : Nat) : Int) / (m : Int) = (l : Nat) := by rw [← h4]; rfl
  obtain ⟨p, hp⟩ : ∃ p, n + m = p := ⟨_, rfl⟩
  obtain ⟨q, hq⟩ : ∃ q, n + m - 1 = q := ⟨_, rfl⟩
  rw [hq] at e3 e4 e5 e6
  rw [hp] at e1 e2 e3
  have hne : ¬ (m : Int) = 0 := by omega
  have hd2 : decide ((n : Int) > (m : Int) * 16) = false := by simp; omega
  have HNN := hid hn
  clear h4 h8 HY hp hq hn hd
  have mkU := run_make_row' (P := Try.prog) 22 5 (.int .u8 0) 1 Try.underlying22 info_u8 rfl .i64 .i64 l (by omega) (by omega)
  have mkS := run_make_row' (P := Try.prog) 75 9 (.string xz) 16 Try.underlying75 info_str rfl .i64 .i64 m (by omega) (by omega)
  have K0 := hid ((World.rowIs_made w (.int .u8 0) l 5).alloc (.cells (madeCells #[.string xz] m) 9))
  have K1 := hid (World.rowIs_made (w.alloc (.cells (madeCells #[.int .u8 0] l) 5)) (.string xz) m 9)
  have B0 : Hid (Below w.heap.size w ((w.alloc (.cells (madeCells #[.int .u8 0] l) 5)).alloc (.cells (madeCells #[.string xz] m) 9))) := ((Below.refl _ _).alloc (Nat.le_refl _) _).alloc (by simp) _
  have hsz : (w.alloc (.cells (madeCells #[.int .u8 0] l) 5)).heap.size = w.heap.size + 1 := World.size_alloc _ _
  rw [hsz] at K1
  go_enter Try.func69, Try.ntmps69
  go_wp2
  obtain ⟨W, hW⟩ : ∃ W, W = (w.alloc (.cells (madeCells #[.int .u8 0] l) 5)).alloc (.cells (madeCells #[.string xz] m) 9) := ⟨_, rfl⟩
  rw [← hW] at K0 K1 B0 ⊢
  clear hW mkU mkS hsz e1 e2 e3 e4 e5 e6
  go_loopw [0, 35] (fun sv kv wr => ∃ (k : Nat) (r : ByteArray) (f : Nat → Value), k ≤ m ∧ kv = .int .i64 (k : Nat) ∧ sv = .string r ∧ r.size = n - k * l ∧ (∀ j, bt r j = bt s (k * l + j)) ∧ wr.rowIs w.heap.size 5 l f ∧ wr.rowIs (w.heap.size + 1) 9 m (fun j => .string (if j < k then pcT s l j else xz)) ∧ Below w.heap.size w wr) (fun _ kv _ => m - (intOf kv).toNat)
  case atStart => exact ⟨0, s, _, Nat.zero_le _, rfl, rfl, by rw [HNN.out]; simp, by intro j; simp, K0.out, K1.out.congr fun j _ => by simp, B0.out⟩
  case round =>
    obtain ⟨k, r, f, hk, rfl, rfl, hrs, hrb, R1, R2, BC⟩ := hrel
    by_cases hlt : k < m
    · have HRS := hid hrs
      have HRB := hid hrb
      have hltd : (k : Int) < (m : Int) := by omega
      obtain ⟨c, hc⟩ : ∃ c, Nat.min r.size l = c := ⟨_, rfl⟩
      have hc1 : c ≤ r.size := by rw [← hc]; exact Nat.min_le_left _ _
      have hc2 : c ≤ l := by rw [← hc]; exact Nat.min_le_right _ _
      have HCM : Hid (c = l ∨ c = r.size ∧ r.size < l) := by
        show _ ∨ _
        rcases Nat.le_total l r.size with h | h
        · left; rw [← hc]; exact Nat.min_eq_right h
        · rcases Nat.lt_or_ge r.size l with h' | h'
          · right; exact ⟨by rw [← hc]; exact Nat.min_eq_left h, h'⟩
          · left; rw [← hc]; exact Nat.min_eq_right h'
      have hcp := fun ty cap => run_copy_text wr ty w.heap.size l cap r f R1
      rw [hc] at hcp
      have hvl : ((uv r.data.toList).take c).length = c := by
        rw [List.length_take]
        unfold uv
        rw [List.length_map]
        have : r.data.toList.length = r.size := by simp
        rw [this]
        exact Nat.min_eq_left hc1
      have Q1 := (rowIs_setCells ((uv r.data.toList).take c) 0 wr f R1)
      rw [hvl] at Q1
      have Q2 := rowIs_setCells_other (b := w.heap.size) (b' := w.heap.size + 1) (by omega) ((uv r.data.toList).take c) 0 wr R2
      have QB := below_setCells (b := w.heap.size) (Nat.le_refl _) ((uv r.data.toList).take c) 0 wr BC
      obtain ⟨W1, hW1⟩ : ∃ W1, W1 = wr.setCells w.heap.size 0 ((uv r.data.toList).take c) := ⟨_, rfl⟩
      rw [← hW1] at Q1 Q2 QB
      have hcp' : ∀ ty cap, (Builtin.copy_ #[22, 9] ty #[.slice (some ⟨w.heap.size, 0, none⟩) l cap, .string r]).run Try.prog wr = .ok (.int .i64 (c : Nat)) W1 := fun ty cap => by rw [hW1]; exact hcp ty cap
      clear hrs hrb R1 R2 BC hcp hvl hW1 hc
      by_cases hcl : c = l
      · have hcl1 := fun ty a cap => run_clear_none W1 ty a cap
        have R1 := Q1.congr (g := fun j => .int .u8 ((bt r j).toNat : Nat)) fun j hj => by rw [if_pos (by omega), Nat.sub_zero, uv_get r c j (by omega) hc1]
        obtain ⟨WC, hWC⟩ : ∃ WC, WC = W1 := ⟨_, rfl⟩
        rw [← hWC] at Q2 QB R1 hcp' hcl1
        have R2 := Q2
        have BC := QB
        have hci : (c : Int) = (l : Int) := by omega
        have HCL := hid hcl
        clear Q1 Q2 QB hWC hcl
        have hconv := conv_row WC w.heap.size l (pcL s l k) (fun j hj => by
          have hj' : j < l := by rw [length_pcL] at hj; exact hj
          rw [R1.cell hj', pcL_get s l k j hj', HRB.out j])
        rw [length_pcL] at hconv
        have c2 := R2.cell (i := k) hlt
        have f2 := R2.frozen k
        rw [if_neg (Nat.lt_irrefl k)] at c2
        have HS2 := hid (R2.set k (.string (pcT s l k)))
        have HS1 := hid (R1.setOther (a := ⟨w.heap.size + 1, k, none⟩) (by show w.heap.size ≠ w.heap.size + 1; omega) (.string (pcT s l k)))
        have HBC : Hid (Below w.heap.size w (WC.setCell ⟨w.heap.size + 1, k, none⟩ (.string (pcT s l k)))) := BC.setCell (by show w.heap.size ≤ w.heap.size + 1; omega) _
        have hconv' : ∀ cap, (convert 22 9 (.slice (some ⟨w.heap.size, 0, none⟩) l cap)).run Try.prog WC = .ok (.string (pcT s l k)) WC := fun cap => by
          have h := conv_row WC w.heap.size cap (pcL s l k) (fun j hj => by
            have hj' : j < l := by rw [length_pcL] at hj; exact hj
            rw [R1.cell hj', pcL_get s l k j hj', HRB.out j])
          rw [length_pcL] at h
          exact h
        clear R1 R2 BC hconv
        have g1 : (0 : Int) ≤ (c : Int) := by omega
        have g2 : (c : Int) ≤ (r.size : Int) := by omega
        have g3 : (c : Int) ≤ (l : Int) := by omega
        go_wp2
        go_roundw
        case rel =>
          refine ⟨k + 1, r.extract c r.size, _, by omega, by go_num, (by first | rfl | rw [HCL.out]), ?_, ?_, HS1.out, HS2.out.congr fun j hj => ?_, HBC.out⟩
          · rw [ByteArray.size_extract, Nat.min_self, HRS.out, Nat.add_mul, Nat.one_mul]
            have := HCM.out
            rw [HRS.out] at this
            omega
          · intro j
            rw [bt_extract r c r.size j (Nat.le_refl _)]
            by_cases hj : j < r.size - c
            · rw [if_pos hj, HRB.out]
              have : c = l := by have := HCM.out; omega
              rw [this, Nat.add_mul, Nat.one_mul, Nat.add_assoc]
            · rw [if_neg hj]
              refine (bt_out s _ ?_).symm
              have h1 := HRS.out
              have h2 := HCM.out
              rw [Nat.add_mul, Nat.one_mul]
              omega
          · by_cases e : j = k
            · subst e; rw [if_pos rfl, if_pos (by omega)]
            · rw [if_neg e]
              by_cases h : j < k
              · rw [if_pos h, if_pos (by omega)]
              · rw [if_neg h, if_neg (by omega)]
        case measure => simp [intOf]; omega
      · have hcr : c < l := by omega
        have hz : 0 < l - c := by omega
        have hcl1 := fun ty cap => Lib.run_clear_slice (P := Try.prog) W1 22 5 ty (.int .u8 0) Try.underlying22 zeroU8 rfl rfl w.heap.size c (l - c) cap hz (fun j hj => by rw [Q1.cell (by omega)]; rfl) (fun j _ => Q1.frozen _)
        have P1 := rowIs_setCells (List.replicate (l - c) (Value.int .u8 0)) c W1 _ Q1
        have P2 := rowIs_setCells_other (b := w.heap.size) (b' := w.heap.size + 1) (by omega) (List.replicate (l - c) (Value.int .u8 0)) c W1 Q2
        have PB := below_setCells (b := w.heap.size) (Nat.le_refl _) (List.replicate (l - c) (Value.int .u8 0)) c W1 QB
        obtain ⟨WC, hWC⟩ : ∃ WC, WC = W1.setCells w.heap.size c (List.replicate (l - c) (.int .u8 0)) := ⟨_, rfl⟩
        rw [← hWC] at P1 P2 PB hcl1
        have R1 := P1.congr (g := fun j => .int .u8 ((bt r j).toNat : Nat)) fun j hj => by
          rw [List.length_replicate]
          by_cases h : j < c
          · rw [if_neg (by omega), if_pos (by omega), Nat.sub_zero, uv_get r c j h hc1]
          · rw [if_pos (by omega), List.getD_eq_getElem?_getD, List.getElem?_replicate, if_pos (by omega), bt_out r j (by have := HCM.out; omega)]
            rfl
        have R2 := P2
        have BC := PB
        have hcl2 : ¬ (l : Int) = (c : Int) := by omega
        have hcl3 : ¬ l = c := by omega
        clear Q1 Q2 QB P1 P2 PB hWC
        have hconv := conv_row WC w.heap.size l (pcL s l k) (fun j hj => by
          have hj' : j < l := by rw [length_pcL] at hj; exact hj
          rw [R1.cell hj', pcL_get s l k j hj', HRB.out j])
        rw [length_pcL] at hconv
        have c2 := R2.cell (i := k) hlt
        have f2 := R2.frozen k
        rw [if_neg (Nat.lt_irrefl k)] at c2
        have HS2 := hid (R2.set k (.string (pcT s l k)))
        have HS1 := hid (R1.setOther (a := ⟨w.heap.size + 1, k, none⟩) (by show w.heap.size ≠ w.heap.size + 1; omega) (.string (pcT s l k)))
        have HBC : Hid (Below w.heap.size w (WC.setCell ⟨w.heap.size + 1, k, none⟩ (.string (pcT s l k)))) := BC.setCell (by show w.heap.size ≤ w.heap.size + 1; omega) _
        have hconv' : ∀ cap, (convert 22 9 (.slice (some ⟨w.heap.size, 0, none⟩) l cap)).run Try.prog WC = .ok (.string (pcT s l k)) WC := fun cap => by
          have h := conv_row WC w.heap.size cap (pcL s l k) (fun j hj => by
            have hj' : j < l := by rw [length_pcL] at hj; exact hj
            rw [R1.cell hj', pcL_get s l k j hj', HRB.out j])
          rw [length_pcL] at h
          exact h
        clear R1 R2 BC hconv
        have g1 : (0 : Int) ≤ (c : Int) := by omega
        have g2 : (c : Int) ≤ (r.size : Int) := by omega
        have g3 : (c : Int) ≤ (l : Int) := by omega
        go_wp2
        go_roundw
        case rel =>
          refine ⟨k + 1, r.extract c r.size, _, by omega, by go_num, (by first | rfl | rw [HCL.out]), ?_, ?_, HS1.out, HS2.out.congr fun j hj => ?_, HBC.out⟩
          · rw [ByteArray.size_extract, Nat.min_self, HRS.out, Nat.add_mul, Nat.one_mul]
            have := HCM.out
            rw [HRS.out] at this
            omega
          · intro j
            rw [bt_extract r c r.size j (Nat.le_refl _)]
            by_cases hj : j < r.size - c
            · rw [if_pos hj, HRB.out]
              have : c = l := by have := HCM.out; omega
              rw [this, Nat.add_mul, Nat.one_mul, Nat.add_assoc]
            · rw [if_neg hj]
              refine (bt_out s _ ?_).symm
              have h1 := HRS.out
              have h2 := HCM.out
              rw [Nat.add_mul, Nat.one_mul]
              omega
          · by_cases e : j = k
            · subst e; rw [if_pos rfl, if_pos (by omega)]
            · rw [if_neg e]
              by_cases h : j < k
              · rw [if_pos h, if_pos (by omega)]
              · rw [if_neg h, if_neg (by omega)]
        case measure => simp [intOf]; omega
    · obtain rfl : k = m := by omega
      have HF : Hid (XOwn w.heap.size wr.heap.size wr (.slice (some ⟨w.heap.size + 1, 0, none⟩) k k) (spU s l k)) := XOwn.of_rowIs (R2.congr fun j hj => by rw [if_pos hj, spU_get s l k j hj]) (length_spU s l k) (by omega) (by omega)
      have HB := hid BC
      clear R1 R2 BC hrb
      go_wp2
      go_ret2
      exact ⟨_, rfl, by rw [HE.out]; exact HF.out, HB.out⟩
end Go.Proofs.Ytijojdempijhbad
