/-
  spec.l12Split, spec.SplitPieces: a text split into texts of one length, in memory of their own, or the zero answer; nothing old is written.
-/
import Derived.Test.YtijojdempijhbadSplMath
import Derived.Test.YtijojdempijhbadSIn
import Derived.Test.YtijojdempijhbadPcRow
import Derived.Test.YtijojdempijhbadXApp
import Derived.Laws.Concat
namespace Go.Proofs.Ytijojdempijhbad
open Go.RowKit

theorem size_list (l : List UInt8) : (⟨l.toArray⟩ : ByteArray).size = l.length := by
  show l.toArray.size = _
  simp
theorem pad_pc (s : ByteArray) (m l k : Nat) (hs : s.size ≤ m * l) (hk : k < m) : ((s ++ ⟨(List.replicate (m * l - s.size) (0 : UInt8)).toArray⟩ : ByteArray)).extract (k * l) (k * l + l) = pcT s l k := by
  obtain ⟨P, hP⟩ : ∃ P : ByteArray, P = s ++ ⟨(List.replicate (m * l - s.size) (0 : UInt8)).toArray⟩ := ⟨_, rfl⟩
  rw [← hP]
  have hsz : P.size = m * l := by rw [hP, ByteArray.size_append, size_list (List.replicate _ _), List.length_replicate]; omega
  have hle : k * l + l ≤ m * l := by
    have : (k + 1) * l ≤ m * l := Nat.mul_le_mul_right l hk
    rw [Nat.add_mul, Nat.one_mul] at this
    exact this
  have hbt : ∀ i, bt P i = bt s i := by
    intro i
    by_cases hi : i < s.size
    · rw [hP, bt_data _ _ (by show i < ByteArray.size _; rw [ByteArray.size_append]; omega), bt_data s i hi]
      simp only [ByteArray.data_append]
      rw [Array.getElem_append_left hi]
    · rw [bt_out s i (by omega)]
      by_cases hi2 : i < m * l
      · rw [hP, bt_data _ _ (by show i < ByteArray.size _; rw [← hP, hsz]; exact hi2)]
        simp only [ByteArray.data_append]
        rw [Array.getElem_append_right (by show s.size ≤ i; omega)]
        simp
      · exact bt_out P i (by omega)
  refine text_ext _ _ ?_ ?_
  · rw [length_pcL, ByteArray.size_extract]; omega
  · intro j hj
    rw [length_pcL] at hj
    rw [bt_extract P _ _ _ (by omega), if_pos (by omega), hbt, pcL_get s l k j hj]

set_option maxRecDepth 100000 in
set_option maxHeartbeats 4000000 in
theorem ssplit_core (s : ByteArray) (m l : Nat) (w : World) (h1 : 1 ≤ m) (h2 : m ≤ 7) (h3 : (s.size + m - 1) / m = l) (h4 : l ≤ 16) (h5 : s.size ≤ m * l) (h6 : m * l ≤ 112) :
    Calls Try.prog 153 #[.string s, .int .i64 (m : Nat)] w fun e w' => ∃ u, e = .returned u ∧ XOwn w.heap.size w'.heap.size w' u (spU s l m) ∧ Below w.heap.size w w' := by
  obtain ⟨i0, hi, hz0, hz1, hz2⟩ := info_parts info_u8
  obtain ⟨n, hn⟩ : ∃ n, s.size = n := ⟨_, rfl⟩
  have hni : (s.size : Int) = (n : Int) := by rw [hn]
  rw [hn] at h3 h5
  have e1 : (n : Int) + (m : Int) = ((n + m : Nat) : Int) := by simp
  have e2 : IntKind.i64.wrap ((n + m : Nat) : Int) = ((n + m : Nat) : Int) := by rw [IntKind.wrap_i64]; omega
  have e3 : ((n + m : Nat) : Int) - 1 = ((n + m - 1 : Nat) : Int) := by omega
  have e4 : IntKind.i64.wrap ((n + m - 1 : Nat) : Int) = ((n + m - 1 : Nat) : Int) := by rw [IntKind.wrap_i64]; omega
  have e5 : ((n + m - 1 : Nat) : Int).tdiv (m : Int) = (l : Nat) := by rw [Int.tdiv_eq_ediv_of_nonneg (by omega), ← h3]; rfl
  have e6 : ((n + m - 1 : Nat) : Int) / (m : Int) = (l : Nat) := by rw [← h3]; rfl
  obtain ⟨p, hp⟩ : ∃ p, n + m = p := ⟨_, rfl⟩
  obtain ⟨q, hq⟩ : ∃ q, n + m - 1 = q := ⟨_, rfl⟩
  rw [hq] at e3 e4 e5 e6
  rw [hp] at e1 e2 e3
  have hne : ¬ (m : Int) = 0 := by omega
  obtain ⟨ml, hml⟩ : ∃ ml, m * l = ml := ⟨_, rfl⟩
  rw [hml] at h5 h6
  have e7 : (m : Int) * (l : Int) = (ml : Nat) := by rw [← hml]; simp
  have e8 : IntKind.i64.wrap (ml : Int) = (ml : Nat) := by rw [IntKind.wrap_i64]; omega
  obtain ⟨d, hd⟩ : ∃ d, ml - n = d := ⟨_, rfl⟩
  have e9 : (ml : Int) - (n : Int) = (d : Nat) := by omega
  have e10 : IntKind.i64.wrap (d : Int) = (d : Nat) := by rw [IntKind.wrap_i64]; omega
  have hconv := conv_row (w.alloc (.cells (madeCells #[.int .u8 0] d) 5)) w.heap.size d (List.replicate d 0) (fun j hj => by
    rw [(World.rowIs_made w (.int .u8 0) d 5).cell (by simpa using hj), List.getD_eq_getElem?_getD, List.getElem?_replicate]
    split <;> rfl)
  rw [List.length_replicate] at hconv
  obtain ⟨Z, hZ⟩ : ∃ Z : ByteArray, Z = ⟨(List.replicate d (0 : UInt8)).toArray⟩ := ⟨_, rfl⟩
  have hZs : Z.size = d := by rw [hZ, size_list, List.length_replicate]
  rw [← hZ] at hconv
  have hadd := run_string_add_sum (P := Try.prog) (w.alloc (.cells (madeCells #[.int .u8 0] d) 5)) s Z (by omega)
  obtain ⟨PP, hPP⟩ : ∃ P, P = s ++ Z := ⟨_, rfl⟩
  have hPs : PP.size = ml := by rw [hPP, ByteArray.size_append]; omega
  have HPc : Hid (∀ k, k < m → PP.extract (k * l) (k * l + l) = pcT s l k) := fun k hk => by rw [hPP, hZ, ← hd, ← hml, ← hn]; exact pad_pc s m l k (by rw [hn, hml]; exact h5) hk
  rw [← hPP] at hadd
  have HML := hid hml
  clear h3 hp hq hd hZ hn hPP hml hZs
  go_enter Try.func153, Try.ntmps153
  go_wp2_with (at_make; refine wpList_make_row _ rfl _ _ 22 rfl 5 i0 (.int .u8 0) Try.underlying22 hi hz0 hz1 rfl .i64 .i64 d rfl rfl (by rw [hz2]; omega) (by omega) ?_)
  clear hadd hconv e1 e2 e3 e4 e5 e6 e9 e10
  go_loopw [6, 7] (fun lv kv wr => ∃ k : Nat, k ≤ m ∧ kv = .int .i64 (k : Nat) ∧ wr.ownsRow w.heap.size 9 1 lv k (xflat (spU s l k)) ∧ Below w.heap.size w wr) (fun _ kv _ => m - (intOf kv).toNat)
  case atStart => exact ⟨0, Nat.zero_le _, rfl, World.ownsRow_nil _ _ _ _, (Below.refl _ _).alloc (Nat.le_refl _) _⟩
  case round =>
    obtain ⟨k, hk, rfl, hown, hbel⟩ := hrel
    have HO := hid hown
    have HB := hid hbel
    have hsz := hbel.size
    clear hown hbel
    by_cases hlt : k < m
    · have hltd : (k : Int) < (m : Int) := by omega
      have hP := HPc.out k hlt
      have HSu := hid (spU_succ s l k)
      have hkl : k * l + l ≤ ml := by
        have : (k + 1) * l ≤ m * l := Nat.mul_le_mul_right l hlt
        rw [Nat.add_mul, Nat.one_mul, HML.out] at this
        exact this
      obtain ⟨x, hx⟩ : ∃ x, k * l = x := ⟨_, rfl⟩
      obtain ⟨y, hy⟩ : ∃ y, x + l = y := ⟨_, rfl⟩
      rw [hx] at hP hkl
      rw [hy] at hP hkl
      have f1 : (k : Int) * (l : Int) = (x : Nat) := by rw [← hx]; simp
      have f2 : IntKind.i64.wrap (x : Int) = (x : Nat) := by rw [IntKind.wrap_i64]; omega
      obtain ⟨k1, hk1⟩ : ∃ k1, k + 1 = k1 := ⟨_, rfl⟩
      have f3 : (k : Int) + 1 = (k1 : Nat) := by rw [← hk1]; simp
      have f4 : IntKind.i64.wrap (k1 : Int) = (k1 : Nat) := by rw [IntKind.wrap_i64]; omega
      have f5 : (k1 : Int) * (l : Int) = (y : Nat) := by rw [← hk1, ← hy, ← hx]; simp [Int.add_mul]
      have f6 : IntKind.i64.wrap (y : Int) = (y : Nat) := by rw [IntKind.wrap_i64]; omega
      have g1 : x ≤ y := by omega
      have g2 : (x : Int) ≤ (y : Int) := by omega
      have g3 : (y : Int) ≤ (PP.size : Int) := by omega
      have g4 : y ≤ PP.size := by omega
      have HK1 := hid hk1
      clear hx hy hk1
      go_wp2_with (at_builtin; refine wpList_append_xreads _ rfl _ _ rfl w.heap.size _ _ _ rfl (HO.out.alloc _) _ [pcT s l k] rfl (xreads_one _ _) (by simp; omega) (by simp; omega) ?_)
      intro v' w3 hown hgrow _
      have HO3 : Hid (w3.ownsRow w.heap.size 9 1 v' (k + 1) (xflat (spU s l (k + 1)))) := by
        show World.ownsRow _ _ _ _ _ _ _
        rw [HSu.out]
        exact hown
      have HB3 : Hid (Below w.heap.size w w3) := (HB.out.alloc (by omega) _).grown hgrow (by simp; omega) (by intro j hj; exact (HO.out.lt j hj).1)
      clear hown hgrow
      go_wp2
      go_roundw
      case rel => exact ⟨k + 1, by omega, by have := HK1.out; go_num, HO3.out, HB3.out⟩
      case measure => simp [intOf]; have := HK1.out; omega
    · obtain rfl : k = m := by omega
      have HF := hid (XOwn.of_owns HO.out (by rw [length_spU]; omega))
      go_wp2
      go_ret
      exact ⟨_, rfl, HF.out, HB.out⟩

set_option maxHeartbeats 4000000 in
theorem ssplit_any (s : ByteArray) (many : Int) (w : World) (Y : List XEl) (t : Bool) (hY : splL s many = Y) (ht : splB s many = t) :
    Calls Try.prog 70 #[.string s, .int .i64 many] w fun e w' => ∃ u0, e = .returned (.tuple #[u0, .bool t]) ∧ XOwn w.heap.size w'.heap.size w' u0 Y ∧ Below w.heap.size w w' := by
  have HY := hid hY
  have Ht := hid ht
  clear hY ht
  cases t
  · have HE : Hid (Y = []) := by show _ = _; rw [← HY.out]; unfold splL; rw [Ht.out]; rfl
    obtain ⟨b1, hb1⟩ : ∃ b, decide (1 ≤ many ∧ many ≤ 7) = b := ⟨_, rfl⟩
    have H1 := hid hb1
    cases b1
    · clear hb1
      go_enter Try.func70, Try.ntmps70
      go_wp2_with fail
      refine (l1In_eq many 1 7 false H1.out _).mono ?_
      rintro e w' ⟨rfl, hw⟩; obtain rfl := hw.symm
      go_wp2
      go_ret2
      exact ⟨_, rfl, by rw [HE.out]; exact xown_nil _ _ _ _ _, Below.refl _ _⟩
    · have hb : 1 ≤ many ∧ many ≤ 7 := of_decide_eq_true hb1
      have hn : ¬ ((s.size : Int) ≤ many * 16) := by have := Ht.out; unfold splB at this; rw [H1.out] at this; simpa using this
      have hw : IntKind.i64.wrap (many * 16) = many * 16 := by rw [IntKind.wrap_i64]; omega
      have hd : decide ((s.size : Int) > many * 16) = true := by simp; omega
      clear hb1
      go_enter Try.func70, Try.ntmps70
      go_wp2_with fail
      refine (l1In_eq many 1 7 true H1.out _).mono ?_
      rintro e w' ⟨rfl, hw'⟩; obtain rfl := hw'.symm
      go_wp2
      go_ret2
      exact ⟨_, rfl, by rw [HE.out]; exact xown_nil _ _ _ _ _, Below.refl _ _⟩
  obtain ⟨m, l, rfl, h1, h2, h3, h4, h5, h6, h7, h8⟩ := splB_parts Ht.out
  have HE : Hid (Y = spU s l m) := by show _ = _; rw [← HY.out]; exact h8
  have H1 : Hid (decide ((1 : Int) ≤ (m : Int) ∧ (m : Int) ≤ 7) = true) := by show _ = _; rw [decide_eq_true_eq]; omega
  have hw : IntKind.i64.wrap ((m : Int) * 16) = (m : Int) * 16 := by rw [IntKind.wrap_i64]; omega
  have hd : decide ((s.size : Int) > (m : Int) * 16) = false := by simp; omega
  have H4 := hid h4
  clear h8 HY h4
  go_enter Try.func70, Try.ntmps70
  go_wp2_with fail
  refine (l1In_eq m 1 7 true H1.out _).mono ?_
  rintro e w' ⟨rfl, hw'⟩; obtain rfl := hw'.symm
  go_wp2_with fail
  refine (ssplit_core s m l _ h1 h2 H4.out h5 h6 h7).mono ?_
  rintro e w1 ⟨u, rfl, o, b⟩
  go_wp2
  go_ret2
  exact ⟨_, rfl, by rw [HE.out]; exact o, b⟩
end Go.Proofs.Ytijojdempijhbad
