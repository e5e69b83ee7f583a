/-
  impl.PartsOf: a text cut into parts, or the zero answer. Nothing old is written.
-/
import Derived.Test.YtnkpboobfkjibakKPartRows
import Derived.Test.YtnkpboobfkjibakIGoodBl
import Derived.Test.YtnkpboobfkjibakCloneX
namespace Go.Proofs.Ytnkpboobfkjibak
open Go.RowKit

set_option maxRecDepth 100000 in
set_option maxHeartbeats 8000000 in
theorem iparts_any (z : Int) (s : ByteArray) (w : World) (L : List PtD) (t : Bool) (hL : prtL z s = L) (ht : prtB z s = t) :
    Calls Try.prog 15 #[.int .i64 z, .string s] w fun e w' => ∃ u, e = .returned (.tuple #[u, .bool t]) ∧ RowO rpPt (Iv w.heap.size w'.heap.size) w' u L ∧ Below w.heap.size w w' := by
  have Ht := hid ht
  have HL := hid hL
  have BA : Hid (Below w.heap.size w (w.alloc (.cells #[.int .i64 z, .int .i64 (s.size : Nat)] 66))) := (Below.refl _ _).alloc (Nat.le_refl _) _
  have PL := boxL_new w [.int .i64 z, .int .i64 (s.size : Nat)] 66
  obtain ⟨l0, l1⟩ := PL.two
  clear ht hL PL
  go_enter Try.func15, Try.ntmps15
  go_wp2_with fail
  refine (ilabelGood_eq z (s.size : Nat) t Ht.out _).mono ?_
  rintro e w1 ⟨rfl, b1⟩
  have BW : Hid (Below w.heap.size w w1) := BA.out.trans (b1.mono BA.out.size)
  clear b1 l0 l1 BA
  cases t
  · have HE : Hid (L = []) := by show _ = _; rw [← HL.out]; unfold prtL; rw [Ht.out]; rfl
    go_wp2
    go_ret2
    exact ⟨_, rfl, by rw [HE.out]; exact rowO_nil _ _ _ _ _, BW.out⟩
  have hsz := prtB_size Ht.out
  have HE : Hid (L = prtU z s (prtN s.size)) := by show _ = _; rw [← HL.out]; unfold prtL; rw [Ht.out]; rfl
  obtain ⟨n, hn⟩ : ∃ n, n = s.size := ⟨_, rfl⟩
  obtain ⟨m, hm⟩ : ∃ m, m = prtN s.size := ⟨_, rfl⟩
  have hmn : 4 * m < n + 4 ∧ n ≤ 4 * m := by rw [hm, hn]; unfold prtN; omega
  rw [← hm] at HE
  have hnb : 1 ≤ n ∧ n ≤ 40 := by omega
  obtain ⟨i0, hi, hz0, hz1, hz2⟩ := info_parts info_pt
  have HN := hid hn
  rw [← hn]
  have hnn : (s.size : Int) = (n : Nat) := by rw [hn]
  clear hsz hm hn
  go_wp2
  go_loopw [7, 8] (fun lv kv wr => ∃ k : Nat, k ≤ m ∧ kv = .int .i64 ((4 * k : Nat) : Int) ∧ wr.ownsRow w.heap.size 55 4 lv k (ptFlat (prtU z s k)) ∧ Below w.heap.size w wr) (fun _ kv _ => 4 * m + 4 - (intOf kv).toNat)
  case atStart => exact ⟨0, Nat.zero_le _, rfl, World.ownsRow_nil _ _ _ _, BW.out⟩
  case round =>
    obtain ⟨k, hk, rfl, hown, hbel⟩ := hrel
    have HO := hid hown
    have HB := hid hbel
    have hws := hbel.size
    clear hown hbel
    obtain ⟨p, hp⟩ : ∃ p, p = 4 * k := ⟨_, rfl⟩
    have HP := hid hp
    rw [← hp]
    by_cases hlt : k < m
    · have hpn : (p : Int) < (n : Int) := by omega
      obtain ⟨q, hq⟩ : ∃ q, q = min n (p + 4) := ⟨_, rfl⟩
      have hpq : p ≤ q := by omega
      have hqn : q ≤ n := by omega
      have hqs : q ≤ s.size := by have := HN.out; omega
      have f1 : IntKind.i64.wrap ((p : Int) + 4) = ((p + 4 : Nat) : Int) := by rw [IntKind.wrap_i64]; omega
      have f2 : min ((p : Int) + 4) (n : Int) = (q : Nat) := by omega
      obtain ⟨x, hx⟩ : ∃ x, x = s.extract p q := ⟨_, rfl⟩
      have HX : Hid (prtK z s k = ⟨z, (p : Nat), (n : Nat), x⟩) := by
        show _ = _
        unfold prtK
        rw [hx, hq, hp, HN.out]
      have HS := hid (prtU_succ z s k)
      have hx2 : s.extract p q = x := hx.symm
      have hxs : x.size ≤ 40 := by rw [hx, ByteArray.size_extract]; omega
      clear hq hp hx
      go_wp2_with fail
      refine (cloneS_any x _ (by omega)).mono ?_
      rintro e w2 ⟨rfl, b2⟩
      replace HO := hid (gowns_below HO.out b2)
      replace HB : Hid (Below w.heap.size w w2) := HB.out.trans (b2.mono hws)
      have hws2 := HB.out.size
      clear b2
      go_wp2_with (at_builtin; refine wpList_append_own_at _ rfl _ _ 29 rfl w.heap.size 55 i0 (.agg #[.int .i64 0, .int .i64 0, .int .i64 0, .string ⟨#[]⟩]) 4 40 Try.underlying29 hi hz0 hz1 hz2 rfl (by decide) _ k _ rfl (HO.out.alloc _) ⟨w2.heap.size, 0, none⟩ 1 1 (ptEnc ⟨z, (p : Nat), (n : Nat), x⟩) rfl rfl (ptEnc_new w2 ⟨z, (p : Nat), (n : Nat), x⟩) (ptEnc_one _) (by unfold maxLen; omega) (by omega) (by simp; omega) ?_)
      intro v' w3 hown hgrow _ _
      have HO3 : Hid (w3.ownsRow w.heap.size 55 4 v' (k + 1) (ptFlat (prtU z s (k + 1)))) := by
        show World.ownsRow _ _ _ _ _ _ _
        rw [HS.out, ptFlat_snoc, HX.out]
        exact hown
      have HB3 : Hid (Below w.heap.size w w3) := (HB.out.alloc (by omega) _).grown hgrow (by simp; omega) (by intro j hj; exact (HO.out.lt j hj).1)
      clear hown hgrow
      go_wp2
      go_roundw
      case rel => exact ⟨k + 1, by omega, by have := HP.out; go_num, HO3.out, HB3.out⟩
      case measure => simp [intOf]; have := HP.out; omega
    · obtain rfl : k = m := by omega
      have hpn : ¬ (p : Int) < (n : Int) := by omega
      go_wp2
      go_ret2
      refine ⟨_, rfl, ?_, HB.out⟩
      rw [HE.out]
      have h := ptRow_of HO.out (length_prtU z s k) (by omega)
      exact h
end Go.Proofs.Ytnkpboobfkjibak
