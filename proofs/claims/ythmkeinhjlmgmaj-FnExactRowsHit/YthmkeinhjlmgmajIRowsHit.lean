/-
  impl.RowsHit: the rows, rising, of which a byte is hit, in memory of their own; or the zero answer. Nothing old is written.
-/
import Derived.Test.YthmkeinhjlmgmajIDeep
import Derived.Test.YthmkeinhjlmgmajIWithin
import Derived.Test.YthmkeinhjlmgmajIInOrder
import Derived.Test.YthmkeinhjlmgmajIPutS
import Derived.Test.YthmkeinhjlmgmajKOne
import Derived.Test.YthmkeinhjlmgmajISortI
namespace Go.Proofs.Ythmkeinhjlmgmaj
open Go.RowKit

def hitF (d f l : Nat) (x : Int) : Bool := (List.range l).any fun i => decide ((((f + i) % d : Nat) : Int) = x)
theorem hitF_succ (d f l : Nat) (x : Int) : hitF d f (l + 1) x = (hitF d f l x || [(((f + l) % d : Nat) : Int)].contains x) := by
  simp only [hitF, List.range_succ, List.any_append, List.any_cons, List.any_nil, Bool.or_false]
  congr 1
  rw [Bool.eq_iff_iff]
  simp [eq_comm]
theorem hitF_iff (d f l : Nat) (x : Int) : hitF d f l x = true ↔ ∃ i, i < l ∧ (((f + i) % d : Nat) : Int) = x := by simp [hitF]
theorem rows_eq {d f l : Nat} {ys : List Int} (hd : 0 < d) (h1 : ys.Pairwise (· < ·)) (h2 : ∀ x, x ∈ ys ↔ hitF d f l x = true) : ys = rowsU d f l d := by
  refine rising_eq h1 (rowsU_rising d f l d) fun x => ?_
  rw [h2, hitF_iff, rowsU_mem]
  constructor
  · rintro ⟨i, hi, rfl⟩
    exact ⟨(f + i) % d, rfl, Nat.mod_lt _ hd, (hitU_iff d f l _).2 ⟨i, hi, rfl⟩⟩
  · rintro ⟨k, rfl, hk, h⟩
    obtain ⟨i, hi, e⟩ := (hitU_iff d f l k).1 h
    exact ⟨i, hi, by rw [e]⟩

set_option maxRecDepth 100000 in
set_option maxHeartbeats 4000000 in
theorem irows_any (many deep frm long : Int) (w : World) (w2 : (Lit.int .i64 frm).wf = true) (Y : List Int) (t : Bool) (hY : hitL many deep frm long = Y) (ht : hitB many deep frm long = t) :
    Calls Try.prog 21 #[.int .i64 many, .int .i64 deep, .int .i64 frm, .int .i64 long] w fun e w' => ∃ u0, e = .returned (.tuple #[u0, .bool t]) ∧ KOwn w.heap.size w'.heap.size w' u0 Y ∧ Below w.heap.size w w' := by
  have HY := hid hY
  have Ht := hid ht
  have hmm := @run_makeMap Try.prog
  clear hY ht
  cases t
  · have HE : Hid (Y = []) := by show _ = _; rw [← HY.out]; unfold hitL; rw [Ht.out]; rfl
    obtain ⟨b1, hb1⟩ : ∃ b, deepB many deep = b := ⟨_, rfl⟩
    have H1 := hid hb1
    cases b1
    · clear hb1
      go_enter Try.func21, Try.ntmps21
      go_wp2_with fail
      refine (ideep_eq _ _ false H1.out _).mono ?_
      rintro e w' ⟨rfl, hw⟩; obtain rfl := hw.symm
      go_wp2
      go_ret2
      exact ⟨_, rfl, by rw [HE.out]; exact kown_nil _ _ _ _ _, Below.refl _ _⟩
    · obtain ⟨n, rfl⟩ : ∃ n : Nat, many = n := by simp [deepB] at hb1; exact ⟨many.toNat, by omega⟩
      have hn : n ≤ 120 := by simp [deepB] at hb1; omega
      have H2 : Hid (withB n frm long = false) := by have := Ht.out; unfold hitB at this; rw [H1.out] at this; exact this
      clear hb1
      go_enter Try.func21, Try.ntmps21
      go_wp2_with fail
      refine (ideep_eq _ _ true H1.out _).mono ?_
      rintro e w' ⟨rfl, hw⟩; obtain rfl := hw.symm
      go_wp2_with fail
      refine (iwithin_eq n frm long false (by omega) w2 H2.out _).mono ?_
      rintro e w' ⟨rfl, hw⟩; obtain rfl := hw.symm
      go_wp2
      go_ret2
      exact ⟨_, rfl, by rw [HE.out]; exact kown_nil _ _ _ _ _, Below.refl _ _⟩
  obtain ⟨n, d, f, l, rfl, rfl, rfl, rfl, h1, h2, h3, h4⟩ := hitB_parts Ht.out
  have HE : Hid (Y = rowsU d f l d) := by show _ = _; rw [← HY.out]; unfold hitL; rw [Ht.out, if_pos rfl]; simp
  have H1 : Hid (deepB n d = true) := by have := Ht.out; unfold hitB at this; rw [Bool.and_eq_true] at this; exact this.1
  have H2 : Hid (withB n f l = true) := by have := Ht.out; unfold hitB at this; rw [Bool.and_eq_true] at this; exact this.2
  clear HY
  have hne : ¬ (d : Int) = 0 := by omega
  have hfl : (f : Int) + (l : Int) = ((f + l : Nat) : Int) := by simp
  have hfw : IntKind.i64.wrap ((f + l : Nat) : Int) = ((f + l : Nat) : Int) := by rw [IntKind.wrap_i64]; omega
  obtain ⟨m, hm⟩ : ∃ m, f + l = m := ⟨_, rfl⟩
  rw [hm] at hfl hfw h4
  have HMm := hid hm
  clear hm
  go_enter Try.func21, Try.ntmps21
  go_wp2_with fail
  refine (ideep_eq _ _ true H1.out _).mono ?_
  rintro e w' ⟨rfl, hw⟩; obtain rfl := hw.symm
  go_wp2_with fail
  refine (iwithin_eq n f l true (by omega) w2 H2.out _).mono ?_
  rintro e w' ⟨rfl, hw⟩; obtain rfl := hw.symm
  go_wp2
  go_loopw [11] (fun i wr => ∃ k : Nat, k ≤ l ∧ i = .int .i64 ((f + k : Nat) : Int) ∧ MSet wr w.heap.size k (fun x => hitF d f k x) ∧ Below w.heap.size w wr) (fun i _ => f + l - (intOf i).toNat)
  case atStart => exact ⟨0, Nat.zero_le _, rfl, (MSet.made w).congr fun x => by simp [hitF], (Below.refl _ _).alloc (Nat.le_refl _) _⟩
  case round =>
    obtain ⟨k, hk, rfl, hs, hal⟩ := hrel
    have HS := hid hs
    have HL := hid hal
    clear hs hal
    by_cases hlt : k < l
    · obtain ⟨p, hp⟩ : ∃ p, f + k = p := ⟨_, rfl⟩
      rw [hp]
      have hpm : (p : Int) < (m : Int) := by have := HMm.out; omega
      obtain ⟨q, hq⟩ : ∃ q, p % d = q := ⟨_, rfl⟩
      have e1 : (p : Int).tmod (d : Int) = (q : Nat) := by rw [Int.tmod_eq_emod_of_nonneg (by omega), ← hq]; rfl
      have e2 : (p : Int) % (d : Int) = (q : Nat) := by rw [← hq]; rfl
      have hqd : q < d := by rw [← hq]; exact Nat.mod_lt _ h1
      have HQ : Hid ((f + k) % d = q) := by show _ = _; rw [hp, hq]
      have HP := hid hp
      clear hp hq
      go_wp2_with fail
      refine (iputs_any w.heap.size k _ _ [(q : Int)] _ (HS.out.below ((Below.refl _ _).alloc (Nat.le_refl _) _)) (kreads_int _ _) (fun y hy => by rw [List.mem_singleton] at hy; rw [hy]; exact inW_small (by omega) (by omega)) (by simp; omega)).mono ?_
      rintro e w4 ⟨rfl, hm4, hg4⟩
      have HM4 : Hid (MSet w4 w.heap.size (k + 1) (fun x => hitF d f (k + 1) x)) := (hm4.mono (by simp)).congr (fun x => by rw [hitF_succ, HQ.out])
      have HB4 : Hid (Below w.heap.size w w4) := (HL.out.alloc HL.out.size _).grown hg4 (by simp; have := HL.out.size; omega) (by intro g hg; cases hg; exact Nat.le_refl _)
      clear hm4 hg4
      go_wp2
      go_roundw
      case rel => exact ⟨k + 1, by omega, by have := HP.out; go_num, HM4.out, HB4.out⟩
      case measure => simp [intOf]; have := HP.out; omega
    · obtain rfl : k = l := by omega
      rw [HMm.out]
      go_wp2_with fail
      refine (iinorder_any _ _ _ _ HS.out (by omega)).mono ?_
      rintro e w4 ⟨u, rfl, ys, ho, hp, hmem, _, _, hb⟩
      have HO : Hid (KOwn w.heap.size w4.heap.size w4 u Y) := by
        show KOwn _ _ _ _ _
        rw [HE.out, ← rows_eq h1 hp hmem]
        exact ho.mono HL.out.size (Nat.le_refl _)
      have HB := hid (HL.out.trans (hb.mono HL.out.size))
      clear ho hp hmem hb
      go_wp2
      go_ret2
      exact ⟨_, rfl, HO.out, HB.out⟩
end Go.Proofs.Ythmkeinhjlmgmaj
