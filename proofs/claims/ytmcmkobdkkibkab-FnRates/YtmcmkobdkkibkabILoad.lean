/-
  impl.lowestTerms, impl.LoadOf: the load of tasks that come again, in its lowest terms. Nothing old is written.
-/
import Derived.Test.YtmcmkobdkkibkabIAgain
import Derived.Test.YtmcmkobdkkibkabLoadMath
import Derived.Deep.QuietTactic
import Derived.BigQuiet
import Derived.OwnWalk
namespace Go.Proofs.Ytmcmkobdkkibkab
open Go.RowKit

set_option maxRecDepth 100000 in
set_option maxHeartbeats 4000000 in
theorem ilow_any (a b s l : Nat) (ha : a ≤ 4611686018427387904) (hb : b ≤ 4611686018427387904) (h0 : 0 < b) (hs : a / Nat.gcd a b = s) (hl : b / Nat.gcd a b = l) (w : World) :
    Calls Try.prog 104 #[.int .i64 (a : Nat), .int .i64 (b : Nat)] w fun e w' => e = .returned (.tuple #[.int .i64 (s : Nat), .int .i64 (l : Nat)]) ∧ Below w.heap.size w w' := by
  have HS := hid hs
  have HL := hid hl
  clear hs hl
  go_enter Try.func104, Try.ntmps104
  go_wp2
  go_loopw [6, 7] (fun av bv wr => ∃ c d : Nat, av = .int .i64 c ∧ bv = .int .i64 d ∧ Nat.gcd c d = Nat.gcd a b ∧ (c ≤ 4611686018427387904 ∧ d ≤ 4611686018427387904) ∧ Below w.heap.size w wr) (fun _ bv _ => (intOf bv).toNat)
  case atStart => exact ⟨a, b, rfl, rfl, rfl, ⟨ha, hb⟩, Below.refl _ _⟩
  case round =>
    obtain ⟨c, d, rfl, rfl, hg, ⟨hc, hd⟩, hbel⟩ := hrel
    have HG := hid hg
    have HB := hid hbel
    clear hg hbel
    by_cases hd0 : 0 < d
    · obtain ⟨m, hm⟩ : ∃ m, m = c % d := ⟨_, rfl⟩
      have hmm : (c : Int).tmod (d : Int) = (m : Int) := by rw [Int.tmod_eq_emod_of_nonneg (by omega), hm, Int.natCast_emod]
      have hml : m < d := by rw [hm]; exact Nat.mod_lt _ hd0
      have hmw : IntKind.i64.wrap (m : Int) = (m : Int) := by rw [IntKind.wrap_i64]; omega
      have HN : Hid (Nat.gcd d m = Nat.gcd a b) := by show _ = _; rw [← HG.out, hm, Nat.gcd_comm c d, Nat.gcd_rec d c, Nat.gcd_comm]
      have hq0 : ((d : Int) == 0) = false := by rw [beq_eq_false_iff_ne]; omega
      have hq1 : (d : Int) ≠ 0 := by omega
      clear hm
      go_wp2_with fail
      go_big_region
      go_wp2
      go_roundw
      case rel => exact ⟨d, m, rfl, rfl, HN.out, ⟨hd, by omega⟩, HB.out.drew⟩
      case measure => simp [intOf]; omega
    · obtain rfl : d = 0 := by omega
      have hcg : Nat.gcd a b = c := by rw [← HG.out, Nat.gcd_zero_right]
      have hc0 : 0 < c := by rw [← hcg]; exact Nat.gcd_pos_of_pos_right _ h0
      have hd1 : (a : Int).tdiv (c : Int) = (s : Int) := by rw [Int.tdiv_eq_ediv_of_nonneg (by omega), ← HS.out, hcg, Int.natCast_ediv]
      have hd2 : (b : Int).tdiv (c : Int) = (l : Int) := by rw [Int.tdiv_eq_ediv_of_nonneg (by omega), ← HL.out, hcg, Int.natCast_ediv]
      have hsa : s ≤ a := by rw [← HS.out]; exact Nat.div_le_self _ _
      have hlb : l ≤ b := by rw [← HL.out]; exact Nat.div_le_self _ _
      have w1' : IntKind.i64.wrap (s : Int) = (s : Int) := by rw [IntKind.wrap_i64]; omega
      have w2' : IntKind.i64.wrap (l : Int) = (l : Int) := by rw [IntKind.wrap_i64]; omega
      have q0 : ((c : Int) == 0) = false := by rw [beq_eq_false_iff_ne]; omega
      have q1 : (c : Int) ≠ 0 := by omega
      clear hcg hc0
      go_wp2_with fail
      go_big_region
      go_wp2
      go_ret2
      exact ⟨rfl, HB.out.drew⟩
set_option maxHeartbeats 1000000 in
theorem iload_no (v : Value) (xs : List AgEl) (w : World) (hr : AgReads w v xs) (hg : goodA xs = false) :
    Calls Try.prog 51 #[v] w fun e w' => e = .returned (.tuple #[.int .i64 0, .int .i64 0, .bool false]) ∧ Below w.heap.size w w' := by
  have HR := hid hr
  clear hr
  go_enter Try.func51, Try.ntmps51
  go_wp2_with fail
  refine (igoodAgain_eq _ xs false hg _ HR.out).mono ?_
  rintro e w1 ⟨rfl, b1⟩
  have B1 := hid b1
  clear b1
  go_wp2
  go_ret3
  exact ⟨rfl, B1.out⟩
set_option maxRecDepth 100000 in
set_option maxHeartbeats 8000000 in
theorem iload_yes (v : Value) (xs : List AgEl) (w : World) (hr : AgReads w v xs) (hg : goodA xs = true) :
    Calls Try.prog 51 #[v] w fun e w' => e = .returned (.tuple #[.int .i64 ((loadF (pairsA xs)).1 : Nat), .int .i64 ((loadF (pairsA xs)).2 : Nat), .bool true]) ∧ Below w.heap.size w w' := by
  have HR := hid hr
  have HG := hid hg
  have hlen := goodA_len hg
  obtain ⟨a, cap, rfl, _, _⟩ := hr
  clear hg
  go_enter Try.func51, Try.ntmps51
  go_wp2_with fail
  refine (igoodAgain_eq _ xs true HG.out _ HR.out).mono ?_
  rintro e w1 ⟨rfl, b1⟩
  have B1 := hid b1
  clear b1
  go_wp2
  go_loopw [5, 6, 14] (fun uv lv kv wr => ∃ k : Nat, k ≤ xs.length ∧ kv = .int .i64 k ∧ uv = .int .i64 ((loadF (pairsA (xs.take k))).1 : Nat) ∧ lv = .int .i64 ((loadF (pairsA (xs.take k))).2 : Nat) ∧ Below w.heap.size w wr) (fun _ _ kv _ => xs.length - (intOf kv).toNat)
  case atStart => exact ⟨0, Nat.zero_le _, rfl, rfl, rfl, B1.out⟩
  case round =>
    obtain ⟨k, hk, rfl, rfl, rfl, hbel⟩ := hrel
    have HB := hid hbel
    clear hbel
    by_cases hlt : k < xs.length
    · obtain ⟨gl, ol, cap', e, hc⟩ := (HR.out.below HB.out).cells k hlt
      cases e
      have hnd := (goodA_tasks HG.out).need k hlt
      have hev := (goodA_tasks HG.out).every k hlt
      obtain ⟨P, hP⟩ : ∃ P : Nat, P = (needA xs k).toNat := ⟨_, rfl⟩
      obtain ⟨Q, hQ⟩ : ∃ Q : Nat, Q = (everyA xs k).toNat := ⟨_, rfl⟩
      have c0 : wr.cell? ⟨gl, ol + k * 2, none⟩ = some (.int .i64 (P : Nat)) := by rw [hP, show (((needA xs k).toNat : Nat) : Int) = needA xs k by omega]; exact (hc k hlt).1
      have c1 : wr.cell? ⟨gl, ol + k * 2 + 1, none⟩ = some (.int .i64 (Q : Nat)) := by rw [hQ, show (((everyA xs k).toNat : Nat) : Int) = everyA xs k by omega]; exact (hc k hlt).2
      have hPb : P ≤ 10 := by omega
      have hQb : 1 ≤ Q ∧ Q ≤ 40 := by omega
      have hsm := iload_small HG.out k hk
      have hlo := iload_low HG.out k
      have HN : Hid (loadF (pairsA (xs.take (k + 1))) = loadStep (loadF (pairsA (xs.take k))) (P, Q)) := by show _ = _; rw [ipairs_take xs hlt, loadF_snoc, hP, hQ]
      obtain ⟨u, l, hul⟩ : ∃ u l, loadF (pairsA (xs.take k)) = (u, l) := ⟨_, _, rfl⟩
      rw [hul] at hsm hlo HN ⊢
      simp only at hsm hlo ⊢
      obtain ⟨uq, huq⟩ : ∃ uq, uq = u * Q := ⟨_, rfl⟩
      obtain ⟨pl, hpl⟩ : ∃ pl, pl = P * l := ⟨_, rfl⟩
      obtain ⟨lq, hlq⟩ : ∃ lq, lq = l * Q := ⟨_, rfl⟩
      have b1 : uq ≤ 204800000000 := by rw [huq]; exact Nat.le_trans (Nat.mul_le_mul hsm.2 hQb.2) (by decide)
      have b2 : pl ≤ 1024000000 := by rw [hpl]; exact Nat.le_trans (Nat.mul_le_mul hPb hsm.1) (by decide)
      have b3 : lq ≤ 4096000000 := by rw [hlq]; exact Nat.le_trans (Nat.mul_le_mul hsm.1 hQb.2) (by decide)
      have b4 : 0 < lq := by rw [hlq]; exact Nat.mul_pos hlo (by omega)
      have m1 : (u : Int) * (Q : Int) = (uq : Int) := by rw [huq, Int.natCast_mul]
      have m2 : (P : Int) * (l : Int) = (pl : Int) := by rw [hpl, Int.natCast_mul]
      have m3 : (l : Int) * (Q : Int) = (lq : Int) := by rw [hlq, Int.natCast_mul]
      obtain ⟨s, hs⟩ : ∃ s, s = uq + pl := ⟨_, rfl⟩
      have m4 : (uq : Int) + (pl : Int) = (s : Int) := by omega
      obtain ⟨g, hgc⟩ : ∃ g, g = Nat.gcd s lq := ⟨_, rfl⟩
      have g0 : 0 < g := by rw [hgc]; exact Nat.gcd_pos_of_pos_right _ b4
      obtain ⟨s2, hs2⟩ : ∃ s2, s2 = s / g := ⟨_, rfl⟩
      obtain ⟨l2, hl2⟩ : ∃ l2, l2 = lq / g := ⟨_, rfl⟩
      have HV : Hid (loadF (pairsA (xs.take (k + 1))) = (s2, l2)) := by
        show _ = _
        rw [HN.out]
        unfold loadStep
        simp only
        rw [← huq, ← hpl, ← hlq, ← hs, ← hgc, ← hs2, ← hl2]
      have hd1 : (s : Int).tdiv (g : Int) = (s2 : Int) := by rw [Int.tdiv_eq_ediv_of_nonneg (by omega), hs2, Int.natCast_ediv]
      have hd2 : (lq : Int).tdiv (g : Int) = (l2 : Int) := by rw [Int.tdiv_eq_ediv_of_nonneg (by omega), hl2, Int.natCast_ediv]
      have hs2b : s2 ≤ s := by rw [hs2]; exact Nat.div_le_self _ _
      have hl2b : l2 ≤ lq := by rw [hl2]; exact Nat.div_le_self _ _
      have w1' : IntKind.i64.wrap (uq : Int) = (uq : Int) := by rw [IntKind.wrap_i64]; omega
      have w2' : IntKind.i64.wrap (pl : Int) = (pl : Int) := by rw [IntKind.wrap_i64]; omega
      have w3' : IntKind.i64.wrap (lq : Int) = (lq : Int) := by rw [IntKind.wrap_i64]; omega
      have w4' : IntKind.i64.wrap (s : Int) = (s : Int) := by rw [IntKind.wrap_i64]; omega
      have w5' : IntKind.i64.wrap (s2 : Int) = (s2 : Int) := by rw [IntKind.wrap_i64]; omega
      have w6' : IntKind.i64.wrap (l2 : Int) = (l2 : Int) := by rw [IntKind.wrap_i64]; omega
      have q0 : ((g : Int) == 0) = false := by rw [beq_eq_false_iff_ne]; omega
      have q1 : (g : Int) ≠ 0 := by omega
      have H1 : Hid (s / Nat.gcd s lq = s2) := by show _ = _; rw [← hgc]; exact hs2.symm
      have H2 : Hid (lq / Nat.gcd s lq = l2) := by show _ = _; rw [← hgc]; exact hl2.symm
      have hwz : w.heap.size ≤ wr.heap.size := HB.out.size
      have HBA : Hid (∀ ob, Below w.heap.size w (wr.alloc ob)) := fun ob => HB.out.alloc HB.out.size _
      have hs3 : s ≤ 4611686018427387904 := by omega
      have hq3 : lq ≤ 4611686018427387904 := by omega
      clear hc hP hQ huq hpl hlq hs hs2 hl2 hgc hul HN
      go_wp2_with fail
      refine (ilow_any s lq s2 l2 hs3 hq3 b4 H1.out H2.out _).mono ?_
      rintro e w' ⟨rfl, b'⟩
      have HB' : Hid (Below w.heap.size w w') := (HBA.out _).trans (b'.mono (by simp; omega))
      clear b'
      go_wp2
      go_roundw
      case rel => exact ⟨k + 1, by omega, by go_num, by rw [HV.out], by rw [HV.out], HB'.out⟩
      case measure => simp [intOf]; omega
    · obtain rfl : k = xs.length := by omega
      rw [List.take_length]
      go_wp2
      go_ret3
      exact ⟨rfl, HB.out⟩
end Go.Proofs.Ytmcmkobdkkibkab
