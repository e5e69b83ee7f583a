/-
  laws.toGreetStepS answers with new ones that read as its argument, laws.eqGreetStepS with true for two slices that read alike; nothing old is written.
  laws.eqGreetStepS with true for two slices that read alike; nothing old is written.
  laws.toGreetStepS answers with new ones that read as its argument; nothing old is written.
-/
import Derived.Test.YtdlkilacnnjglaaKGreetStepRows
import Derived.Deep.RegionWith
namespace Go.Proofs.Ytdlkilacnnjglaa
open Go.RowKit

theorem toGreetStep_any (p q : Int) (w : World) : Calls Try.prog 64 #[(.agg #[.int .i64 p, .int .i64 q])] w fun e w' => e = .returned (.agg #[.int .i64 p, .int .i64 q]) ∧ Below w.heap.size w w' := by
  go_enter Try.func64, Try.ntmps64
  go_wp2
  go_returns
  refine ⟨rfl, ?_⟩
  go_grown
theorem eqGreetStep_same (p q : Int) (w : World) : Calls Try.prog 68 #[(.agg #[.int .i64 p, .int .i64 q]), (.agg #[.int .i64 p, .int .i64 q])] w fun e w' => e = .returned (.bool true) ∧ Below w.heap.size w w' := by
  go_enter Try.func68, Try.ntmps68
  go_wp2
  go_ret
  refine ⟨rfl, ?_⟩
  go_grown
end Go.Proofs.Ytdlkilacnnjglaa
namespace Go.Proofs.Ytdlkilacnnjglaa
open Go.RowKit

set_option maxHeartbeats 1000000 in
theorem eqGreetStepS_same (va vb : Value) (xs : List GsEl) (w : World) (ha : GsReads w va xs) (hb : GsReads w vb xs) :
    Calls Try.prog 31 #[va, vb] w fun e w' => e = .returned (.bool true) ∧ Below w.heap.size w w' := by
  obtain ⟨a, ca, rfl, hl, hxa⟩ := ha
  obtain ⟨b, cb, rfl, _, hxb⟩ := hb
  have hd : ((xs.length : Int) != (xs.length : Int)) = false := by simp
  have HA := hid hxa
  have HB := hid hxb
  clear hxa hxb
  go_enter Try.func31, Try.ntmps31
  go_wp2
  go_loopw [5] (fun i wr => ∃ k : Nat, k ≤ xs.length ∧ i = .int .i64 k ∧ Below w.heap.size w wr) (fun i _ => xs.length - (intOf i).toNat)
  case atStart => exact ⟨0, Nat.zero_le _, rfl, Below.refl _ _⟩
  case round =>
    obtain ⟨k, hk, rfl, hal⟩ := hrel
    by_cases hlt : k < xs.length
    · obtain ⟨ga, oa, rfl, hca⟩ : ∃ b off, a = some ⟨b, off, none⟩ ∧ ∀ i, i < xs.length → GsCells w b (off + i * 2) (xs.getD i (0, 0)) := by
        rcases HA.out with h | h
        · subst h; simp at hlt
        · exact h
      obtain ⟨gb, ob, rfl, hcb⟩ : ∃ a off, b = some ⟨a, off, none⟩ ∧ ∀ i, i < xs.length → GsCells w a (off + i * 2) (xs.getD i (0, 0)) := by
        rcases HB.out with h | h
        · subst h; simp at hlt
        · exact h
      obtain ⟨h0, h1⟩ := (hca k hlt).below hal (hca k hlt).lt
      obtain ⟨k0, k1⟩ := (hcb k hlt).below hal (hcb k hlt).lt
      have HL := hid hal
      clear hal hca hcb
      generalize (xs.getD k (0, 0)).1 = p at h0 k0
      generalize (xs.getD k (0, 0)).2 = q at h1 k1
      go_wp2_with fail
      go_region_with (go_at_call 68; refine (eqGreetStep_same p q _).mono ?_; rintro e w' ⟨rfl, hb⟩)
      all_goals go_wp2
      all_goals go_roundw
      all_goals first
        | exact ⟨k + 1, by omega, by go_num, HL.out.drew.trans (hb.mono HL.out.size)⟩
        | (simp [intOf]; omega)
    · go_wp2
      go_ret
      exact ⟨rfl, hal⟩
end Go.Proofs.Ytdlkilacnnjglaa
namespace Go.Proofs.Ytdlkilacnnjglaa
open Go.RowKit

/-- The first k of xs, then empty ones. -/
def gspart (xs : List GsEl) (k : Nat) : List GsEl := xs.take k ++ List.replicate (xs.length - k) (0, 0)
theorem length_gspart (xs : List GsEl) (k : Nat) (h : k ≤ xs.length) : (gspart xs k).length = xs.length := by simp [gspart]; omega
theorem gspart_zero (xs : List GsEl) : gspart xs 0 = List.replicate xs.length (0, 0) := by simp [gspart]
theorem gspart_all (xs : List GsEl) : gspart xs xs.length = xs := by simp [gspart]
theorem gspart_step (xs : List GsEl) (k : Nat) (h : k < xs.length) : (gspart xs k).set k (xs.getD k (0, 0)) = gspart xs (k + 1) := by
  have e : List.replicate (xs.length - k) ((0, 0) : GsEl) = (0, 0) :: List.replicate (xs.length - (k + 1)) (0, 0) := by rw [show xs.length - k = (xs.length - (k + 1)) + 1 by omega, List.replicate_succ]
  unfold gspart
  rw [e, List.set_append_right _ _ (by simp; omega)]
  simp [List.getD_eq_getElem?_getD, h, Nat.min_eq_left (Nat.le_of_lt h)]
  rw [List.take_succ_eq_append_getElem h, List.append_assoc]
  rfl

set_option maxHeartbeats 1000000 in
theorem toGreetStepS_any (va : Value) (xs : List GsEl) (w : World) (ha : GsReads w va xs) (hx : xs.length ≤ 1048576) :
    Calls Try.prog 27 #[va] w fun e w' => ∃ v, e = .returned v ∧ GsOwn w.heap.size w'.heap.size w' v xs ∧ Below w.heap.size w w' := by
  obtain ⟨a, ca, rfl, hl, hxa⟩ := ha
  obtain ⟨i0, hi, hz0, hz1, hz2⟩ := info_parts info_greetStep
  have HC := hid hxa
  clear hxa
  go_enter Try.func27, Try.ntmps27
  go_wp2_with (at_make; refine wpList_make_full _ rfl _ _ 53 rfl w.heap.size 91 i0 (.agg #[.int .i64 0, .int .i64 0]) 2 Try.underlying53 hi hz0 hz1 .i64 .i64 _ _ xs.length rfl rfl rfl rfl (by rw [hz2]; omega) (by unfold maxLen; omega) (Nat.le_refl _) ?_; intro w1 hown1 hgrow1)
  have B1 : Hid (Below w.heap.size w w1) := (Below.refl _ _).grown hgrow1 (Nat.le_refl _) (by intro k hk; cases hk)
  have O1 : Hid (GsOwn w.heap.size w1.heap.size w1 (.slice (some ⟨w.heap.size, 0, none⟩) xs.length xs.length) (gspart xs 0)) := by
    show GsOwn _ _ _ _ _
    rw [gspart_zero]
    refine GsOwn.of_owns (n := xs.length) ?_ (by simp; omega)
    rw [← gsmade_zero]
    exact hown1
  clear hown1 hgrow1
  go_loopw [4] (fun i wr => ∃ k : Nat, k ≤ xs.length ∧ i = .int .i64 k ∧ GsOwn w.heap.size wr.heap.size wr (.slice (some ⟨w.heap.size, 0, none⟩) xs.length xs.length) (gspart xs k) ∧ Below w.heap.size w wr) (fun i _ => xs.length - (intOf i).toNat)
  case atStart => exact ⟨0, Nat.zero_le _, rfl, O1.out, B1.out⟩
  case round =>
    obtain ⟨k, hk, rfl, hown, hbel⟩ := hrel
    by_cases hlt : k < xs.length
    · obtain ⟨b, off, rfl, hc⟩ : ∃ b off, a = some ⟨b, off, none⟩ ∧ ∀ i, i < xs.length → GsCells w b (off + i * 2) (xs.getD i (0, 0)) := by
        rcases HC.out with h | h
        · subst h; simp at hlt
        · exact h
      obtain ⟨x, hx0⟩ : ∃ x, x = xs.getD k (0, 0) := ⟨_, rfl⟩
      have hck := (hc k hlt).below hbel (hc k hlt).lt
      rw [← hx0] at hck
      obtain ⟨h0, h1⟩ := hck
      have HO := hid hown
      have HB := hid hbel
      have HX := hid hx0
      clear hc hown hbel hx0
      go_wp2_with fail
      refine (toGreetStep_any _ _ _).mono ?_
      rintro e w2 ⟨rfl, b2⟩
      have hl2 := length_gspart xs k hk
      have hset := GsOwn.set (xs := gspart xs k) (by rw [hl2]; exact (HO.out.below b2).mono (Nat.le_refl _) b2.size) k x (by omega)
      rw [show (gspart xs k).set k x = gspart xs (k + 1) by rw [HX.out]; exact gspart_step xs k hlt, hl2] at hset
      obtain ⟨hown2, _, ⟨f0, f1⟩, c0, c1⟩ := hset
      have HO2 := hid hown2
      have HB2 : Hid (Below w.heap.size w w2) := HB.out.trans (b2.mono HB.out.size)
      clear hown2 b2 hl2 HO HB
      generalize ((gspart xs k).getD k (0, 0)).1 = y0 at c0
      generalize ((gspart xs k).getD k (0, 0)).2 = y1 at c1
      go_wp2
      go_roundw
      case rel => exact ⟨k + 1, by omega, by go_num, by simpa using HO2.out, (HB2.out.setCell (Nat.le_refl _) _).setCell (Nat.le_refl _) _⟩
      case measure => simp [intOf]; omega
    · obtain rfl : k = xs.length := by omega
      rw [gspart_all] at hown
      go_wp2
      go_ret
      exact ⟨_, rfl, hown, hbel⟩
end Go.Proofs.Ytdlkilacnnjglaa
