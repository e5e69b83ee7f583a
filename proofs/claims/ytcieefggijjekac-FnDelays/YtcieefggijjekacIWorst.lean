/-
  impl.WorstDelay: the greatest delay of a flow whose out is told. Nothing old is written.
-/
import Derived.Test.YtcieefggijjekacISums
import Derived.Test.YtcieefggijjekacIFlow7
namespace Go.Proofs.Ytcieefggijjekac
open Go.RowKit

theorem max7w_run (p q : Int) : ∀ (ts : Array TypeId) (ty : TypeId) (w : World), (Builtin.max_ ts ty #[.int .i64 p, .int .i64 q]).run Try.prog w = .ok (.int .i64 (mx7 p q)) w := fun ts ty w => by simp [Builtin.max_, Builtin.max2, mx7]
set_option maxHeartbeats 4000000 in
theorem iworst_no (v u : Value) (xs ys : List Int) (w : World) (hr : KReads w v xs) (hu : KReads w u ys) (hn : delF xs ys = false) :
    Calls Try.prog 25 #[v, u] w fun e w' => e = .returned (.tuple #[.int .i64 0, .bool false]) ∧ Below w.heap.size w w' := by
  have HR := hid hr
  have HU := hid hu
  obtain ⟨b, hb⟩ : ∃ b, flowB xs = b := ⟨_, rfl⟩
  have HF := hid hb
  have HN : Hid (b = true → outAll xs ys = false) := fun e => by rw [← delF_of (by rw [hb]; exact e)]; exact hn
  clear hr hu hb hn
  cases b
  · go_enter Try.func25, Try.ntmps25
    go_wp2_with fail
    refine (iflow_eq _ xs false HF.out _ HR.out).mono ?_
    rintro e w' ⟨rfl, hw⟩; obtain rfl := hw.symm
    go_wp2
    go_ret2
    exact ⟨rfl, Below.refl _ _⟩
  · have HO := hid (HN.out rfl)
    go_enter Try.func25, Try.ntmps25
    go_wp2_with fail
    refine (iflow_eq _ xs true HF.out _ HR.out).mono ?_
    rintro e w' ⟨rfl, hw⟩; obtain rfl := hw.symm
    go_wp2_with fail
    refine (igoodOut_eq _ _ xs ys false HO.out _ HR.out HU.out HF.out).mono ?_
    rintro e w' ⟨rfl, hw⟩; obtain rfl := hw.symm
    go_wp2
    go_ret2
    exact ⟨rfl, Below.refl _ _⟩
/-- So far no tick from t on has enough gone. -/
def Short (f o : Nat → Int) (t u : Nat) : Prop := ∀ i, t ≤ i → i < u → psum o (i + 1) < psum f (t + 1)
set_option maxRecDepth 100000 in
set_option maxHeartbeats 8000000 in
theorem iworst_yes (v u : Value) (xs ys : List Int) (w : World) (hr : KReads w v xs) (hu : KReads w u ys) (hy : delF xs ys = true) :
    Calls Try.prog 25 #[v, u] w fun e w' => e = .returned (.tuple #[.int .i64 (wstU (fl xs) (fl ys) xs.length xs.length), .bool true]) ∧ Below w.heap.size w w' := by
  have HR := hid hr
  have HU := hid hu
  have hf : flowB xs = true := by
    cases h : flowB xs with
    | true => rfl
    | false => rw [delF_no h] at hy; cases hy
  have HF := hid hf
  have hlen := flowB_len hf
  rw [delF_of hf] at hy
  have HO := hid hy
  obtain ⟨hnn, hl, hgo⟩ := outAll_in hy
  have HNN := hid hnn
  have HL := hid hl
  have HGO := hid hgo
  have HPX : Hid (∀ k, k ≤ xs.length → 0 ≤ psum (fl xs) k ∧ psum (fl xs) k ≤ 2400) := fun k hk => by
    have := psum_in (f := fl xs) (b := 60) (flowB_in hf) k
    omega
  have HPY : Hid (∀ k, k ≤ xs.length → 0 ≤ psum (fl ys) k ∧ psum (fl ys) k ≤ 2400) := fun k hk => by
    have h1 := psum_mono (f := fl ys) hnn (a := 0) k (Nat.zero_le _)
    have h0 : psum (fl ys) 0 = 0 := rfl
    have h2 := HPX.out k hk
    refine ⟨by omega, ?_⟩
    by_cases e : k = 0
    · rw [e, h0]; omega
    · have h3 := hgo (k - 1) (by omega)
      rw [show k - 1 + 1 = k by omega] at h3
      omega
  have hly : ys.length ≤ 40 := by omega
  clear hr hu hf hy hnn hl hgo
  go_enter Try.func25, Try.ntmps25
  go_wp2_with fail
  refine (iflow_eq _ xs true HF.out _ HR.out).mono ?_
  rintro e w' ⟨rfl, hw⟩; obtain rfl := hw.symm
  go_wp2_with fail
  refine (igoodOut_eq _ _ xs ys true HO.out _ HR.out HU.out HF.out).mono ?_
  rintro e w' ⟨rfl, hw⟩; obtain rfl := hw.symm
  go_wp2_with fail
  refine (isums_any _ xs _ HR.out hlen HPX.out).mono ?_
  rintro e w1 ⟨rfl, zs, r1, z1, b1⟩
  have R1 := hid r1
  have Z1 := hid z1
  have B1 := hid b1
  have hg1 := r1.caps.2.2
  clear r1 z1 b1
  go_wp2_with fail
  refine (isums_any _ ys _ (HU.out.below B1.out) hly (by rw [HL.out]; exact HPY.out)).mono ?_
  rintro e w2 ⟨rfl, us, r2, z2, b2⟩
  rw [HL.out] at r2 z2 ⊢
  have R2 := hid r2
  have Z2 := hid z2
  have R1' : Hid (IRow w2 w.heap.size xs.length xs.length zs) := R1.out.whole b2
  have B2 : Hid (Below w.heap.size w w2) := B1.out.trans (b2.mono B1.out.size)
  clear r2 z2 b2 R1
  go_wp2
  go_loopw [8, 27] (fun mv iv wr => ∃ k : Nat, k ≤ xs.length ∧ iv = .int .i64 k ∧ mv = .int .i64 (wstU (fl xs) (fl ys) xs.length k) ∧ w2 = wr) (fun _ iv _ => xs.length - (intOf iv).toNat)
  case atStart => exact ⟨0, Nat.zero_le _, rfl, rfl, rfl⟩
  case round =>
    obtain ⟨k, hk, rfl, rfl, rfl⟩ := hrel
    by_cases hlt : k < xs.length
    · have hwst := wstU_at (fl xs) (fl ys) (n := xs.length) k hk
      have HWS : Hid (wstU (fl xs) (fl ys) xs.length (k + 1) = if wstU (fl xs) (fl ys) xs.length k > dly (fl xs) (fl ys) xs.length k then wstU (fl xs) (fl ys) xs.length k else dly (fl xs) (fl ys) xs.length k) := rfl
      have HUN := hid (fun (j : Nat) (h1 : k ≤ j) (h2 : j ≤ xs.length) (h3 : Short (fl xs) (fl ys) k j) (h4 : j = xs.length ∨ psum (fl xs) (k + 1) ≤ psum (fl ys) (j + 1)) => (until_is (f := fl xs) (o := fl ys) (n := xs.length) (t := k) (u := j) HNN.out h1 h2 h3 h4 hwst.1).trans HWS.out.symm)
      obtain ⟨m, hm⟩ : ∃ m, m = wstU (fl xs) (fl ys) xs.length k := ⟨_, rfl⟩
      rw [← hm] at hwst HUN ⊢
      obtain ⟨c, hc⟩ : ∃ c, c = psum (fl xs) (k + 1) := ⟨_, rfl⟩
      have HC := hid hc
      have cc : w2.cell? ⟨w.heap.size, k, none⟩ = some (.int .i64 c) := by
        rw [hc, ← Z1.out k hlt]
        exact R1'.out.cell hlt
      have n0 : (0 : Int) ≤ (k : Int) := by omega
      have n1 : (k : Int) < (xs.length : Int) := by omega
      clear hm hc HWS
      go_wp2
      go_loopw [11] (fun uv wr => ∃ j : Nat, (k ≤ j ∧ j ≤ xs.length) ∧ uv = .int .i64 j ∧ Short (fl xs) (fl ys) k j ∧ w2 = wr) (fun uv _ => xs.length - (intOf uv).toNat)
      case atStart => exact ⟨k, ⟨Nat.le_refl _, hk⟩, rfl, fun i h1 h2 => absurd h1 (by omega), rfl⟩
      case round =>
        obtain ⟨j, ⟨hkj, hjn⟩, rfl, hsh, rfl⟩ := hrel
        have HSh := hid hsh
        clear hsh
        have hw1 : IntKind.i64.wrap ((j : Int) - (k : Int)) = (j : Int) - (k : Int) := by rw [IntKind.wrap_i64]; omega
        by_cases hjl : j < xs.length
        · obtain ⟨y, hy⟩ : ∃ y, y = psum (fl ys) (j + 1) := ⟨_, rfl⟩
          have HY := hid hy
          have cy : w2.cell? ⟨w1.heap.size, j, none⟩ = some (.int .i64 y) := by
            rw [hy, ← Z2.out j hjl]
            exact R2.out.cell hjl
          have m0 : (0 : Int) ≤ (j : Int) := by omega
          have m1 : (j : Int) < (xs.length : Int) := by omega
          have dj : decide ((j : Int) < (xs.length : Int)) = true := by rw [decide_eq_true_eq]; exact m1
          clear hy
          by_cases hyc : y < c
          · have dy : decide (y < c) = true := by simpa using hyc
            have HN : Hid (Short (fl xs) (fl ys) k (j + 1)) := fun i h1 h2 => by
              by_cases e : i = j
              · rw [e, ← HY.out, ← HC.out]; exact hyc
              · exact HSh.out i h1 (by omega)
            go_wp2
            go_roundw
            case rel => exact ⟨j + 1, ⟨by omega, by omega⟩, by go_num, HN.out, by first | rfl | trivial⟩
            case measure => simp [intOf]; omega
          · have dy : decide (y < c) = false := by simpa using hyc
            have hmax := max7w_run m ((j : Int) - (k : Int))
            obtain ⟨m2, hm2⟩ : ∃ m2, m2 = mx7 m ((j : Int) - (k : Int)) := ⟨_, rfl⟩
            have HM2 : Hid (wstU (fl xs) (fl ys) xs.length (k + 1) = m2) := by
              show _ = _
              rw [hm2]
              exact (HUN.out j hkj hjn HSh.out (.inr (by rw [← HC.out, ← HY.out]; omega))).symm
            rw [← hm2] at hmax
            clear hm2 HUN
            go_wp2
            go_roundw
            case rel => exact ⟨k + 1, by omega, by go_num, by rw [HM2.out], by first | rfl | trivial⟩
            case measure => simp [intOf]; omega
        · obtain rfl : j = xs.length := by omega
          have dj : decide ((xs.length : Int) < (xs.length : Int)) = false := by rw [decide_eq_false_iff_not]; omega
          have hmax := max7w_run m ((xs.length : Int) - (k : Int))
          obtain ⟨m2, hm2⟩ : ∃ m2, m2 = mx7 m ((xs.length : Int) - (k : Int)) := ⟨_, rfl⟩
          have HM2 : Hid (wstU (fl xs) (fl ys) xs.length (k + 1) = m2) := by
            show _ = _
            rw [hm2]
            exact (HUN.out xs.length hkj hjn HSh.out (.inl rfl)).symm
          rw [← hm2] at hmax
          clear hm2 HUN
          go_wp2
          go_roundw
          case rel => exact ⟨k + 1, by omega, by go_num, by rw [HM2.out], by first | rfl | trivial⟩
          case measure => simp [intOf]; omega
    · obtain rfl : k = xs.length := by omega
      go_wp2
      go_ret2
      exact ⟨rfl, B2.out⟩
theorem iworst_eq (v u : Value) (xs ys : List Int) (w : World) (hr : KReads w v xs) (hu : KReads w u ys) :
    Calls Try.prog 25 #[v, u] w fun e w' => e = .returned (.tuple #[.int .i64 (delG xs ys), .bool (delF xs ys)]) ∧ Below w.heap.size w w' := by
  cases h : delF xs ys with
  | false => rw [delG_no h]; exact iworst_no v u xs ys w hr hu h
  | true => rw [delG_yes h]; exact iworst_yes v u xs ys w hr hu h
end Go.Proofs.Ytcieefggijjekac
