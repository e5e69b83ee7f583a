/-
  spec.l1Most, spec.LatenessOf: the greatest lateness of an order. Nothing old is written.
-/
import Derived.Test.YtpkngcamaahhdabSDone
import Derived.Test.YtpkngcamaahhdabSOrd
import Derived.Deep.RegionHeld3
namespace Go.Proofs.Ytpkngcamaahhdab
open Go.RowKit

theorem l1Most_eq (a b r : Int) (h : (if a > b then a else b) = r) (w : World) : Calls Try.prog 64 #[.int .i64 a, .int .i64 b] w fun e w' => e = .returned (.int .i64 r) ∧ w' = w := by
  by_cases hc : a > b
  · have hr : Hid (r = a) := by show _ = _; rw [if_pos hc] at h; exact h.symm
    clear h
    go_enter Try.func64, Try.ntmps64
    go_wp2
    go_ret
    exact ⟨by rw [hr.out]; rfl, rfl⟩
  · have hr : Hid (r = b) := by show _ = _; rw [if_neg hc] at h; exact h.symm
    clear h
    go_enter Try.func64, Try.ntmps64
    go_wp2
    go_ret
    exact ⟨by rw [hr.out]; rfl, rfl⟩
/-- How much task k is done behind its end. -/
def latF (xs : List TkEl) (os : List Nat) (k : Nat) : Int := doneAt (needT xs) 0 os k - endT xs k
def latN (xs : List TkEl) (os : List Nat) : Int := if xs.length = 0 then 0 else mostU (latF xs os) xs.length
theorem latF_in {xs : List TkEl} (hg : goodT xs = true) {os : List Nat} (ho : os.Perm (List.range xs.length)) {k : Nat} (hk : k < xs.length) : -200 ≤ latF xs os k ∧ latF xs os k ≤ 200 := by
  have h1 := doneAt_in hg ho k
  have h2 := goodT_at hg k hk
  unfold latF
  omega
theorem mostU_succ (f : Nat → Int) (k : Nat) : mostU f (k + 1) = if mostU f k > f k then mostU f k else f k := rfl
theorem length_doneL' (xs : List TkEl) (os : List Nat) : (doneL xs os).length = xs.length := by simp [doneL]
theorem doneL_get' {xs : List TkEl} {os : List Nat} {k : Nat} (h : k < xs.length) : (doneL xs os).getD k 0 = doneAt (needT xs) 0 os k := by simp [doneL, List.getD_eq_getElem?_getD, h]
set_option maxHeartbeats 1000000 in
theorem slaten_no (v vo : Value) (xs : List TkEl) (ys : List Int) (w : World) (hr : TkReads w v xs) (hs : KReads w vo ys) (hn : (goodT xs && ordB xs.length ys) = false) :
    Calls Try.prog 28 #[v, vo] w fun e w' => e = .returned (.tuple #[.int .i64 0, .bool false]) ∧ Below w.heap.size w w' := by
  have HR := hid hr
  have HS := hid hs
  clear hr hs
  go_enter Try.func28, Try.ntmps28
  go_wp2_with fail
  refine (l5Both_eq _ _ xs ys false hn _ HR.out HS.out).mono ?_
  rintro e w1 ⟨rfl, b1⟩
  have B1 := hid b1
  clear b1
  go_wp2
  go_ret2
  exact ⟨rfl, B1.out⟩
set_option maxRecDepth 100000 in
set_option maxHeartbeats 8000000 in
theorem slaten_yes (v vo : Value) (xs : List TkEl) (os : List Nat) (w : World) (hr : TkReads w v xs) (hs : KReads w vo (ofN os)) (hg : goodT xs = true) (ho : os.Perm (List.range xs.length)) :
    Calls Try.prog 28 #[v, vo] w fun e w' => e = .returned (.tuple #[.int .i64 (latN xs os), .bool true]) ∧ Below w.heap.size w w' := by
  have HR := hid hr
  have HS := hid hs
  have HG := hid hg
  have HP := hid ho
  have hlen := goodT_len hg
  have hn : (goodT xs && ordB xs.length (ofN os)) = true := by rw [hg, Bool.true_and]; exact ordB_map ho
  obtain ⟨a, cap, rfl, _, _⟩ := hr
  clear hg ho hs
  by_cases h0 : xs.length = 0
  · obtain rfl := List.eq_nil_of_length_eq_zero h0
    have HV : Hid (latN [] os = 0) := rfl
    have HE := hid hn
    simp only [List.length_nil] at HR ⊢
    clear hn h0 hlen
    go_enter Try.func28, Try.ntmps28
    go_wp2_with fail
    refine (l5Both_eq _ _ [] (ofN os) true HE.out _ HR.out HS.out).mono ?_
    rintro e w1 ⟨rfl, b1⟩
    have B1 := hid b1
    clear b1
    go_wp2
    go_ret2
    exact ⟨by rw [HV.out]; rfl, B1.out⟩
  · have HV : Hid (latN xs os = mostU (latF xs os) xs.length) := by show _ = _; unfold latN; rw [if_neg h0]
    have hpos : 0 < xs.length := by omega
    clear h0
    go_enter Try.func28, Try.ntmps28
    go_wp2_with fail
    refine (l5Both_eq _ _ xs (ofN os) true hn _ HR.out HS.out).mono ?_
    rintro e w1 ⟨rfl, b1⟩
    have B1 := hid b1
    clear b1 hn
    go_wp2_with fail
    refine (sdone_any _ _ xs os _ (HR.out.below B1.out) (HS.out.below B1.out) HG.out HP.out).mono ?_
    rintro e w2 ⟨u, rfl, hown, hb2⟩
    have HLD := hid (length_doneL' xs os)
    have HO := hid hown.reads
    have B2 : Hid (Below w.heap.size w w2) := B1.out.trans (hb2.mono B1.out.size)
    clear hown hb2
    obtain ⟨g1, o1, cap1, e1, hd⟩ := HO.out.cells 0 (by rw [HLD.out]; exact hpos)
    rw [HLD.out] at e1
    subst e1
    have HD : Hid (∀ k, k < xs.length → w2.cell? ⟨g1, o1 + k, none⟩ = some (.int .i64 (doneAt (needT xs) 0 os k))) := fun k hk => by
      have := hd k (by rw [HLD.out]; exact hk)
      rw [doneL_get' hk] at this
      exact this
    obtain ⟨g, o, cap', e, hc⟩ := (HR.out.below B2.out).cells 0 hpos
    cases e
    have HC : Hid (∀ k, k < xs.length → w2.cell? ⟨g, o + k * 2, none⟩ = some (.int .i64 (needT xs k)) ∧ w2.cell? ⟨g, o + k * 2 + 1, none⟩ = some (.int .i64 (endT xs k))) := fun k hk => hc k hk
    clear hd hc
    have d0 := HD.out 0 hpos
    have c0 := (HC.out 0 hpos).2
    have hin0 := latF_in HG.out HP.out hpos
    obtain ⟨f0, hf0⟩ : ∃ f0, f0 = latF xs os 0 := ⟨_, rfl⟩
    have HM0 : Hid (mostU (latF xs os) 0 = f0) := by show _ = _; rw [hf0]; rfl
    obtain ⟨t0, ht0⟩ : ∃ t, t = doneAt (needT xs) 0 os 0 := ⟨_, rfl⟩
    obtain ⟨q0, hq0⟩ : ∃ q, q = endT xs 0 := ⟨_, rfl⟩
    have hw0 : IntKind.i64.wrap (t0 - q0) = f0 := by
      rw [IntKind.wrap_i64]
      rw [hf0]
      rw [← hf0] at hin0 ⊢
      have : f0 = t0 - q0 := by rw [hf0, ht0, hq0]; rfl
      omega
    rw [← ht0] at d0
    rw [← hq0] at c0
    simp only [Nat.zero_mul, Nat.add_zero] at c0 d0
    have ng1 : g1 < w2.heap.size := lt_of_cell d0
    have ng : g < w2.heap.size := lt_of_cell c0
    clear hf0 ht0 hq0 hin0
    go_wp2_with fail
    go_big_region
    go_wp2
    go_loopw [7, 30] (fun m i wr => ∃ k : Nat, k ≤ xs.length ∧ i = .int .i64 k ∧ m = .int .i64 (mostU (latF xs os) k) ∧ Below w2.heap.size w2 wr) (fun _ i _ => xs.length - (intOf i).toNat)
    case atStart => exact ⟨0, Nat.zero_le _, rfl, by rw [HM0.out], (Below.refl _ _).drew⟩
    case round =>
      obtain ⟨k, hk, rfl, rfl, hbel⟩ := hrel
      have HB := hid hbel
      clear hbel
      by_cases hlt : k < xs.length
      · have d1 := (HB.out.cell (p := ⟨g1, o1 + k, none⟩) ng1).trans (HD.out k hlt)
        have c1 := (HB.out.cell (p := ⟨g, o + k * 2, none⟩) ng).trans (HC.out k hlt).1
        have c2 := (HB.out.cell (p := ⟨g, o + k * 2 + 1, none⟩) ng).trans (HC.out k hlt).2
        have hin := latF_in HG.out HP.out hlt
        have HMS := hid (mostU_succ (latF xs os) k)
        obtain ⟨f, hf⟩ : ∃ f, f = latF xs os k := ⟨_, rfl⟩
        obtain ⟨t, ht⟩ : ∃ t, t = doneAt (needT xs) 0 os k := ⟨_, rfl⟩
        obtain ⟨p, hp⟩ : ∃ p, p = needT xs k := ⟨_, rfl⟩
        obtain ⟨q, hq⟩ : ∃ q, q = endT xs k := ⟨_, rfl⟩
        have hw1 : IntKind.i64.wrap (t - q) = f := by
          have : f = t - q := by rw [hf, ht, hq]; rfl
          rw [← hf] at hin
          rw [IntKind.wrap_i64]
          omega
        rw [← ht] at d1
        rw [← hp] at c1
        rw [← hq] at c2
        rw [← hf] at HMS
        obtain ⟨m, hm⟩ : ∃ m, m = mostU (latF xs os) k := ⟨_, rfl⟩
        rw [← hm] at HMS ⊢
        have hsz := HB.out.size
        have ng1' : g1 < wr.heap.size := by omega
        have ng' : g < wr.heap.size := by omega
        have n0 : (0 : Int) ≤ (k : Int) := by omega
        have n1 : (k : Int) < (xs.length : Int) := by omega
        obtain ⟨r, hr⟩ : ∃ r, (if m > f then m else f) = r := ⟨_, rfl⟩
        have HMR : Hid (mostU (latF xs os) (k + 1) = r) := by show _ = _; rw [HMS.out, hr]
        have HRR := hid hr
        clear hf ht hp hq hm hin hr HMS
        go_wp2_with fail
        go_region_held3 (fun w' => w'.cell? ⟨g1, o1 + k, none⟩ = some (.int .i64 t) ∧ w'.cell? ⟨wr.heap.size, 1, none⟩ = some (.int .i64 q)) (go_keep)
          (first | (go_at_call 64; refine (l1Most_eq m f r HRR.out _).mono ?_; rintro e w' ⟨rfl, hw⟩; obtain rfl := hw.symm))
        go_wp2
        go_roundw
        case rel => exact ⟨k + 1, by omega, by go_num, by rw [HMR.out], (HB.out.alloc HB.out.size _).drew⟩
        case measure => simp [intOf]; omega
      · obtain rfl : k = xs.length := by omega
        go_wp2
        go_ret2
        exact ⟨by rw [HV.out]; rfl, B2.out.trans (HB.out.mono B2.out.size)⟩
end Go.Proofs.Ytpkngcamaahhdab
