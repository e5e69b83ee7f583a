/-
  spec.l3Make: a heap of any list, and how many steps that took, in memory of its own. Nothing old is written.
-/
import Derived.Test.YtndbdioignmaeaaSDown
import Derived.Test.YtndbdioignmaeaaKWorkApp
namespace Go.Proofs.Ytndbdioignmaeaa
open Go.RowKit

set_option maxHeartbeats 2000000 in
theorem l3Make_any (v : Value) (xs zs : List WkEl) (hzs : zs = xs) (w : World) (hr : WkReads w v xs) (hx : xs.length ≤ 40) :
    Calls Try.prog 90 #[v] w fun e w' => ∃ v', e = .returned (.tuple #[v', .int .i64 (makeL zs).2]) ∧ WkOwn w.heap.size w'.heap.size w' v' (makeL zs).1 ∧ Below w.heap.size w w' := by
  obtain ⟨i0, hi, hz0, hz1, hz2⟩ := info_parts info_work
  obtain ⟨a, ca, rfl, _, hxa⟩ := hr
  have hlz : zs.length = xs.length := by rw [hzs]
  have HZ := hid hzs
  clear hzs
  go_enter Try.func90, Try.ntmps90
  by_cases h0 : xs = []
  case' pos =>
    subst h0
    clear hxa
    cases a
    all_goals
      go_wp2_with (at_builtin; refine Lib.wpList_append_run_sl _ rfl _ _ 46 rfl _ _ rfl rfl (wknothing_run hi hz1 _ _ _ _ (Nat.le_refl _) _ _) ?_)
      go_rounds 1
      go_ret2
      exact ⟨_, by rw [HZ.out]; rfl, by rw [HZ.out]; exact wkown_nil _ _ _ _ _, (Below.refl _ _).alloc (Nat.le_refl _) _⟩
  case' neg =>
    obtain ⟨ga, oa, rfl, hca⟩ := hxa.resolve_left h0
    have hpos : 0 < xs.length := List.length_pos_iff.2 h0
    have hlt : ga < w.heap.size := (hca 0 hpos).lt
    have hfc := hid (wkflat_cells hca)
    clear hxa hca h0
    go_wp2_with (at_builtin; refine wpList_append_grows _ rfl _ _ 46 rfl 48 i0 (.agg #[.int .i64 0, .int .i64 0, .int .i64 0]) 3 24 Try.underlying46 hi hz0 hz1 hz2 rfl (by decide) (some ⟨w.heap.size, 0, none⟩) 0 0 [] rfl (by intro h; cases h) rfl (by intro b0 _ j u h; simp at h) ⟨ga, oa, none⟩ xs.length ca (wkflat xs) rfl (length_wkflat xs) ?c1 (wkflat_one xs) (by omega) (by unfold maxLen; omega) (by omega) ?_)
    case c1 =>
      intro j u hj
      have := hfc.out j u hj
      rw [show (⟨ga, oa, none⟩ : Addr).add j = ⟨ga, oa + j, none⟩ by rcases j with _ | j <;> simp [Addr.add]] at this ⊢
      rw [World.cell?_alloc_lt _ _ _ (by simpa using hlt)]
      exact this
    intro v1 w1 hown hgr
    have B1 : Hid (Below w.heap.size w w1) := ((Below.refl _ _).alloc (Nat.le_refl _) _).grown hgr (by simp) (by intro k hk; cases hk)
    have O1 : Hid (WkOwn w.heap.size w1.heap.size w1 v1 zs) := by show WkOwn _ _ _ _ _; rw [HZ.out]; exact WkOwn.of_owns (wkowns_mono hown (show w.heap.size ≤ _ by simp)) (by omega)
    obtain ⟨g, cap, rfl, _, _⟩ := O1.out.form 0 (by omega)
    clear hown hgr
    have hw0 : IntKind.i64.wrap ((xs.length : Int) / 2 - 1) = (xs.length : Int) / 2 - 1 := by rw [IntKind.wrap_i64]; omega
    rw [hlz]
    go_wp2
    go_loopw [5, 6] (fun s i wr => ∃ (j t : Nat) (l : List WkEl), i = .int .i64 ((j : Int) - 1) ∧ s = .int .i64 t ∧ j ≤ 20 ∧ t ≤ 40 * (20 - j) ∧ j ≤ xs.length / 2 ∧ l.length = xs.length ∧ makeL zs = makeF j l t ∧ WkOwn w.heap.size w1.heap.size wr (.slice (some ⟨g, 0, none⟩) xs.length cap) l ∧ Below w.heap.size w wr ∧ w1.heap.size ≤ wr.heap.size) (fun _ i _ => (intOf i + 1).toNat)
    case atStart =>
      refine ⟨xs.length / 2, 0, zs, congrArg (Value.int .i64) (by omega), rfl, by omega, by omega, Nat.le_refl _, hlz, by unfold makeL; rw [hlz], ?_, B1.out, Nat.le_refl _⟩
      have := O1.out
      rw [hlz] at this
      exact this
    case round =>
      obtain ⟨j, t, l, rfl, rfl, hj20, ht, hj2, hl, hmk, hown, hbel, hsz⟩ := hrel
      have HM := hid hmk
      have HO := hid hown
      have HB := hid hbel
      have HL := hid hl
      clear hmk hown hbel hl
      by_cases hj : 0 < j
      · obtain ⟨m, rfl⟩ : ∃ m, j = m + 1 := ⟨j - 1, by omega⟩
        have hz : ((m + 1 : Nat) : Int) - 1 = (m : Int) := by omega
        rw [hz]
        have hdm := downL_many l.length l m 0 (by rw [HL.out]; omega)
        rw [HL.out] at hdm
        have hds := downL_len l.length l m 0
        rw [HL.out] at hds
        obtain ⟨d, hd⟩ : ∃ d, d = (downL xs.length l m 0).2 := ⟨_, rfl⟩
        obtain ⟨l', hl'⟩ : ∃ l', l' = (downL xs.length l m 0).1 := ⟨_, rfl⟩
        have HD : Hid (∀ wq, WkOwn w.heap.size w1.heap.size wq (.slice (some ⟨g, 0, none⟩) xs.length cap) l → w.heap.size ≤ wq.heap.size → Calls Try.prog 85 #[.slice (some ⟨g, 0, none⟩) xs.length cap, .int .i64 m] wq fun e w' => e = .returned (.int .i64 d) ∧ WkOwn w.heap.size w1.heap.size w' (.slice (some ⟨g, 0, none⟩) xs.length cap) l' ∧ Below w.heap.size wq w') := fun wq ho hq => by
          have := l3Down_any w.heap.size w1.heap.size _ l m wq ho (by rw [HL.out]; omega) (by rw [HL.out]; omega) hq
          rw [HL.out, ← hd, ← hl'] at this
          exact this
        have HM2 : Hid (makeL zs = makeF m l' (t + d)) := by
          show _ = _
          rw [HM.out, makeF, HL.out, ← hd, ← hl']
        have hl2 : Hid (l'.length = xs.length) := by rw [hl']; exact hds
        rw [← hd] at hdm
        clear hd hl' hds hz
        go_wp2_with fail
        refine (HD.out _ HO.out (by have := HB.out.size; omega)).mono ?_
        rintro e w2 ⟨rfl, o2, b2⟩
        have O2 := hid o2
        have B2 : Hid (Below w.heap.size w w2) := HB.out.trans b2
        have hs2 : wr.heap.size ≤ w2.heap.size := b2.size
        clear o2 b2
        go_wp2
        go_roundw
        case rel => exact ⟨m, t + d, l', by go_num, by go_num, by omega, by omega, by omega, hl2.out, HM2.out, O2.out, B2.out, by omega⟩
        case measure => simp [intOf]
      · obtain rfl : j = 0 := by omega
        have hs : Hid (makeL zs = (l, t)) := by show _ = _; rw [HM.out]; rfl
        go_wp2
        go_ret2
        exact ⟨_, by rw [hs.out]; rfl, by rw [hs.out]; exact HO.out.mono (Nat.le_refl _) hsz, HB.out⟩
end Go.Proofs.Ytndbdioignmaeaa
