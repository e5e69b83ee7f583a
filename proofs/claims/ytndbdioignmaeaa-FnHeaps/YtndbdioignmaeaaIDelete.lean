/-
  slices.Delete over work, the last one: what is left, and a cleared place behind it. Nothing else is written.
-/
import Derived.Test.YtndbdioignmaeaaISwap
import Derived.Test.YtndbdioignmaeaaHeapLaws
import Derived.Test.YtndbdioignmaeaaKWorkApp
import Derived.Lib.SliceRun
namespace Go.Proofs.Ytndbdioignmaeaa
open Go.RowKit

theorem setCells3 (w : World) (g o : Nat) (a b c : Value) : w.setCells g o [a, b, c] = ((w.setCell ⟨g, o, none⟩ a).setCell ⟨g, o + 1, none⟩ b).setCell ⟨g, o + 2, none⟩ c := rfl
theorem run_clear_one (w : World) (ty : TypeId) (g o c : Nat) (x : WkEl) (hc : WkCells w g o x) (hf : WkFree w g o) :
    (Builtin.clear_ #[87] ty #[.slice (some ⟨g, o, none⟩) 1 c]).run Try.prog w = .ok (.tuple #[]) (put3 w g o (0, 0, 0)) := by
  obtain ⟨i0, hi, hz0, hz1, hz2⟩ := info_parts info_work
  have hzv : ∀ w : World, (zeroValue 48).run Try.prog w = .ok (.agg #[.int .i64 0, .int .i64 0, .int .i64 0]) w := fun w => by simp [zeroValue, typeInfo, hi, hz0]
  have hst := run_storeCells_cells (P := Try.prog) g o [.int .i64 0, .int .i64 0, .int .i64 0] 0 w (by
      intro j hj
      rcases (by simp at hj; omega : j = 0 ∨ j = 1 ∨ j = 2) with rfl | rfl | rfl
      · have := hc.1; simp [this]
      · have := hc.2.1; simp [this]
      · have := hc.2.2; simp [this]) (by
      intro j hj
      rcases (by simp at hj; omega : j = 0 ∨ j = 1 ∨ j = 2) with rfl | rfl | rfl
      · exact hf.1
      · exact hf.2.1
      · exact hf.2.2) (by intro v hv; simp at hv; subst hv; rfl)
  simp only [Nat.add_zero, setCells3] at hst
  have hzc : (Builtin.zeroCells (Value.agg #[.int .i64 0, .int .i64 0, .int .i64 0]).cells 1).toList = [.int .i64 0, .int .i64 0, .int .i64 0] := by kernel_rfl
  simp [Builtin.clear_, run_underlying Try.underlying87, hzv, hzc, hst]
theorem nothing_runL {w : World} {i0 : TypeInfo} (hi : Try.prog.info? 48 = some i0) (hsz : i0.size = 3) (ty : TypeId) (ao : Option Addr) (n c : Nat) (hle : n ≤ c) (a : Option Addr) (cy : Nat) :
    (Builtin.append_ #[87, 87] ty #[.slice ao n c, .slice a 0 cy]).run Try.prog w = .ok (.slice ao n c) w := by
  refine run_append_nothing _ _ _ _ _ i0 Try.underlying87 hi _ _ _ hle _ ?_
  rw [hsz]
  cases a with
  | none => exact Src.ofNil _ Try.underlying87 cy
  | some a => exact Src.ofSlice _ Try.underlying87 a 0 cy [] rfl (by intro j u h; simp at h) (by intro u h; simp at h)
theorem WkOwn.cut {g n m cap : Nat} {w : World} {xs : List WkEl} (h : WkOwn g (g + 1) w (.slice (some ⟨g, 0, none⟩) n cap) xs) (hn : xs.length = n) (hm : m < n) (x : WkEl) : WkOwn g (g + 1) (put3 w g (m * 3) x) (.slice (some ⟨g, 0, none⟩) m cap) (xs.take m) := by
  have s := WkOwn.set (xs := xs) (by rw [hn]; exact h) m x (by omega)
  obtain ⟨hl, s1⟩ := s.1
  rw [List.length_set] at hl
  rcases s1 with ⟨a, c, e, e2⟩ | ⟨g', c, e, hg, hf⟩
  · have := congrArg List.length e2
    rw [List.length_set, List.length_nil] at this
    omega
  · rw [List.length_set] at e hg hf
    cases e
    have hlt : (xs.take m).length = m := by rw [List.length_take]; omega
    refine ⟨by omega, .inr ⟨g, cap, by rw [hlt], by omega, ?_⟩⟩
    intro i hi
    rw [hlt] at hi
    have := hf i (by omega)
    rw [show (xs.take m).getD i (0, 0, 0) = (xs.set m x).getD i (0, 0, 0) by
      rw [show (xs.take m).getD i (0, 0, 0) = (xs.take m).getD i wz from rfl, getD_take _ _ _ hi, show (xs.set m x).getD i (0, 0, 0) = (xs.set m x).getD i wz from rfl, getD_set _ _ _ _ (by omega), if_neg (by omega)]]
    exact this
theorem WkOwn.cap {g n cap : Nat} {w : World} {xs : List WkEl} (h : WkOwn g (g + 1) w (.slice (some ⟨g, 0, none⟩) n cap) xs) (h0 : 0 < n) : n ≤ cap := by
  rcases h.2 with ⟨a, c, e, e2⟩ | ⟨g', c, e, hg, hf⟩
  · cases e; omega
  · cases e; exact hg.2.2

set_option maxHeartbeats 2000000 in
set_option linter.unusedSimpArgs false in
set_option maxRecDepth 100000 in
theorem delete_last (g n m cap : Nat) (xs : List WkEl) (w : World) (ho : WkOwn g (g + 1) w (.slice (some ⟨g, 0, none⟩) n cap) xs) (hn : xs.length = n) (hm : n = m + 1) (hx : n ≤ 1048576) :
    Calls Try.prog 104 #[.slice (some ⟨g, 0, none⟩) n cap, .int .i64 m, .int .i64 n] w fun e w' => e = .returned (.slice (some ⟨g, 0, none⟩) m cap) ∧ WkOwn g (g + 1) w' (.slice (some ⟨g, 0, none⟩) m cap) (xs.take m) ∧ But (fun k => k = g) w w' := by
  obtain ⟨i0, hi, hz0, hz1, hz2⟩ := info_parts info_work
  have hcap : n ≤ cap := ho.cap (by omega)
  have HC := hid (ho.cut hn (m := m) (by omega) (0, 0, 0))
  have hcm : WkCells w g (m * 3) (xs.getD m (0, 0, 0)) ∧ WkFree w g (m * 3) := by
    obtain ⟨_, _, e, _, hc⟩ := ho.form m (by omega)
    cases e
    exact hc m (by omega)
  have hcl : ∀ ty c, (Builtin.clear_ #[87] ty #[.slice (some ⟨g, m * 3, none⟩) (n - m) c]).run Try.prog w.drew = .ok (.tuple #[]) (put3 w.drew g (m * 3) (0, 0, 0)) := fun ty c => by rw [show n - m = 1 by omega]; exact run_clear_one w.drew ty g (m * 3) c _ hcm.1 hcm.2
  have hne : ((m : Int) == (n : Int)) = false := by simp; omega
  have h1 : (0 : Int) ≤ m := by omega
  have h2 : (m : Int) ≤ n := by omega
  have h3 : (n : Int) ≤ cap := by omega
  have h4 : m < n := by omega
  have h5 : m ≤ cap := by omega
  have h6 : (m : Int) ≤ cap := by omega
  have h7 : ¬ cap < m := by omega
  clear ho hn hcm hm
  by_cases hcn : cap = n
  case' pos => subst hcn
  all_goals
    go_enter Try.func104, Try.ntmps104
    go_wp2_with fail
    go_region
    go_wp2
    go_ret
    exact ⟨rfl, HC.out.below (Below.refl _ _).drew, (but_put3 (P := fun k => k = g) (But.refl _ _) rfl _ _).drew⟩
end Go.Proofs.Ytndbdioignmaeaa
