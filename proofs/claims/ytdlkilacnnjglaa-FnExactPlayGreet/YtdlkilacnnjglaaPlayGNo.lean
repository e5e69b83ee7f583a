/-
  PlayGreet, of both, of too many steps: nothing is played.
  The law FnExactPlayGreet answers true at any steps.
-/
import Derived.Test.YtdlkilacnnjglaaIPlayG
import Derived.Test.YtdlkilacnnjglaaPlayGreetLaw
import Derived.Test.YtdlkilacnnjglaaBoOwnS
import Derived.Test.YtdlkilacnnjglaaSPlayG
namespace Go.Proofs.Ytdlkilacnnjglaa
open Go.RowKit Go.Sort

theorem plTells_zero (w w' : World) (hb : Below w.heap.size w w') : PlTells w w' (.agg #[.int .i64 0, .int .i64 0, .int .i64 0, .int .i64 0, .int .i64 0, .int .i64 0, .int .i64 0, .int .i64 0, .slice none 0 0, .slice none 0 0, .slice none 0 0]) (.slice none 0 0) zeroG [] :=
  ⟨_, _, _, rfl, rowsU_bare _ _, boowns_nil _ _, fun g h => (by cases h), hb⟩
set_option maxRecDepth 100000 in
theorem iplayGr_no (v : Value) (xs : List (Int × Int)) (w : World) (hr : GsReads w v xs) (hn : ¬ xs.length ≤ 120) :
    Calls Try.prog 28 #[v] w fun e w' => ∃ u s, e = .returned (.tuple #[u, s, .bool false]) ∧ PlTells w w' u s zeroG [] := by
  obtain ⟨va, vc, rfl, _, _⟩ := hr
  go_enter Try.func28, Try.ntmps28
  go_wp2
  exact bodyPost_ret (v := .tuple #[.agg #[.int .i64 0, .int .i64 0, .int .i64 0, .int .i64 0, .int .i64 0, .int .i64 0, .int .i64 0, .int .i64 0, .slice none 0 0, .slice none 0 0, .slice none 0 0], .slice none 0 0, .bool false]) (by simp [results, Try.results28, go_sem]) rfl ⟨_, _, rfl, plTells_zero _ _ ((Below.refl _ _).alloc (Nat.le_refl _) _)⟩
set_option maxRecDepth 100000 in
theorem splayGr_no (v : Value) (xs : List (Int × Int)) (w : World) (hr : GsReads w v xs) (hn : ¬ xs.length ≤ 120) :
    Calls Try.prog 26 #[v] w fun e w' => ∃ u s, e = .returned (.tuple #[u, s, .bool false]) ∧ PlTells w w' u s zeroG [] := by
  obtain ⟨va, vc, rfl, _, _⟩ := hr
  go_enter Try.func26, Try.ntmps26
  go_wp2
  exact bodyPost_ret (v := .tuple #[.agg #[.int .i64 0, .int .i64 0, .int .i64 0, .int .i64 0, .int .i64 0, .int .i64 0, .int .i64 0, .int .i64 0, .slice none 0 0, .slice none 0 0, .slice none 0 0], .slice none 0 0, .bool false]) (by simp [results, Try.results26, go_sem]) rfl ⟨_, _, rfl, plTells_zero _ _ ((Below.refl _ _).alloc (Nat.le_refl _) _)⟩
end Go.Proofs.Ytdlkilacnnjglaa
namespace Go.Proofs.Ytdlkilacnnjglaa
open Go.RowKit

theorem FnExactPlayGreet_walk (a0 : Option Addr) (len0 cap0 : Nat) (D0 : List GsEl) (w : World) (h0 : GsArg w a0 len0 cap0 D0) :
    Calls Try.prog 7 #[.slice a0 len0 cap0] w fun e w' => e = .returned (.bool true) ∧ Below w.heap.size w w' := by
  by_cases hn : D0.length ≤ 120
  · have hg := playG_good D0 D0.length (by omega)
    have hl := playG_len D0 D0.length
    refine FnExactPlayGreet_law a0 len0 cap0 D0 w h0 (playG D0 D0.length).1 ?_ (playG D0 D0.length).2 (by omega) true
      (fun v w r => (splayGr_any v D0 w r hn).mono fun _ _ ⟨u, s, e, p⟩ => ?_) (fun v w r => (iplayGr_any v D0 w r hn).mono fun _ _ ⟨u, s, e, p⟩ => ?_)
    · have h8 := hg.1.n8
      have h9 := hg.1.n9
      have h10 := hg.1.n10
      unfold grTot
      omega
    · obtain ⟨S0, S1, h⟩ := plTells_own p (by omega)
      exact ⟨u, s, S0, S1, e, h⟩
    · obtain ⟨S0, S1, h⟩ := plTells_own p (by omega)
      exact ⟨u, s, S0, S1, e, h⟩
  · refine FnExactPlayGreet_law a0 len0 cap0 D0 w h0 zeroG (by decide) [] (by decide) false
      (fun v w r => (splayGr_no v D0 w r hn).mono fun _ _ ⟨u, s, e, p⟩ => ?_) (fun v w r => (iplayGr_no v D0 w r hn).mono fun _ _ ⟨u, s, e, p⟩ => ?_)
    · obtain ⟨S0, S1, h⟩ := plTells_own p (by decide)
      exact ⟨u, s, S0, S1, e, h⟩
    · obtain ⟨S0, S1, h⟩ := plTells_own p (by decide)
      exact ⟨u, s, S0, S1, e, h⟩
end Go.Proofs.Ytdlkilacnnjglaa
