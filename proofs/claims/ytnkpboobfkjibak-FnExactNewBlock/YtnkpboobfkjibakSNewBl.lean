/-
  spec.l13New, spec.NewBlock: a block that has nothing. Nothing old is written.
-/
import Derived.Test.YtnkpboobfkjibakBlNew
import Derived.Test.YtnkpboobfkjibakSIn
namespace Go.Proofs.Ytnkpboobfkjibak
open Go.RowKit

set_option maxRecDepth 100000 in
set_option maxHeartbeats 4000000 in
theorem sl13New_any (z : Int) (l : Nat) (hl : l ≤ 100000) (w : World) :
    Calls Try.prog 44 #[.int .i64 z, .int .i64 (l : Nat)] w fun e w' => e = .returned (.agg #[.int .i64 z, .int .i64 (l : Nat), .string (zTxt l), .slice none 0 0]) ∧ Below w.heap.size w w' := by
  have mkU := run_make_row' (P := Try.prog) 87 5 (.int .u8 0) 1 Try.underlying87 info_u8 rfl .i64 .i64 l (by omega) (by omega)
  obtain ⟨V, hV⟩ : ∃ V, V = (w.alloc (.cells #[.int .i64 0, .int .i64 0, .string ⟨#[]⟩, .slice none 0 0] 37)) := ⟨_, rfl⟩
  have hs : V.heap.size = w.heap.size + 1 := by rw [hV]; simp
  have hcv := conv_zeros (V.alloc (.cells (madeCells #[.int .u8 0] l) 5)) (w.heap.size + 1) l (fun j hj => by rw [← hs, World.cell?_alloc_new]; exact made_u8 l j hj)
  rw [hV] at hcv
  clear hs hV
  go_enter Try.func44, Try.ntmps44
  go_wp2
  go_returns
  refine ⟨rfl, ?_⟩
  go_grown

set_option maxRecDepth 100000 in
set_option maxHeartbeats 4000000 in
theorem snewBl_any (z l : Int) (w : World) (D : BlD) (t : Bool) (hD : newBl z l = D) (ht : idB z l = t) :
    Calls Try.prog 19 #[.int .i64 z, .int .i64 l] w fun e w' => ∃ u, e = .returned (.tuple #[u, .bool t]) ∧ BlOwn (Iv w.heap.size w'.heap.size) w' u D ∧ Below w.heap.size w w' := by
  have Ht := hid ht
  have HD := hid hD
  clear ht hD
  go_enter Try.func19, Try.ntmps19
  go_wp2_with fail
  refine (sid13_eq z l t Ht.out _).mono ?_
  rintro e w' ⟨rfl, hw⟩; obtain rfl := hw.symm
  cases t
  · have HE : Hid (D = zeroBl) := by show _ = _; rw [← HD.out]; unfold newBl; rw [Ht.out]; rfl
    go_wp2
    refine bodyPost_ret (v := .tuple #[.agg #[.int .i64 0, .int .i64 0, .string ⟨#[]⟩, .slice none 0 0], .bool false]) (by simp [results, Try.results19, go_sem]) rfl ?_
    refine ⟨_, rfl, ?_, ?_⟩
    · rw [HE.out]; exact BlOwn.empty _ _ _ _ _
    · go_grown
  · have hl : 1 ≤ l ∧ l ≤ 40 := by have h := Ht.out; unfold idB at h; rw [Bool.and_eq_true, decide_eq_true_eq, decide_eq_true_eq] at h; exact h.2
    obtain ⟨n, rfl⟩ := Int.eq_ofNat_of_zero_le (show 0 ≤ l by omega)
    have HE : Hid (D = ⟨z, (n : Nat), zTxt n, []⟩) := by show _ = _; rw [← HD.out]; unfold newBl; rw [Ht.out]; rfl
    have PB := hid (boxL_new w [.int .i64 0, .int .i64 0, .string ⟨#[]⟩, .slice none 0 0] 37)
    go_wp2_with fail
    refine (sl13New_any z n (by omega) _).mono ?_
    rintro e w2 ⟨rfl, b2⟩
    have P2 := PB.out.below b2 PB.out.lt
    have HB : Hid (Below w.heap.size w w2) := ((Below.refl _ _).alloc (Nat.le_refl _) _).trans (b2.mono (by simp))
    obtain ⟨p0, p1, p2, p3⟩ := P2.four
    have f0 := (P2.cell 0 (by simp)).2
    have f1 := (P2.cell 1 (by simp)).2
    have f2 := (P2.cell 2 (by simp)).2
    have f3 := (P2.cell 3 (by simp)).2
    clear P2 PB b2
    go_wp2
    refine bodyPost_ret (v := .tuple #[.agg #[.int .i64 z, .int .i64 (n : Nat), .string (zTxt n), .slice none 0 0], .bool true]) (by simp [results, Try.results19, go_sem, p0, p1, p2, p3]) rfl ?_
    refine ⟨_, rfl, ?_, ?_⟩
    · rw [HE.out]; exact BlOwn.empty _ _ _ _ _
    · exact (((HB.out.setCell (Nat.le_refl _) _).setCell (Nat.le_refl _) _).setCell (Nat.le_refl _) _).setCell (Nat.le_refl _) _
end Go.Proofs.Ytnkpboobfkjibak
