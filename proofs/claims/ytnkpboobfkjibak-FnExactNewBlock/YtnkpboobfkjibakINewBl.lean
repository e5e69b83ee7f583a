/-
  impl.emptyBlock, impl.NewBlock: a block that has nothing. Nothing old is written.
-/
import Derived.Test.YtnkpboobfkjibakBlNew
import Derived.Test.YtnkpboobfkjibakIGoodBl
import Derived.Deep.RegionWith
namespace Go.Proofs.Ytnkpboobfkjibak
open Go.RowKit

set_option maxRecDepth 100000 in
set_option maxHeartbeats 4000000 in
theorem iemptyBl_any (z : Int) (l : Nat) (hl : l ≤ 100000) (w : World) :
    Calls Try.prog 45 #[.agg #[.int .i64 z, .int .i64 (l : Nat)]] w fun e w' => e = .returned (.agg #[.int .i64 z, .int .i64 (l : Nat), .string (zTxt l), .slice none 0 0]) ∧ Below w.heap.size w w' := by
  have mkU := run_make_row' (P := Try.prog) 87 5 (.int .u8 0) 1 Try.underlying87 info_u8 rfl .i64 .i64 l (by omega) (by omega)
  obtain ⟨V, hV⟩ : ∃ V, V = ((w.alloc (.cells #[.int .i64 z, .int .i64 (l : Nat)] 66)).alloc (.cells #[.int .i64 0, .int .i64 0, .string ⟨#[]⟩, .slice none 0 0] 37)) := ⟨_, rfl⟩
  have hs : V.heap.size = w.heap.size + 1 + 1 := by rw [hV]; simp
  have hcv := conv_zeros (V.alloc (.cells (madeCells #[.int .u8 0] l) 5)).drew (w.heap.size + 1 + 1) l (fun j hj => by show World.cell? (V.alloc _) _ = _; rw [← hs, World.cell?_alloc_new]; exact made_u8 l j hj)
  rw [hV] at hcv
  clear hs hV
  go_enter Try.func45, Try.ntmps45
  go_wp2_with fail
  go_region
  all_goals go_wp2
  all_goals go_returns
  all_goals refine ⟨rfl, ?_⟩
  all_goals go_grown

set_option maxRecDepth 100000 in
set_option maxHeartbeats 4000000 in
theorem inewBl_any (z l : Int) (w : World) (D : BlD) (t : Bool) (hD : newBl z l = D) (ht : idB z l = t) :
    Calls Try.prog 20 #[.int .i64 z, .int .i64 l] w fun e w' => ∃ u, e = .returned (.tuple #[u, .bool t]) ∧ BlOwn (Iv w.heap.size w'.heap.size) w' u D ∧ Below w.heap.size w w' := by
  have Ht := hid ht
  have HD := hid hD
  have PB := hid (boxL_new w [.int .i64 0, .int .i64 0, .string ⟨#[]⟩, .slice none 0 0] 37)
  have BA : Hid (Below (w.heap.size + 1) (w.alloc (.cells #[.int .i64 0, .int .i64 0, .string ⟨#[]⟩, .slice none 0 0] 37)) ((w.alloc (.cells #[.int .i64 0, .int .i64 0, .string ⟨#[]⟩, .slice none 0 0] 37)).alloc (.cells #[.int .i64 z, .int .i64 l] 66))) := (Below.refl _ _).alloc (by simp) _
  have PL0 := boxL_new (w.alloc (.cells #[.int .i64 0, .int .i64 0, .string ⟨#[]⟩, .slice none 0 0] 37)) [.int .i64 z, .int .i64 l] 66
  rw [World.size_alloc] at PL0
  have PL := hid PL0
  clear ht hD PL0
  go_enter Try.func20, Try.ntmps20
  go_wp2_with fail
  refine (ilabelGood_eq z l t Ht.out _).mono ?_
  rintro e w1 ⟨rfl, b1⟩
  have P1 := hid ((PB.out.below BA.out (by omega)).below b1 (by simp; omega))
  have L1 := hid (PL.out.below b1 (by simp))
  have HB : Hid (Below w.heap.size w w1) := (((Below.refl _ _).alloc (Nat.le_refl _) _).alloc (by simp) _).trans (b1.mono (by simp; omega))
  clear b1 PB PL BA
  obtain ⟨p0, p1, p2, p3⟩ := P1.out.four
  have f0 := (P1.out.cell 0 (by simp)).2
  have f1 := (P1.out.cell 1 (by simp)).2
  have f2 := (P1.out.cell 2 (by simp)).2
  have f3 := (P1.out.cell 3 (by simp)).2
  obtain ⟨l0, l1⟩ := L1.out.two
  cases t
  · have HE : Hid (D = zeroBl) := by show _ = _; rw [← HD.out]; unfold newBl; rw [Ht.out]; rfl
    go_wp2
    refine bodyPost_ret (v := .tuple #[.agg #[.int .i64 0, .int .i64 0, .string ⟨#[]⟩, .slice none 0 0], .bool false]) (by simp [results, Try.results20, go_sem, p0, p1, p2, p3]) rfl ?_
    refine ⟨_, rfl, ?_, ?_⟩
    · rw [HE.out]; exact BlOwn.empty _ _ _ _ _
    · exact (((HB.out.setCell (Nat.le_refl _) _).setCell (Nat.le_refl _) _).setCell (Nat.le_refl _) _).setCell (Nat.le_refl _) _
  · have hl : 1 ≤ l ∧ l ≤ 40 := by have h := Ht.out; unfold idB at h; rw [Bool.and_eq_true, decide_eq_true_eq, decide_eq_true_eq] at h; exact h.2
    obtain ⟨n, rfl⟩ := Int.eq_ofNat_of_zero_le (show 0 ≤ l by omega)
    have HE : Hid (D = ⟨z, (n : Nat), zTxt n, []⟩) := by show _ = _; rw [← HD.out]; unfold newBl; rw [Ht.out]; rfl
    go_wp2_with fail
    refine (iemptyBl_any z n (by omega) _).mono ?_
    rintro e w2 ⟨rfl, b2⟩
    have P2 := P1.out.below b2 P1.out.lt
    replace HB : Hid (Below w.heap.size w w2) := HB.out.trans (b2.mono HB.out.size)
    clear p0 p1 p2 p3 f0 f1 f2 f3 l0 l1
    obtain ⟨p0, p1, p2, p3⟩ := P2.four
    have f0 := (P2.cell 0 (by simp)).2
    have f1 := (P2.cell 1 (by simp)).2
    have f2 := (P2.cell 2 (by simp)).2
    have f3 := (P2.cell 3 (by simp)).2
    clear P2 P1 L1 b2
    go_wp2
    refine bodyPost_ret (v := .tuple #[.agg #[.int .i64 z, .int .i64 (n : Nat), .string (zTxt n), .slice none 0 0], .bool true]) (by simp [results, Try.results20, go_sem, p0, p1, p2, p3]) rfl ?_
    refine ⟨_, rfl, ?_, ?_⟩
    · rw [HE.out]; exact BlOwn.empty _ _ _ _ _
    · exact (((HB.out.setCell (Nat.le_refl _) _).setCell (Nat.le_refl _) _).setCell (Nat.le_refl _) _).setCell (Nat.le_refl _) _
end Go.Proofs.Ytnkpboobfkjibak
