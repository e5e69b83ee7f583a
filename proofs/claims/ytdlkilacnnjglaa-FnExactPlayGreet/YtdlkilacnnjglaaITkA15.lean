/-
  impl's (*Greet).takeAsk: an ask is taken.
  impl's (*Greet).take: a letter is taken, by its kind.
-/
import Derived.Test.YtdlkilacnnjglaaIWrG
import Derived.Deep.RegionWith
import Derived.Deep.DeepCutAuto
import Derived.Test.YtdlkilacnnjglaaITkB1
import Derived.Test.YtdlkilacnnjglaaITkB2
import Derived.Test.YtdlkilacnnjglaaITkB3
import Derived.Test.YtdlkilacnnjglaaGrStep
namespace Go.Proofs.Ytdlkilacnnjglaa
open Go.RowKit

set_option maxRecDepth 100000 in
set_option maxHeartbeats 4000000 in
theorem itakeAsk_no (L b : Nat) (D : GrD) (v8 v9 v10 : Value) (a : Int) (w : World) (hG : GrX L b w D v8 v9 v10) (s1 s7 : Bool) (h1 : (D.f1 == 2) = s1) (h7 : (D.f7 == 1000) = s7) (hc : (s1 || s7) = true) :
    Calls Try.prog 128 #[.pointer (some ⟨b, 0, none⟩), .agg #[.int .i64 a]] w fun e w' => e = .returned (.tuple #[]) ∧ Left L b w v8 v9 v10 D w' := by
  have bA : Below w.heap.size w (w.alloc (.cells #[.int .i64 a] 146)) := (Below.refl _ _).alloc (Nat.le_refl _) _
  have HW := hid (hG.below bA rfl)
  have HM := hid ((XMv.refl b w v8 v9 v10).grow bA rfl)
  obtain ⟨q0, q1, q2, q3, q4, q5, q6, q7, q8, q9, q10⟩ := HW.out.box.eleven
  have HC := hid hc
  clear hG hc bA
  cases s1 <;> cases s7
  case false.false => exact absurd HC.out (by decide)
  all_goals
    go_enter Try.func128, Try.ntmps128
    go_wp2
    exact bodyPost_ret (v := .tuple #[]) (by simp [results, Try.results128, go_sem]) rfl ⟨rfl, _, _, _, HW.out, HM.out⟩
set_option maxRecDepth 100000 in
set_option maxHeartbeats 8000000 in
theorem itakeAsk_yes (L b : Nat) (D : GrD) (v8 v9 v10 : Value) (a : Int) (w : World) (hL : L ≤ w.heap.size) (hG : GrX L b w D v8 v9 v10) (h1 : (D.f1 == 2) = false) (h7 : (D.f7 == 1000) = false) (hy : 0 ≤ D.f7 ∧ D.f7 ≤ 1000) (hn : D.f8.length ≤ 30) (y1 : Int) (hy1 : y1 = D.f7 + 1) :
    Calls Try.prog 128 #[.pointer (some ⟨b, 0, none⟩), .agg #[.int .i64 a]] w fun e w' => e = .returned (.tuple #[]) ∧ Left L b w v8 v9 v10 (wrG { D with f7 := y1, f1 := 1, f4 := a, f3 := y1 } (2, a, y1)) w' := by
  have hw : IntKind.i64.wrap (D.f7 + 1) = y1 := by rw [IntKind.wrap_i64]; omega
  have bA : Below w.heap.size w (w.alloc (.cells #[.int .i64 a] 146)) := (Below.refl _ _).alloc (Nat.le_refl _) _
  have HL := hid (boxL_new w [.int .i64 a] 146)
  have hlt := hG.box.lt
  have HW := hid (hG.below bA rfl)
  have HM := hid ((XMv.refl b w v8 v9 v10).grow bA rfl)
  obtain ⟨W, hW⟩ : ∃ W, W = w.alloc (.cells #[.int .i64 a] 146) := ⟨_, rfl⟩
  rw [← hW] at HW HM HL bA
  have HWW := hid hW
  clear hW
  obtain ⟨q0, q1, q2, q3, q4, q5, q6, q7, q8, q9, q10⟩ := HW.out.box.eleven
  obtain ⟨g0, g1, g2, g3, g4, g5, g6, g7, g8, g9, g10⟩ := HW.out.box.frozen11
  have hlb : b ≠ w.heap.size := by omega
  have hlc : w.heap.size ≠ b := by omega
  have p0 := (HL.out.cell 0 (by simp)).1
  change World.cell? _ _ = some (.int .i64 a) at p0
  have H1 := (HW.out.put (j := 7) (D' := { D with f7 := y1 }) (.int .i64 y1) (by decide) rfl rfl rfl rfl)
  have H2 := H1.put (j := 1) (D' := { D with f7 := y1, f1 := 1 }) (.int .i64 1) (by decide) rfl rfl rfl rfl
  have H3 := H2.put (j := 4) (D' := { D with f7 := y1, f1 := 1, f4 := a }) (.int .i64 a) (by decide) rfl rfl rfl rfl
  have H4 := hid (H3.put (j := 3) (D' := { D with f7 := y1, f1 := 1, f4 := a, f3 := y1 }) (.int .i64 y1) (by decide) rfl rfl rfl rfl).drew
  replace HM := hid ((((HM.out.set (j := 7) (.int .i64 y1)).set (j := 1) (.int .i64 1)).set (j := 4) (.int .i64 a)).set (j := 3) (.int .i64 y1)).drew
  clear hG H1 H2 H3 hy hy1 bA
  go_enter Try.func128, Try.ntmps128
  go_upto_region 1 with fail
  rw [← HWW.out]
  go_wp2_with fail
  go_region
  go_wp2_with fail
  refine (ipairB_eq _ _ _ _ _ _ _ _ _ _ _ a y1 rfl rfl _).mono ?_
  rintro e w5 ⟨rfl, b5⟩
  replace H4 := hid (H4.out.below b5 rfl)
  replace HM := hid (HM.out.grow b5 rfl)
  clear b5 q0 q1 q2 q3 q4 q5 q6 q7 q8 q9 q10 g0 g1 g2 g3 g4 g5 g6 g7 g8 g9 g10 p0
  go_wp2_with fail
  refine (iwrite_any L b _ (2, a, y1) v8 v9 v10 _ (Nat.le_trans hL HM.out.but.size) H4.out (by show (1 : Int) ≤ 2 ∧ (2 : Int) ≤ 3; decide) (fun h => absurd h (by show ¬ (2 : Int) = 1; decide)) hn).mono ?_
  rintro e w1 ⟨rfl, u8, u9, u10, hg, hm⟩
  have HG := hid hg
  have HX := hid (HM.out.trans hm)
  clear hg hm
  go_wp2
  go_end0
  exact ⟨rfl, _, _, _, HG.out, HX.out⟩
end Go.Proofs.Ytdlkilacnnjglaa
namespace Go.Proofs.Ytdlkilacnnjglaa
open Go.RowKit

theorem itakeAsk_any (L b : Nat) (D : GrD) (v8 v9 v10 : Value) (a : Int) (w : World) (hL : L ≤ w.heap.size) (hG : GrX L b w D v8 v9 v10) (hy : 0 ≤ D.f7 ∧ D.f7 ≤ 1000) (hn : D.f8.length ≤ 30) :
    Calls Try.prog 128 #[.pointer (some ⟨b, 0, none⟩), .agg #[.int .i64 a]] w fun e w' => e = .returned (.tuple #[]) ∧ Left L b w v8 v9 v10 (tkAsk D a) w' := by
  by_cases hc : D.f1 = 2 ∨ D.f7 = 1000
  · rw [show tkAsk D a = D from if_pos hc]
    exact itakeAsk_no L b D v8 v9 v10 a w hG (D.f1 == 2) (D.f7 == 1000) rfl rfl (by simpa using hc)
  · rw [show tkAsk D a = wrG { D with f7 := D.f7 + 1, f1 := 1, f4 := a, f3 := D.f7 + 1 } (2, a, D.f7 + 1) from if_neg hc]
    exact itakeAsk_yes L b D v8 v9 v10 a w hL hG (by simp; omega) (by simp; omega) hy hn _ rfl
theorem itakeBoth_any (L b : Nat) (D : GrD) (v8 v9 v10 : Value) (x y : Int) (w : World) (hL : L ≤ w.heap.size) (hG : GrX L b w D v8 v9 v10) (hn : D.f8.length ≤ 30) (hl : D.f9.length < 300) :
    Calls Try.prog 129 #[.pointer (some ⟨b, 0, none⟩), .agg #[.int .i64 x, .int .i64 y]] w fun e w' => e = .returned (.tuple #[]) ∧ Left L b w v8 v9 v10 (tkBoth D x y) w' := by
  by_cases hA : D.f0 = 1 ∧ D.f2 = x
  · have ho : opA D x y = { D with f0 := 2, f5 := y, f9 := D.f9 ++ [(3, x, y)] } := if_pos hA
    have hE : tkBoth D x y = wrG { D with f0 := 2, f5 := y, f9 := D.f9 ++ [(3, x, y)] } (3, x, y) := by
      unfold tkBoth
      rw [ho]
      exact if_pos ⟨rfl, hA.2, rfl⟩
    rw [hE]
    exact itakeBoth_open L b D v8 v9 v10 x y w hL hG (by simpa using hA.1) (by simpa using hA.2) hn hl
  have ho : opA D x y = D := if_neg hA
  by_cases hB : D.f0 = 2 ∧ D.f2 = x ∧ D.f5 = y
  · have hE : tkBoth D x y = wrG D (3, x, y) := by
      unfold tkBoth
      rw [ho]
      exact if_pos hB
    rw [hE]
    exact itakeBoth_both L b D v8 v9 v10 x y w hL hG (by rw [hB.1]; rfl) (by simpa using hB.1) (by simpa using hB.2.1) (by simpa using hB.2.2) hn
  · have hE : tkBoth D x y = D := by
      unfold tkBoth
      rw [ho]
      exact if_neg hB
    rw [hE]
    refine itakeBoth_no L b D v8 v9 v10 x y w hL hG (D.f0 == 1) (D.f2 == x) (D.f0 == 2) (D.f5 == y) rfl rfl rfl rfl ?_ ?_
    · rw [Bool.eq_false_iff]; intro h; simp at h; exact hA h
    · rw [Bool.eq_false_iff]; intro h; simp at h; exact hB h
theorem itakeAck_any (L b : Nat) (D : GrD) (v8 v9 v10 : Value) (x y : Int) (w : World) (hL : L ≤ w.heap.size) (hG : GrX L b w D v8 v9 v10) (hl : D.f10.length < 300) :
    Calls Try.prog 130 #[.pointer (some ⟨b, 0, none⟩), .agg #[.int .i64 x, .int .i64 y]] w fun e w' => e = .returned (.tuple #[]) ∧ Left L b w v8 v9 v10 (tkAck D x y) w' := by
  by_cases hc : D.f1 = 1 ∧ D.f4 = x ∧ D.f3 = y
  · obtain ⟨h1, rfl, rfl⟩ := hc
    rw [show tkAck D D.f4 D.f3 = { D with f1 := 2, f10 := D.f10 ++ [(3, D.f4, D.f3)] } from if_pos ⟨h1, rfl, rfl⟩]
    exact itakeAck_yes L b D v8 v9 v10 w hL hG h1 hl
  · rw [show tkAck D x y = D from if_neg hc]
    refine itakeAck_no L b D v8 v9 v10 x y w hG (D.f1 == 1) (D.f4 == x) (D.f3 == y) rfl rfl rfl ?_
    rw [Bool.eq_false_iff]; intro h; simp at h; exact hc h
theorem info_ask : (Try.prog.info? 146).map (fun i => (i.zero, i.size, i.bytes)) = some (some (.agg #[.int .i64 0]), 1, 8) := by kernel_rfl
theorem info_both : (Try.prog.info? 152).map (fun i => (i.zero, i.size, i.bytes)) = some (some (.agg #[.int .i64 0, .int .i64 0]), 2, 16) := by kernel_rfl
theorem ta_ask_yes (v : Value) (s : TypeId) (w : World) : (Instr.typeAssert (.iface 146 v) s 146 true).run Try.prog w = .ok (.tuple #[v, .bool true]) w := by
  simp [Instr.typeAssert, run_underlying Try.underlying146]
theorem ta_both_yes (v : Value) (s : TypeId) (w : World) : (Instr.typeAssert (.iface 152 v) s 152 true).run Try.prog w = .ok (.tuple #[v, .bool true]) w := by
  simp [Instr.typeAssert, run_underlying Try.underlying152]
theorem ta_ack_yes (v : Value) (s : TypeId) (w : World) : (Instr.typeAssert (.iface 153 v) s 153 true).run Try.prog w = .ok (.tuple #[v, .bool true]) w := by
  simp [Instr.typeAssert, run_underlying Try.underlying153]
theorem ta_ask_no (T : TypeId) (hT : T ≠ 146) (v : Value) (s : TypeId) (w : World) : (Instr.typeAssert (.iface T v) s 146 true).run Try.prog w = .ok (.tuple #[.agg #[.int .i64 0], .bool false]) w := by
  obtain ⟨i0, hi, hz0, hz1, hz2⟩ := info_parts info_ask
  simp [Instr.typeAssert, run_underlying Try.underlying146, zeroValue, typeInfo, hi, hz0, hT]
theorem ta_both_no (T : TypeId) (hT : T ≠ 152) (v : Value) (s : TypeId) (w : World) : (Instr.typeAssert (.iface T v) s 152 true).run Try.prog w = .ok (.tuple #[.agg #[.int .i64 0, .int .i64 0], .bool false]) w := by
  obtain ⟨i0, hi, hz0, hz1, hz2⟩ := info_parts info_both
  simp [Instr.typeAssert, run_underlying Try.underlying152, zeroValue, typeInfo, hi, hz0, hT]
set_option maxRecDepth 100000 in
set_option maxHeartbeats 8000000 in
theorem itake_any (L b : Nat) (D : GrD) (x : HeEl) (v8 v9 v10 : Value) (w : World) (hL : L ≤ w.heap.size) (hG : GrX L b w D v8 v9 v10) (hx : 1 ≤ x.1 ∧ x.1 ≤ 3) (hy : 0 ≤ D.f7 ∧ D.f7 ≤ 1000) (hn : D.f8.length ≤ 30) (h9 : D.f9.length < 300) (h10 : D.f10.length < 300) :
    Calls Try.prog 125 #[.pointer (some ⟨b, 0, none⟩), lv x] w fun e w' => e = .returned (.tuple #[]) ∧ Left L b w v8 v9 v10 (takG D x) w' := by
  obtain ⟨k, a, c⟩ := x
  simp only at hx
  have HG := hid hG
  clear hG
  rcases (by omega : k = 1 ∨ k = 2 ∨ k = 3) with rfl | rfl | rfl
  · have e1 : lv (1, a, c) = .iface 146 (.agg #[.int .i64 a]) := rfl
    rw [e1, show takG D (1, a, c) = tkAsk D a from rfl]
    have bA : Below w.heap.size w (w.alloc (.cells #[.int .i64 a] 146)) := (Below.refl _ _).alloc (Nat.le_refl _) _
    have HW := hid (HG.out.below bA rfl)
    have BA := hid bA
    clear bA e1
    have f1 : ∀ w, (Instr.typeAssert (.iface 146 (.agg #[.int .i64 a])) 141 146 true).run Try.prog w = .ok (.tuple #[.agg #[.int .i64 a], .bool true]) w := fun w => ta_ask_yes _ _ w
    go_enter Try.func125, Try.ntmps125
    go_wp2_with fail
    refine (itakeAsk_any L b D v8 v9 v10 a _ (Nat.le_trans hL BA.out.size) HW.out hy hn).mono ?_
    rintro e w1 ⟨rfl, u8, u9, u10, hg, hm⟩
    have HG1 := hid hg
    have HX := hid (XMv.start (P := fun _ => False) (But.of BA.out) (fun _ h => h.elim) hm)
    clear hg hm
    go_wp2
    go_end0
    exact ⟨rfl, _, _, _, HG1.out, HX.out⟩
  · have e1 : lv (2, a, c) = .iface 152 (.agg #[.int .i64 a, .int .i64 c]) := rfl
    rw [e1, show takG D (2, a, c) = tkBoth D a c from rfl]
    have bA : Below w.heap.size w (w.alloc (.cells #[.int .i64 a, .int .i64 c] 152)) := (Below.refl _ _).alloc (Nat.le_refl _) _
    have HW := hid (HG.out.below bA rfl)
    have BA := hid bA
    clear bA e1
    have f1 : ∀ w, (Instr.typeAssert (.iface 152 (.agg #[.int .i64 a, .int .i64 c])) 141 146 true).run Try.prog w = .ok (.tuple #[.agg #[.int .i64 0], .bool false]) w := fun w => ta_ask_no _ (by decide) _ _ w
    have f2 : ∀ w, (Instr.typeAssert (.iface 152 (.agg #[.int .i64 a, .int .i64 c])) 141 152 true).run Try.prog w = .ok (.tuple #[.agg #[.int .i64 a, .int .i64 c], .bool true]) w := fun w => ta_both_yes _ _ w
    go_enter Try.func125, Try.ntmps125
    go_wp2_with fail
    refine (itakeBoth_any L b D v8 v9 v10 a c _ (Nat.le_trans hL BA.out.size) HW.out hn h9).mono ?_
    rintro e w1 ⟨rfl, u8, u9, u10, hg, hm⟩
    have HG1 := hid hg
    have HX := hid (XMv.start (P := fun _ => False) (But.of BA.out) (fun _ h => h.elim) hm)
    clear hg hm
    go_wp2
    go_end0
    exact ⟨rfl, _, _, _, HG1.out, HX.out⟩
  · have e1 : lv (3, a, c) = .iface 153 (.agg #[.int .i64 a, .int .i64 c]) := rfl
    rw [e1, show takG D (3, a, c) = tkAck D a c from rfl]
    have bA : Below w.heap.size w (w.alloc (.cells #[.int .i64 a, .int .i64 c] 153)) := (Below.refl _ _).alloc (Nat.le_refl _) _
    have HW := hid (HG.out.below bA rfl)
    have BA := hid bA
    clear bA e1
    have f1 : ∀ w, (Instr.typeAssert (.iface 153 (.agg #[.int .i64 a, .int .i64 c])) 141 146 true).run Try.prog w = .ok (.tuple #[.agg #[.int .i64 0], .bool false]) w := fun w => ta_ask_no _ (by decide) _ _ w
    have f2 : ∀ w, (Instr.typeAssert (.iface 153 (.agg #[.int .i64 a, .int .i64 c])) 141 152 true).run Try.prog w = .ok (.tuple #[.agg #[.int .i64 0, .int .i64 0], .bool false]) w := fun w => ta_both_no _ (by decide) _ _ w
    have f3 : ∀ w, (Instr.typeAssert (.iface 153 (.agg #[.int .i64 a, .int .i64 c])) 141 153 true).run Try.prog w = .ok (.tuple #[.agg #[.int .i64 a, .int .i64 c], .bool true]) w := fun w => ta_ack_yes _ _ w
    go_enter Try.func125, Try.ntmps125
    go_wp2_with fail
    refine (itakeAck_any L b D v8 v9 v10 a c _ (Nat.le_trans hL BA.out.size) HW.out h10).mono ?_
    rintro e w1 ⟨rfl, u8, u9, u10, hg, hm⟩
    have HG1 := hid hg
    have HX := hid (XMv.start (P := fun _ => False) (But.of BA.out) (fun _ h => h.elim) hm)
    clear hg hm
    go_wp2
    go_end0
    exact ⟨rfl, _, _, _, HG1.out, HX.out⟩
end Go.Proofs.Ytdlkilacnnjglaa
