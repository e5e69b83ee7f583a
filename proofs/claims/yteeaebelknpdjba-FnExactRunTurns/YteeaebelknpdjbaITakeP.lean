/-
  (impl.pipe).take: the first packet of a pipe, or none. Nothing else is written.
-/
import Derived.Test.YteeaebelknpdjbaKIntRows
import Derived.Conc.LoneSelect
import Derived.KernelRfl
namespace Go.Proofs.Yteeaebelknpdjba
open Go.Conc Go.RowKit

/-- A pipe: a channel of its own with the packets that are on their way. -/
def Pipe (w : World) (c : Nat) (xs : List Int) : Prop := ∃ cap s r, w.heap[c]? = some (.chan cap (kflat xs).toArray false s r false)
set_option maxRecDepth 100000 in
theorem take_none (c : Nat) (w : World) (h : Pipe w c []) :
    Calls Try.prog 57 #[.chan (some c)] w fun e w' => e = .returned (.tuple #[.int .i64 0, .bool false]) ∧ w' = w := by
  obtain ⟨cap, s, r, hc⟩ := h
  refine calls_of_loneTo fun cs => ?_
  have e : Frame.enter Try.prog 57 #[.chan (some c)] .normal = (base 57).at ⟨#[.chan (some c), undef, undef, undef, undef, undef, undef, undef, undef, undef, undef], []⟩ [.code (Try.f57.body.getD .skip)] := by
    simp [Frame.enter, Frame.at, Try.func57, base, Try.f57]
  rw [e]
  refine LoneTo.goes (n := 60) ?_
  simp only [Try.f57, Option.getD_some]
  s_c stepG_seq
  s_reg
  s_op
  s_op
  s_c stepG_region_end
  s_c stepG_seq
  s_reg
  s_op
  s_c stepG_region_end
  s_c stepG_seq
  s_reg
  s_stop
  refine LoneTo.step (step_lone_select_default (c := c) (z := .int .i64 0) (cap := cap) (s := s) (r := r) (tm := false) (stepG_comm (cases := #[rcase c (.int .i64 0)]) (blocking := false) (shape := .select) (w' := w) rfl rfl (by decide) (by simp [go_sem, execOp, rcase, Act.eval])) hc) ?_
  rw [Frame.finish_at]
  walk_nrm
  refine LoneTo.goes (n := 60) ?_
  s_op
  s_op
  s_c stepG_region_end
  s_c stepG_block
  s_cond false
  s_c stepG_seq
  s_reg
  s_op
  s_op
  s_c stepG_region_end
  s_c stepG_ret'
  s_stop
  exact LoneTo.done ⟨.returned (.tuple #[.int .i64 0, .bool false]), _, rfl, ⟨rfl, rfl⟩, rfl, rfl, rfl, rfl, _, Try.func57, by simp [results, Try.f57, Frame.at]⟩
set_option maxRecDepth 100000 in
theorem take_some (c : Nat) (x : Int) (xs : List Int) (w : World) (h : Pipe w c (x :: xs)) :
    Calls Try.prog 57 #[.chan (some c)] w fun e w' => e = .returned (.tuple #[.int .i64 x, .bool true]) ∧ Pipe w' c xs ∧ w.grownBy w' (some c) ∧ w'.heap.size = w.heap.size := by
  obtain ⟨cap, s, r, hc⟩ := h
  have hlt : c < w.heap.size := (Array.getElem?_eq_some_iff.1 hc).1
  refine calls_of_loneTo fun cs => ?_
  have e : Frame.enter Try.prog 57 #[.chan (some c)] .normal = (base 57).at ⟨#[.chan (some c), undef, undef, undef, undef, undef, undef, undef, undef, undef, undef], []⟩ [.code (Try.f57.body.getD .skip)] := by
    simp [Frame.enter, Frame.at, Try.func57, base, Try.f57]
  rw [e]
  refine LoneTo.goes (n := 60) ?_
  simp only [Try.f57, Option.getD_some]
  s_c stepG_seq
  s_reg
  s_op
  s_op
  s_c stepG_region_end
  s_c stepG_seq
  s_reg
  s_op
  s_c stepG_region_end
  s_c stepG_seq
  s_reg
  s_stop
  refine LoneTo.step (step_lone_select_recv_buf (c := c) (z := .int .i64 0) (cap := cap) (s := s) (r := r) (tm := false) (closed := false) (buf := (kflat (x :: xs)).toArray) (stepG_comm (cases := #[rcase c (.int .i64 0)]) (blocking := false) (shape := .select) (w' := w) rfl rfl (by decide) (by simp [go_sem, execOp, rcase, Act.eval])) hc (by simp [kflat])) ?_
  have e1 : (kflat (x :: xs)).toArray.getD 0 undef = .int .i64 x := rfl
  have e2 : (kflat (x :: xs)).toArray.extract 1 (kflat (x :: xs)).toArray.size = (kflat xs).toArray := by
    simp [kflat]
    exact List.take_of_length_le (by simp)
  rw [Frame.finish_at, e1, e2]
  walk_nrm
  refine LoneTo.goes (n := 60) ?_
  s_op
  s_op
  s_c stepG_region_end
  s_c stepG_block
  s_cond true
  s_c stepG_seq
  s_reg
  s_op
  s_op
  s_c stepG_region_end
  s_c stepG_seq
  s_reg
  s_op
  s_op
  s_op
  s_c stepG_region_end
  s_c stepG_ret'
  s_stop
  refine LoneTo.done ⟨.returned (.tuple #[.int .i64 x, .bool true]), _, rfl, ⟨rfl, ⟨cap, s, r + 1, heap_setChan _ _ _ _ _ _ _ _ hlt⟩, ⟨rfl, rfl, rfl, by simp [World.setChan], fun k hk hne => ?_⟩, size_setChan _ _ _ _ _ _ _ _⟩, rfl, rfl, rfl, rfl, _, Try.func57, by simp [results, Try.f57, Frame.at]⟩
  simp only [World.setChan]
  rw [Array.getElem?_setIfInBounds_ne (by intro e; exact hne (by rw [e]))]
end Go.Proofs.Yteeaebelknpdjba
