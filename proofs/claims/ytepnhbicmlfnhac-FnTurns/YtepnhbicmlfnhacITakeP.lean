/-
  (impl.pipe).take: the first packet of a pipe, or none. Nothing else is written.
  impl.pipeOf: packets put into a pipe. Nothing old is written.
-/
import Derived.Test.YtepnhbicmlfnhacKIntRows
import Derived.Conc.LoneSelect
import Derived.KernelRfl
namespace Go.Proofs.Ytepnhbicmlfnhac
open Go.Conc Go.RowKit

/-- A pipe: a channel of its own with the packets that are on their way. -/
def Pipe (w : World) (c : Nat) (xs : List Int) : Prop := ∃ cap s r, w.heap[c]? = some (.chan cap (kflat xs).toArray false s r false)
set_option maxRecDepth 100000 in
theorem take_none (c : Nat) (w : World) (h : Pipe w c []) :
    Calls Try.prog 122 #[.chan (some c)] w fun e w' => e = .returned (.tuple #[.int .i64 0, .bool false]) ∧ w' = w := by
  obtain ⟨cap, s, r, hc⟩ := h
  refine calls_of_loneTo fun cs => ?_
  have e : Frame.enter Try.prog 122 #[.chan (some c)] .normal = (base 122).at ⟨#[.chan (some c), undef, undef, undef, undef, undef, undef, undef, undef, undef, undef], []⟩ [.code (Try.f122.body.getD .skip)] := by
    simp [Frame.enter, Frame.at, Try.func122, base, Try.f122]
  rw [e]
  refine LoneTo.goes (n := 60) ?_
  simp only [Try.f122, Option.getD_some]
  s_c stepG_seq
  s_reg
  s_op
  s_op
  s_c stepG_region_end
  s_c stepG_seq
  s_reg
  s_op
  s_c stepG_region_end
  s_c stepG_seq
  s_reg
  s_stop
  refine LoneTo.step (step_lone_select_default (c := c) (z := .int .i64 0) (cap := cap) (s := s) (r := r) (tm := false) (stepG_comm (cases := #[rcase c (.int .i64 0)]) (blocking := false) (shape := .select) (w' := w) rfl rfl (by decide) (by simp [go_sem, execOp, rcase, Act.eval])) hc) ?_
  rw [Frame.finish_at]
  walk_nrm
  refine LoneTo.goes (n := 60) ?_
  s_op
  s_op
  s_c stepG_region_end
  s_c stepG_block
  s_cond false
  s_c stepG_seq
  s_reg
  s_op
  s_op
  s_c stepG_region_end
  s_c stepG_ret'
  s_stop
  exact LoneTo.done ⟨.returned (.tuple #[.int .i64 0, .bool false]), _, rfl, ⟨rfl, rfl⟩, rfl, rfl, rfl, rfl, _, Try.func122, by simp [results, Try.f122, Frame.at]⟩
set_option maxRecDepth 100000 in
theorem take_some (c : Nat) (x : Int) (xs : List Int) (w : World) (h : Pipe w c (x :: xs)) :
    Calls Try.prog 122 #[.chan (some c)] w fun e w' => e = .returned (.tuple #[.int .i64 x, .bool true]) ∧ Pipe w' c xs ∧ w.grownBy w' (some c) ∧ w'.heap.size = w.heap.size := by
  obtain ⟨cap, s, r, hc⟩ := h
  have hlt : c < w.heap.size := (Array.getElem?_eq_some_iff.1 hc).1
  refine calls_of_loneTo fun cs => ?_
  have e : Frame.enter Try.prog 122 #[.chan (some c)] .normal = (base 122).at ⟨#[.chan (some c), undef, undef, undef, undef, undef, undef, undef, undef, undef, undef], []⟩ [.code (Try.f122.body.getD .skip)] := by
    simp [Frame.enter, Frame.at, Try.func122, base, Try.f122]
  rw [e]
  refine LoneTo.goes (n := 60) ?_
  simp only [Try.f122, Option.getD_some]
  s_c stepG_seq
  s_reg
  s_op
  s_op
  s_c stepG_region_end
  s_c stepG_seq
  s_reg
  s_op
  s_c stepG_region_end
  s_c stepG_seq
  s_reg
  s_stop
  refine LoneTo.step (step_lone_select_recv_buf (c := c) (z := .int .i64 0) (cap := cap) (s := s) (r := r) (tm := false) (closed := false) (buf := (kflat (x :: xs)).toArray) (stepG_comm (cases := #[rcase c (.int .i64 0)]) (blocking := false) (shape := .select) (w' := w) rfl rfl (by decide) (by simp [go_sem, execOp, rcase, Act.eval])) hc (by simp [kflat])) ?_
  have e1 : (kflat (x :: xs)).toArray.getD 0 undef = .int .i64 x := rfl
  have e2 : (kflat (x :: xs)).toArray.extract 1 (kflat (x :: xs)).toArray.size = (kflat xs).toArray := by
    simp [kflat]
    exact List.take_of_length_le (by simp)
  rw [Frame.finish_at, e1, e2]
  walk_nrm
  refine LoneTo.goes (n := 60) ?_
  s_op
  s_op
  s_c stepG_region_end
  s_c stepG_block
  s_cond true
  s_c stepG_seq
  s_reg
  s_op
  s_op
  s_c stepG_region_end
  s_c stepG_seq
  s_reg
  s_op
  s_op
  s_op
  s_c stepG_region_end
  s_c stepG_ret'
  s_stop
  refine LoneTo.done ⟨.returned (.tuple #[.int .i64 x, .bool true]), _, rfl, ⟨rfl, ⟨cap, s, r + 1, heap_setChan _ _ _ _ _ _ _ _ hlt⟩, ⟨rfl, rfl, rfl, by simp [World.setChan], fun k hk hne => ?_⟩, size_setChan _ _ _ _ _ _ _ _⟩, rfl, rfl, rfl, rfl, _, Try.func122, by simp [results, Try.f122, Frame.at]⟩
  simp only [World.setChan]
  rw [Array.getElem?_setIfInBounds_ne (by intro e; exact hne (by rw [e]))]
end Go.Proofs.Ytepnhbicmlfnhac
namespace Go.Proofs.Ytepnhbicmlfnhac
open Go.Conc Go.RowKit

/-- A loop in a walk of one goroutine, by the number of rounds that are left. -/
theorem LoneTo.loop {P : Program} {Q : Goroutine → World → Prop} {b : Frame} {C : Code} {rest : List Item} {cs : List Frame} (I : Nat → Act → World → Prop)
    (hround : ∀ m a w, I (m + 1) a w → LoneTo P (fun g' w' => ∃ a', g' = G (b.at a' (Item.inLoop C :: rest)) cs ∧ I m a' w') (G (b.at a (Item.code C :: Item.inLoop C :: rest)) cs) w)
    (hend : ∀ a w, I 0 a w → LoneTo P Q (G (b.at a (Item.code C :: Item.inLoop C :: rest)) cs) w) : ∀ m a w, I m a w → LoneTo P Q (G (b.at a (Item.code C :: Item.inLoop C :: rest)) cs) w
  | 0, a, w, h => hend a w h
  | m + 1, a, w, h => by
    obtain ⟨g', w', hs, a', rfl, hI⟩ := hround m a w h
    obtain ⟨g₂, w₂, hs2, hq⟩ := LoneTo.step (step_solo_go rfl stepG_inLoop) (LoneTo.loop I hround hend m a' w' hI)
    exact ⟨g₂, w₂, hs.trans hs2, hq⟩
theorem mkPipe (w : World) (n : Nat) (hn : n ≤ 30) : (Instr.makeChan 141 (.int .i64 (n : Nat))).run Try.prog w = .ok (.chan (some w.heap.size)) (w.alloc (.chan n #[] false 0 0 false)) := by
  have h : (Try.prog.info? 3).map (·.bytes) = some 8 := by kernel_rfl
  obtain ⟨i, hi, hb⟩ := Option.map_eq_some_iff.1 h
  simpa using run_makeChan (P := Try.prog) (w := w) Try.underlying141 hi .i64 n (by omega) (by rw [hb]; omega)
set_option maxRecDepth 100000 in
theorem pipeOf_any (a : Option Addr) (cap : Nat) (xs : List Int) (w : World) (hr : KReads w (.slice a xs.length cap) xs) (hl : xs.length ≤ 30) :
    Calls Try.prog 121 #[.slice a xs.length cap] w fun e w' => ∃ c, e = .returned (.chan (some c)) ∧ w.heap.size ≤ c ∧ Pipe w' c xs ∧ Below w.heap.size w w' := by
  refine calls_of_loneTo fun cs => ?_
  have e : Frame.enter Try.prog 121 #[.slice a xs.length cap] .normal = (base 121).at ⟨#[.slice a xs.length cap, undef, undef, undef, undef, undef, undef, undef, undef, undef, undef, undef, undef, undef, undef, undef, undef, undef, undef], []⟩ [.code (Try.f121.body.getD .skip)] := by
    simp [Frame.enter, Frame.at, Try.func121, base, Try.f121]
  rw [e]
  have hmk := fun w => mkPipe w xs.length hl
  refine LoneTo.goes (n := 60) ?_
  simp only [Try.f121, Option.getD_some]
  s_c stepG_seq
  s_reg
  s_op
  s_c stepG_region_end
  s_c stepG_seq
  s_reg
  s_op
  s_op
  s_op
  s_op
  s_c stepG_region_end
  s_c stepG_seq
  s_c stepG_seq
  s_reg
  s_op
  s_op
  s_op
  s_c stepG_region_end
  s_c stepG_block
  s_c stepG_loop
  s_stop
  clear hmk e
  have hsz : (w.alloc (.chan xs.length #[] false 0 0 false)).heap.size = w.heap.size + 1 := World.size_alloc _ _
  refine LoneTo.loop (fun m a' w' => ∃ (k : Nat) (u5 u12 u13 u14 u15 u16 u17 : Value), k + m = xs.length ∧ a' = ⟨#[.slice a xs.length cap, undef, .chan none, .chan (some w.heap.size), undef, u5, .slice a xs.length cap, .int .i64 (xs.length : Nat), .chan (some w.heap.size), .slice a xs.length cap, .int .i64 (xs.length : Nat), .int .i64 (k : Nat), u12, u13, u14, u15, u16, u17, undef], []⟩ ∧ w'.heap[w.heap.size]? = some (.chan xs.length (kflat (xs.take k)).toArray false k 0 false) ∧ Below w.heap.size w w') ?_ ?_ xs.length _ _ ⟨0, _, _, _, _, _, _, _, by omega, rfl, heap_alloc_new _ _, (Below.refl _ _).alloc (Nat.le_refl _) _⟩
  · rintro m a' w' ⟨k, u5, u12, u13, u14, u15, u16, u17, hk, rfl, hc, hb⟩
    have hlt : k < xs.length := by omega
    obtain ⟨g, off, cap', e, hcells⟩ := (hr.below hb).cells k hlt
    cases e
    have hck : w'.cell? ⟨g, off + k, none⟩ = some (.int .i64 (xs.getD k 0)) := hcells k hlt
    obtain ⟨x, hx⟩ : ∃ x, x = xs.getD k 0 := ⟨_, rfl⟩
    rw [← hx] at hck
    have n0 : (0 : Int) ≤ (k : Int) := by omega
    have n1 : (k : Int) < (xs.length : Int) := by omega
    have hw1 : IntKind.i64.wrap ((k : Int) + 1) = ((k + 1 : Nat) : Int) := by rw [IntKind.wrap_i64]; omega
    have hs : (kflat (xs.take k)).toArray.size = k := by simp [kflat]; omega
    have hpush : (kflat (xs.take k)).toArray.push (.int .i64 x) = (kflat (xs.take (k + 1))).toArray := by
      rw [List.take_succ_eq_append_getElem hlt, kflat_append]
      simp [kflat, hx, List.getD_eq_getElem?_getD, hlt]
    have hcl : w.heap.size < w'.heap.size := (Array.getElem?_eq_some_iff.1 hc).1
    clear hcells hx
    refine LoneTo.goes (n := 60) ?_
    s_c stepG_seq
    s_reg
    s_op
    s_c stepG_region_end
    s_c stepG_seq
    s_cond true
    s_c stepG_skip
    s_c stepG_seq
    s_c stepG_block
    s_c stepG_seq
    s_reg
    s_op
    s_op
    s_op
    s_c stepG_region_end
    s_reg
    s_op
    s_op
    s_stop
    refine LoneTo.step (step_lone_send_room (c := w.heap.size) (cap := xs.length) (buf := (kflat (xs.take k)).toArray) (s := k) (r := 0) (tm := false) (stepG_comm (cases := #[scase w.heap.size (.int .i64 x) (.tuple #[])]) (blocking := true) (shape := .send) (w' := w') rfl rfl (by decide) (by simp [execOp, scase, Act.eval])) hc (by rw [hs]; exact hlt)) ?_
    rw [Frame.finish_at, hpush]
    walk_nrm
    refine LoneTo.goes (n := 60) ?_
    s_c stepG_region_end
    s_c stepG_inBlock
    s_reg
    s_op
    s_op
    s_c stepG_region_end
    s_stop
    exact LoneTo.done ⟨_, rfl, k + 1, _, _, _, _, _, _, _, by omega, rfl, heap_setChan _ _ _ _ _ _ _ _ hcl, below_setChan hb (Nat.le_refl _) _ _ _ _ _ _⟩
  · rintro a' w' ⟨k, u5, u12, u13, u14, u15, u16, u17, hk, rfl, hc, hb⟩
    obtain rfl : k = xs.length := by omega
    refine LoneTo.goes (n := 60) ?_
    s_c stepG_seq
    s_reg
    s_op
    s_c stepG_region_end
    s_c stepG_seq
    s_cond false
    s_exit
    s_c stepG_seq
    s_reg
    s_op
    s_op
    s_c stepG_region_end
    s_c stepG_ret'
    s_stop
    rw [List.take_length] at hc
    exact LoneTo.done ⟨.returned (.chan (some w.heap.size)), _, rfl, ⟨_, rfl, Nat.le_refl _, ⟨_, _, _, hc⟩, hb⟩, rfl, rfl, rfl, rfl, _, Try.func121, by simp [results, Try.f121, Frame.at]⟩
end Go.Proofs.Ytepnhbicmlfnhac
