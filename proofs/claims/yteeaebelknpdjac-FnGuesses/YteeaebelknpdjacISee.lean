/-
  impl's method see of a guess in a box: what was seen is reckoned in. Nothing but the guess is written.
-/
import Derived.Test.YteeaebelknpdjacGuSet
import Derived.Test.YteeaebelknpdjacGuBoxes
import Derived.Test.YteeaebelknpdjacITells
import Derived.Test.YteeaebelknpdjacIWholes
import Derived.Test.YteeaebelknpdjacIBuiltin9
import Derived.Deep.QuietTactic
import Derived.BigQuiet
import Derived.Deep.RegionWith
namespace Go.Proofs.Yteeaebelknpdjac
open Go.RowKit

set_option maxHeartbeats 4000000 in
theorem isee_lost (bx : Nat) (m s n b t : Int) (tw : Bool) (w : World) (hc : GuCells w bx (m, s, n, b)) (hf : GuFree w bx) (hg : GoodG (m, s, n, b)) :
    Calls Try.prog 103 #[.pointer (some ⟨bx, 0, none⟩), snV (t, tw, true)] w fun e w' => e = .returned (.tuple #[]) ∧ GuCells w' bx (m, s, n, min 6 (b + 1)) ∧ GuFree w' bx ∧ But (fun j => j = bx) w w' := by
  have hb := hg.b0
  have hb1 := hg.b1
  simp only at hb hb1
  clear hg
  have wb : IntKind.i64.wrap (b + 1) = b + 1 := by rw [IntKind.wrap_i64]; omega
  obtain ⟨b2, hb2⟩ : ∃ r, min 6 (b + 1) = r := ⟨_, rfl⟩
  have hmin := min9_run (b + 1) 6 b2 (by omega)
  rw [hb2]
  clear hb2
  have hlt := hc.lt
  have bl : Below w.heap.size w (w.alloc (snB (t, tw, true))) := (Below.refl _ _).alloc (Nat.le_refl _) _
  have hs : (w.setCell ⟨bx, 3, none⟩ (.int .i64 b2)).heap.size = w.heap.size := by simp [World.setCell]
  have bl2 : Below w.heap.size (w.setCell ⟨bx, 3, none⟩ (.int .i64 b2)) ((w.setCell ⟨bx, 3, none⟩ (.int .i64 b2)).alloc (snB (t, tw, true))) := (Below.refl _ _).alloc (by omega) _
  have C1 := hid (hc.below bl hlt)
  have F1 := hid (hf.below bl hlt)
  have C2 := hid ((hc.set3 b2).below bl2 hlt)
  have F2 : Hid (GuFree ((w.setCell ⟨bx, 3, none⟩ (.int .i64 b2)).alloc (snB (t, tw, true))) bx) := GuFree.below hf.set bl2 hlt
  have BB : Hid (But (fun j => j = bx) w ((w.setCell ⟨bx, 3, none⟩ (.int .i64 b2)).alloc (snB (t, tw, true)))) := ((But.refl _ _).setCell (P := fun j => j = bx) rfl _).alloc _
  clear hc hf bl bl2 hs
  obtain ⟨c0, c1, c2, c3⟩ := C1.out
  obtain ⟨f0, f1, f2, f3⟩ := F1.out
  go_enter Try.func103, Try.ntmps103
  go_wp2
  exact bodyPost_ret (v := .tuple #[]) (by simp [results, Try.results103]) rfl ⟨rfl, C2.out, F2.out, BB.out⟩
set_option maxHeartbeats 4000000 in
theorem isee_twice (bx : Nat) (m s n b t : Int) (w : World) (hc : GuCells w bx (m, s, n, b)) (hf : GuFree w bx) (hg : GoodG (m, s, n, b)) :
    Calls Try.prog 103 #[.pointer (some ⟨bx, 0, none⟩), snV (t, true, false)] w fun e w' => e = .returned (.tuple #[]) ∧ GuCells w' bx (m, s, min 1000 (n + 1), b) ∧ GuFree w' bx ∧ But (fun j => j = bx) w w' := by
  have hn := hg.n0
  have hn1 := hg.n1
  simp only at hn hn1
  clear hg
  have wn : IntKind.i64.wrap (n + 1) = n + 1 := by rw [IntKind.wrap_i64]; omega
  obtain ⟨n2, hn2⟩ : ∃ r, min 1000 (n + 1) = r := ⟨_, rfl⟩
  have hmin := min9_run (n + 1) 1000 n2 (by omega)
  rw [hn2]
  clear hn2
  have hlt := hc.lt
  have bl : Below w.heap.size w (w.alloc (snB (t, true, false))) := (Below.refl _ _).alloc (Nat.le_refl _) _
  have hs : (w.setCell ⟨bx, 2, none⟩ (.int .i64 n2)).heap.size = w.heap.size := by simp [World.setCell]
  have bl2 : Below w.heap.size (w.setCell ⟨bx, 2, none⟩ (.int .i64 n2)) ((w.setCell ⟨bx, 2, none⟩ (.int .i64 n2)).alloc (snB (t, true, false))) := (Below.refl _ _).alloc (by omega) _
  have C1 := hid (hc.below bl hlt)
  have F1 := hid (hf.below bl hlt)
  have C2 := hid ((hc.set2 n2).below bl2 hlt)
  have F2 : Hid (GuFree ((w.setCell ⟨bx, 2, none⟩ (.int .i64 n2)).alloc (snB (t, true, false))) bx) := GuFree.below hf.set bl2 hlt
  have BB : Hid (But (fun j => j = bx) w ((w.setCell ⟨bx, 2, none⟩ (.int .i64 n2)).alloc (snB (t, true, false)))) := ((But.refl _ _).setCell (P := fun j => j = bx) rfl _).alloc _
  clear hc hf bl bl2 hs
  obtain ⟨c0, c1, c2, c3⟩ := C1.out
  obtain ⟨f0, f1, f2, f3⟩ := F1.out
  go_enter Try.func103, Try.ntmps103
  go_wp2_with fail
  refine (itells_eq (t, true, false) false rfl _).mono ?_
  rintro e w2 ⟨rfl, hb⟩
  have C3 := hid (C2.out.below hb C2.out.lt)
  have F3 := hid (F2.out.below hb C2.out.lt)
  have B3 := hid (BB.out.trans (But.of hb))
  clear hb c0 c1 c2 c3 f0 f1 f2 f3
  go_wp2
  go_end0
  exact ⟨rfl, C3.out, F3.out, B3.out⟩
set_option maxHeartbeats 4000000 in
theorem isee_plain (bx : Nat) (m s n b t : Int) (w : World) (hc : GuCells w bx (m, s, n, b)) (hf : GuFree w bx) (hg : GoodG (m, s, n, b)) (ht : 0 ≤ t ∧ t ≤ 1000) :
    Calls Try.prog 103 #[.pointer (some ⟨bx, 0, none⟩), snV (t, false, false)] w fun e w' => e = .returned (.tuple #[]) ∧ GuCells w' bx (seeG (m, s, n, b) (t, false, false)) ∧ GuFree w' bx ∧ But (fun j => j = bx) w w' := by
  obtain ⟨h1, h2, h3, h4, h5, h6, h7, h8⟩ := hg
  simp only at h1 h2 h3 h4 h5 h6 h7 h8
  have wn : IntKind.i64.wrap (n + 1) = n + 1 := by rw [IntKind.wrap_i64]; omega
  obtain ⟨n2, hn2⟩ : ∃ r, min 1000 (n + 1) = r := ⟨_, rfl⟩
  have hmin := min9_run (n + 1) 1000 n2 (by omega)
  obtain ⟨q, hq⟩ : ∃ q, m / 8 = q := ⟨_, rfl⟩
  obtain ⟨p, hp⟩ : ∃ p, s / 4 = p := ⟨_, rfl⟩
  obtain ⟨d, hd⟩ : ∃ d, t - q = d := ⟨_, rfl⟩
  obtain ⟨a, ha⟩ : ∃ a, max d (-d) = a := ⟨_, rfl⟩
  obtain ⟨m2, hm2⟩ : ∃ a, m + d = a := ⟨_, rfl⟩
  obtain ⟨c, hcc⟩ : ∃ c, a - p = c := ⟨_, rfl⟩
  obtain ⟨s2, hs2⟩ : ∃ a, s + c = a := ⟨_, rfl⟩
  have HR : seeG (m, s, n, b) (t, false, false) = (m2, s2, n2, 0) := by
    show (m + (t - m / 8), s + (max (t - m / 8) (-(t - m / 8)) - s / 4), min 1000 (n + 1), (0 : Int)) = _
    rw [hq, hd, ha, hp, hcc, hn2, hs2, hm2]
  rw [HR]
  have wd : IntKind.i64.wrap (t - q) = d := by rw [IntKind.wrap_i64]; omega
  have wm : IntKind.i64.wrap (m + d) = m2 := by rw [IntKind.wrap_i64]; omega
  have wc : IntKind.i64.wrap (a - p) = c := by rw [IntKind.wrap_i64]; omega
  have ws : IntKind.i64.wrap (s + c) = s2 := by rw [IntKind.wrap_i64]; omega
  have wa : IntKind.i64.wrap (-d) = -d := by rw [IntKind.wrap_i64]; omega
  have hmax := max9_run d (-d) a ha
  have HQ := hid hq
  have HP := hid hp
  clear HR hn2 hd ha hm2 hcc hs2 hq hp
  have hlt := hc.lt
  have bl : Below w.heap.size w (w.alloc (snB (t, false, false))) := (Below.refl _ _).alloc (Nat.le_refl _) _
  have hs : (w.setCell ⟨bx, 2, none⟩ (.int .i64 n2)).heap.size = w.heap.size := by simp [World.setCell]
  have bl2 : Below w.heap.size (w.setCell ⟨bx, 2, none⟩ (.int .i64 n2)) ((w.setCell ⟨bx, 2, none⟩ (.int .i64 n2)).alloc (snB (t, false, false))) := (Below.refl _ _).alloc (by omega) _
  have C1 := hid (hc.below bl hlt)
  have F1 := hid (hf.below bl hlt)
  have C2 := hid ((hc.set2 n2).below bl2 hlt)
  have F2 : Hid (GuFree ((w.setCell ⟨bx, 2, none⟩ (.int .i64 n2)).alloc (snB (t, false, false))) bx) := GuFree.below hf.set bl2 hlt
  have X2 : Hid (SnBox ((w.setCell ⟨bx, 2, none⟩ (.int .i64 n2)).alloc (snB (t, false, false))) w.heap.size (t, false, false)) := by have := snalloc (w.setCell ⟨bx, 2, none⟩ (.int .i64 n2)) (t, false, false); rw [hs] at this; exact this
  have BB : Hid (But (fun j => j = bx) w ((w.setCell ⟨bx, 2, none⟩ (.int .i64 n2)).alloc (snB (t, false, false)))) := ((But.refl _ _).setCell (P := fun j => j = bx) rfl _).alloc _
  clear hc hf bl bl2 hs
  obtain ⟨c0, c1, c2, c3⟩ := C1.out
  obtain ⟨f0, f1, f2, f3⟩ := F1.out
  go_enter Try.func103, Try.ntmps103
  go_wp2_with fail
  refine (itells_eq (t, false, false) true rfl _).mono ?_
  rintro e w2 ⟨rfl, hb⟩
  have C3 := hid ((C2.out.below hb C2.out.lt).set3 0)
  have F3 := hid (F2.out.below hb C2.out.lt)
  have F4 : Hid (GuFree (w2.setCell ⟨bx, 3, none⟩ (.int .i64 0)) bx) := F3.out.set
  have X3 : Hid (SnBox (w2.setCell ⟨bx, 3, none⟩ (.int .i64 0)) w.heap.size (t, false, false)) := (X2.out.below hb X2.out.lt).set (by omega)
  have B3 : Hid (But (fun j => j = bx) w (w2.setCell ⟨bx, 3, none⟩ (.int .i64 0))) := (BB.out.trans (But.of hb)).setCell (P := fun j => j = bx) rfl _
  obtain ⟨k0, k1, k2, k3⟩ := C2.out.below hb C2.out.lt
  obtain ⟨f4, f5, f6, f7⟩ := F3.out
  clear hb c0 c1 c2 c3 f0 f1 f2 f3 C1 F1 C2 F2 X2 BB
  obtain ⟨c0, c1, c2, c3⟩ := C3.out
  obtain ⟨f0, f1, f2, f3⟩ := F4.out
  obtain ⟨x0, x1, x2⟩ := X3.out
  go_wp2_with fail
  go_quiet (exact Calls.quiet_of_same (wholes8 m q h1 h2 HQ.out _))
  have C5 : GuCells ((w2.setCell ⟨bx, 3, none⟩ (.int .i64 0)).drewN nq) bx (m, s, n2, 0) := C3.out
  have F5 : GuFree ((w2.setCell ⟨bx, 3, none⟩ (.int .i64 0)).drewN nq) bx := F4.out
  have B5 : But (fun j => j = bx) w ((w2.setCell ⟨bx, 3, none⟩ (.int .i64 0)).drewN nq) := ⟨⟨B3.out.1.os, B3.out.1.tape, B3.out.1.output, B3.out.1.size, B3.out.1.block⟩, B3.out.2⟩
  clear C3 F3 F4 X3 B3 k0 k1 k2 k3 f4 f5 f6 f7 c0 c1 c2 c3 f0 f1 f2 f3 x0 x1 x2
  generalize (w2.setCell ⟨bx, 3, none⟩ (.int .i64 0)).drewN nq = W3 at C5 F5 B5 ⊢
  have C6 := hid (C5.set0 m2)
  have F6 : Hid (GuFree (W3.setCell ⟨bx, 0, none⟩ (.int .i64 m2)) bx) := F5.set
  have B6 : Hid (But (fun j => j = bx) w (W3.setCell ⟨bx, 0, none⟩ (.int .i64 m2))) := B5.setCell (P := fun j => j = bx) rfl _
  obtain ⟨k0, k1, k2, k3⟩ := C5
  obtain ⟨g0, g1, g2, g3⟩ := F5
  obtain ⟨c0, c1, c2, c3⟩ := C6.out
  obtain ⟨f0, f1, f2, f3⟩ := F6.out
  clear B5
  have C7 : Hid (GuCells (((W3.setCell ⟨bx, 0, none⟩ (.int .i64 m2)).setCell ⟨bx, 1, none⟩ (.int .i64 s2)).drew) bx (m2, s2, n2, 0)) := (C6.out.set1 s2).drew
  have F7 : Hid (GuFree (((W3.setCell ⟨bx, 0, none⟩ (.int .i64 m2)).setCell ⟨bx, 1, none⟩ (.int .i64 s2)).drew) bx) := GuFree.set F6.out
  have B7 : Hid (But (fun j => j = bx) w (((W3.setCell ⟨bx, 0, none⟩ (.int .i64 m2)).setCell ⟨bx, 1, none⟩ (.int .i64 s2)).drew)) := (B6.out.setCell (P := fun j => j = bx) rfl _).drew
  go_wp2_with fail
  go_region_with (go_at_call 107; refine (wholes4 s p h3 h4 HP.out _).mono ?_; rintro e w' ⟨rfl, hw⟩; obtain rfl := hw.symm)
  all_goals (go_end0; exact ⟨rfl, C7.out, F7.out, B7.out⟩)
theorem isee_any (bx : Nat) (g : GuEl) (x : SnEl) (w : World) (hc : GuCells w bx g) (hf : GuFree w bx) (hg : GoodG g) (hx : okS x = true) :
    Calls Try.prog 103 #[.pointer (some ⟨bx, 0, none⟩), snV x] w fun e w' => e = .returned (.tuple #[]) ∧ GuCells w' bx (seeG g x) ∧ GuFree w' bx ∧ But (fun j => j = bx) w w' := by
  obtain ⟨m, s, n, b⟩ := g
  obtain ⟨t, tw, lo⟩ := x
  cases lo
  · cases tw
    · exact isee_plain bx m s n b t w hc hf hg (okS_took hx)
    · exact isee_twice bx m s n b t w hc hf hg
  · exact isee_lost bx m s n b t tw w hc hf hg
end Go.Proofs.Yteeaebelknpdjac
