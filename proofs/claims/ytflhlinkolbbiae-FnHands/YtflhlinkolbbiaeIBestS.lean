/-
  impl.bestSpan: the least span that can come of what is left, by recursion. Nothing old is written.
-/
import Derived.Test.YtflhlinkolbbiaeIChoiceB
import Derived.Test.YtflhlinkolbbiaeIUnl
import Derived.Test.YtflhlinkolbbiaeIMaxH
import Derived.Test.YtflhlinkolbbiaeKAppd
import Derived.Test.YtflhlinkolbbiaeIRows
import Derived.Deep.QuietTactic
import Derived.BigQuiet
import Derived.Laws.EntriesVeiled
namespace Go.Proofs.Ytflhlinkolbbiae
open Go.RowKit

/-- What has to be told of what is left. -/
def BestTells (H : Nat) (ls : List Nat) : Prop := ∀ (s : List Nat) (v vl : Value) (w : World), s.length = H → Zs s → (∀ h, s.getD h 0 + 50 * ls.length ≤ 400) → KReads w v (ofN s) → KReads w vl (ofN ls) →
  Calls Try.prog 81 #[v, vl] w fun e w' => e = .returned (.int .i64 (bestB H ls s : Nat)) ∧ Below w.heap.size w w'
set_option maxRecDepth 100000 in
set_option maxHeartbeats 8000000 in
theorem ibestC_eq (H p : Nat) (l : List Nat) (hp1 : 1 ≤ p) (hp2 : p ≤ 50) (ih : BestTells H l) (s : List Nat) (hs : s.length = H) (hH : 1 ≤ H ∧ H ≤ 4) (hz : Zs s) (hb : ∀ h, s.getD h 0 + 50 * (p :: l).length ≤ 400)
    (b1 b2 g o n cap : Nat) (hn : n = l.length) (vs : Value) (w : World) (c1 : w.cell? ⟨b1, 0, none⟩ = some vs) (c2 : w.cell? ⟨b2, 0, none⟩ = some (.slice (some ⟨g, o, none⟩) (n + 1) cap)) (hle : n + 1 ≤ cap) (r1 : KReads w vs (ofN s)) (r2 : KReads w (.slice (some ⟨g, o, none⟩) (n + 1) cap) (ofN (p :: l))) (k : Nat) (hk : k < unlk s) :
    Calls Try.prog 115 #[.int .i64 (k : Nat), .pointer (some ⟨b1, 0, none⟩), .pointer (some ⟨b2, 0, none⟩)] w fun e w' => e = .returned (.int .i64 (bestB H l (addAt s k p) : Nat)) ∧ Below w.heap.size w w' := by
  have R1 := hid r1
  have R2 := hid r2
  have IH := hid ih
  have hkH : k < H := by rw [← hs]; exact Nat.lt_of_lt_of_le hk (unl_le s)
  have HZ : Hid (Zs (addAt s k p)) := Zs_add hz (by omega) hk
  have HSl : Hid (s.length = H) := hs
  have hb1 := hb k
  simp only [List.length_cons] at hb1
  have HBd : Hid (∀ h, (addAt s k p).getD h 0 + 50 * l.length ≤ 400) := fun h => by
    have := hb h
    simp only [List.length_cons] at this
    rw [addAt_getD _ _ _ (by rw [hs]; exact hkH)]
    split <;> omega
  have HN := hid hn
  obtain ⟨x, hx⟩ : ∃ x, x = s.getD k 0 := ⟨_, rfl⟩
  rw [← hx] at hb1
  have HX := hid hx
  obtain ⟨t, ht⟩ : ∃ t, t = x + p := ⟨_, rfl⟩
  have HT := hid ht
  have wr1 : IntKind.i64.wrap ((x : Int) + (p : Int)) = (t : Int) := by rw [IntKind.wrap_i64]; omega
  have hl1 : (ofN s).length ≤ 1000 := by rw [List.length_map, hs]; omega
  obtain ⟨r, hr⟩ : ∃ r, bestB H l (addAt s k p) = r := ⟨_, rfl⟩
  rw [hr]
  have HRr := hid hr
  have D2 := hid c2
  have C1 := hid c1
  clear r1 r2 ih hz hb hs hn hx ht hr c1 c2
  have c1 := C1.out
  go_enter Try.func115, Try.ntmps115
  go_wp2_with fail
  refine (kclone_any vs (ofN s) _ R1.out hl1).mono ?_
  rintro e w1 ⟨u, rfl, _, happ, hbw⟩
  have hH1 : 0 < H := by omega
  obtain ⟨gu, cu, rfl, hgu, hrow⟩ : ∃ g cap, u = .slice (some ⟨g, 0, none⟩) H cap ∧ w.heap.size ≤ g ∧ IRow w1 g H cap (ofN s) := by
    rcases happ with ⟨h, _⟩ | ⟨h, _⟩
    · have := HSl.out; rw [List.map_eq_nil_iff] at h; rw [h] at this; simp at this; omega
    · rw [List.length_map, HSl.out] at h; exact irow_ofB h hH1
  have HRow := hid hrow
  have HB := hid hbw
  have d2 : w1.cell? ⟨b2, 0, none⟩ = some (.slice (some ⟨g, o, none⟩) (n + 1) cap) := (hbw.cell (p := ⟨b2, 0, none⟩) (lt_of_cell D2.out)).trans D2.out
  obtain ⟨gg, og, cg, e, hcg⟩ := (R2.out.below hbw).cells 0 (by simp [ofN])
  have e2 : (ofN (p :: l)).length = n + 1 := by rw [List.length_map, List.length_cons, HN.out]
  rw [e2] at e
  cases e
  have xp : w1.cell? ⟨g, o, none⟩ = some (.int .i64 (p : Nat)) := by have := hcg 0 (by rw [e2]; omega); rw [ofN_at] at this; exact this
  have xk : w1.cell? ⟨gu, k, none⟩ = some (.int .i64 (x : Nat)) := by have := hrow.cell (i := k) hkH; rw [ofN_at, ← HX.out] at this; exact this
  have fk : w1.frozen? ⟨gu, k, none⟩ = false := hrow.free k
  have D3 : Hid ((w1.setCell ⟨gu, k, none⟩ (.int .i64 (t : Nat))).cell? ⟨b2, 0, none⟩ = some (.slice (some ⟨g, o, none⟩) (n + 1) cap)) := (World.cell?_setCell_other _ _ _ _ (by have := lt_of_cell D2.out; simp <;> omega)).trans d2
  have HR3 : Hid (IRow (w1.setCell ⟨gu, k, none⟩ (.int .i64 (t : Nat))) gu H cu (ofN (addAt s k p))) := by
    have := hrow.set k (t : Nat)
    rw [ofN_setI, HT.out, HX.out] at this
    rw [HT.out, HX.out]
    exact this
  have B3 : Hid (Below w.heap.size w (w1.setCell ⟨gu, k, none⟩ (.int .i64 (t : Nat))).drew) := (hbw.setCell hgu _).drew
  have K1 : Hid (KReads (w1.setCell ⟨gu, k, none⟩ (.int .i64 (t : Nat))).drew (.slice (some ⟨gu, 0, none⟩) H cu) (ofN (addAt s k p))) := (HR3.out.at (w' := (w1.setCell ⟨gu, k, none⟩ (.int .i64 (t : Nat))).drew) rfl).reads (by omega)
  have K2 : Hid (∀ c', n ≤ c' → KReads (w1.setCell ⟨gu, k, none⟩ (.int .i64 (t : Nat))).drew (.slice (some ⟨g, o + 1, none⟩) n c') (ofN l)) := fun c' hc' => kreads_tailB (R2.out.below B3.out) HN.out.symm hc'
  have K0 : Hid (n = 0 → KReads (w1.setCell ⟨gu, k, none⟩ (.int .i64 (t : Nat))).drew (.slice (some ⟨g, o, none⟩) n 0) (ofN l)) := fun h0 => by
    have : l = [] := List.eq_nil_of_length_eq_zero (by rw [← HN.out]; exact h0)
    rw [this, h0]
    exact kreads_nil _ _ _
  have KL : Hid ((addAt s k p).length = H) := by show _ = _; rw [addAt_len]; exact HSl.out
  have n0 : (0 : Int) ≤ (k : Int) := by omega
  have n1 : (k : Int) < (H : Int) := by omega
  have n2 : (0 : Int) < ((n : Int) + 1) := by omega
  have hgl : g < w.heap.size := by
    obtain ⟨_, _, _, e, h⟩ := R2.out.cells 0 (by rw [e2]; omega)
    cases e
    exact lt_of_cell (h 0 (by rw [e2]; omega))
  have HGl := hid hgl
  clear hrow hbw happ hcg e2 hgl
  go_wp2_with fail
  go_big_region
  have d3 := D3.out
  go_wp2_with fail
  · refine (IH.out (addAt s k p) _ _ _ KL.out HZ.out HBd.out K1.out (K0.out (by omega))).mono ?_
    rintro e w2 ⟨rfl, hb2⟩
    have B4 : Hid (Below w.heap.size w w2) := B3.out.trans (hb2.mono B3.out.size)
    clear hb2
    rw [HRr.out]
    go_wp2
    go_ret
    exact ⟨rfl, B4.out⟩
  · refine (IH.out (addAt s k p) _ _ _ KL.out HZ.out HBd.out K1.out (K2.out _ (by omega))).mono ?_
    rintro e w2 ⟨rfl, hb2⟩
    have B4 : Hid (Below w.heap.size w w2) := B3.out.trans (hb2.mono B3.out.size)
    clear hb2
    rw [HRr.out]
    go_wp2
    go_ret
    exact ⟨rfl, B4.out⟩
set_option maxRecDepth 100000 in
set_option maxHeartbeats 8000000 in
theorem ibestS_nil (H : Nat) (hH : 1 ≤ H ∧ H ≤ 4) : BestTells H [] := by
  intro s v vl w hs hz hb r1 r2
  obtain ⟨a1, p1, hv, _, _⟩ := (show KReads w v (ofN s) from r1)
  rw [List.length_map, hs] at hv
  subst hv
  have R1 := hid r1
  have HSl : Hid (s.length = H) := hs
  have HH := hid hH
  obtain ⟨a2, p2, rfl, _, _⟩ := r2
  obtain ⟨r, hr⟩ : ∃ r, maxN s = r := ⟨_, rfl⟩
  have HR := hid hr
  rw [show bestB H [] s = r from hr]
  clear hz hb hs hH hr r1
  have el : (ofN ([] : List Nat)).length = 0 := rfl
  rw [el]
  have P1 := boxL_new w [.slice a1 H p1] 48
  have c1 : ((w.alloc (.cells #[.slice a1 H p1] 48)).alloc (.cells #[.slice a2 0 p2] 48)).cell? ⟨w.heap.size, 0, none⟩ = some (.slice a1 H p1) := ((P1.below ((Below.refl _ _).alloc (Nat.le_refl _) _) (by simp)).cell 0 (by simp)).1
  have B1 : Hid (Below w.heap.size w ((w.alloc (.cells #[.slice a1 H p1] 48)).alloc (.cells #[.slice a2 0 p2] 48))) := ((Below.refl _ _).alloc (Nat.le_refl _) _).alloc (by simp) _
  clear P1 el
  go_enter Try.func81, Try.ntmps81
  go_wp2_with fail
  refine (imaxH_eq _ s r HR.out _ (R1.out.below B1.out) (by rw [HSl.out]; exact HH.out.1) (by rw [HSl.out]; have := HH.out.2; omega)).mono ?_
  rintro e w' ⟨rfl, hw⟩; obtain rfl := hw.symm
  go_wp2
  go_ret
  exact ⟨rfl, B1.out⟩
set_option maxRecDepth 100000 in
set_option maxHeartbeats 8000000 in
theorem ibestS_cons (H p : Nat) (l : List Nat) (hH : 1 ≤ H ∧ H ≤ 4) (hp1 : 1 ≤ p) (hp2 : p ≤ 50) (ih : BestTells H l) : BestTells H (p :: l) := by
  intro s v vl w hs hz hb r1 r2
  obtain ⟨a1, p1, hv, _, _⟩ := (show KReads w v (ofN s) from r1)
  rw [List.length_map, hs] at hv
  subst hv
  have R1 := hid r1
  have R2 := hid r2
  have IH := hid ih
  have HZ := hid hz
  have HBd := hid hb
  have HSl : Hid (s.length = H) := hs
  have HH := hid hH
  have HP : Hid (1 ≤ p ∧ p ≤ 50) := ⟨hp1, hp2⟩
  obtain ⟨g, o, cap, e, hcg⟩ := r2.cells 0 (by simp [ofN])
  have e2 : (ofN (p :: l)).length = l.length + 1 := by rw [List.length_map, List.length_cons]
  rw [e2] at e
  subst e
  obtain ⟨_, capx, ex, hlx, _⟩ := r2
  have hle : l.length + 1 ≤ cap := by rw [e2] at hlx ex; cases ex; exact hlx.2
  obtain ⟨n, hn⟩ : ∃ n, n = l.length := ⟨_, rfl⟩
  rw [← hn] at hle R2 ⊢
  have HN := hid hn
  obtain ⟨u, hu⟩ : ∃ u, unlk s = u := ⟨_, rfl⟩
  have HU := hid hu
  have hu0 : Hid (0 < u) := by rw [← hu]; exact unl_pos (by rw [hs]; exact hH.1)
  have hu4 : Hid (u ≤ 1000) := by rw [← hu]; have := unl_le s; rw [hs] at this; have := hH.2; show _ ≤ _; omega
  obtain ⟨r, hr⟩ : ∃ r, bestB H (p :: l) s = r := ⟨_, rfl⟩
  rw [hr]
  have HR : Hid ((fun h => bestB H l (addAt s h p)) (bestN (fun h => bestB H l (addAt s h p)) u) = r) := by
    show _ = _
    rw [← hr, ← hu]
    exact best_unl hH.1 l p hs hz
  have dn : decide ((n : Int) + 1 = 0) = false := by rw [decide_eq_false_iff_not]; omega
  have P1 := boxL_new w [.slice a1 H p1] 48
  have P2 := boxL_new (w.alloc (.cells #[.slice a1 H p1] 48)) [.slice (some ⟨g, o, none⟩) (n + 1) cap] 48
  rw [World.size_alloc] at P2
  have C1 : Hid (((w.alloc (.cells #[.slice a1 H p1] 48)).alloc (.cells #[.slice (some ⟨g, o, none⟩) (n + 1) cap] 48)).cell? ⟨w.heap.size, 0, none⟩ = some (.slice a1 H p1)) := ((P1.below ((Below.refl _ _).alloc (Nat.le_refl _) _) (by simp)).cell 0 (by simp)).1
  have C2 : Hid (((w.alloc (.cells #[.slice a1 H p1] 48)).alloc (.cells #[.slice (some ⟨g, o, none⟩) (n + 1) cap] 48)).cell? ⟨w.heap.size + 1, 0, none⟩ = some (.slice (some ⟨g, o, none⟩) (n + 1) cap)) := (P2.cell 0 (by simp)).1
  have B2 : Hid (Below w.heap.size w ((w.alloc (.cells #[.slice a1 H p1] 48)).alloc (.cells #[.slice (some ⟨g, o, none⟩) (n + 1) cap] 48))) := ((Below.refl _ _).alloc (Nat.le_refl _) _).alloc (by simp) _
  have P3 := boxL_new ((w.alloc (.cells #[.slice a1 H p1] 48)).alloc (.cells #[.slice (some ⟨g, o, none⟩) (n + 1) cap] 48)) [.int .i64 (u : Nat), .func (.func 115) #[] #[.pointer (some ⟨w.heap.size, 0, none⟩), .pointer (some ⟨w.heap.size + 1, 0, none⟩)]] 110
  rw [World.size_alloc, World.size_alloc] at P3
  obtain ⟨q0, q1⟩ := P3.two
  have B3 : Hid (Below w.heap.size w (((w.alloc (.cells #[.slice a1 H p1] 48)).alloc (.cells #[.slice (some ⟨g, o, none⟩) (n + 1) cap] 48)).alloc (.cells #[.int .i64 (u : Nat), .func (.func 115) #[] #[.pointer (some ⟨w.heap.size, 0, none⟩), .pointer (some ⟨w.heap.size + 1, 0, none⟩)]] 110))) := B2.out.alloc B2.out.size _
  have Q0 := hid q0
  have Q1 := hid q1
  have B23 : Hid (Below (w.heap.size + 1 + 1) ((w.alloc (.cells #[.slice a1 H p1] 48)).alloc (.cells #[.slice (some ⟨g, o, none⟩) (n + 1) cap] 48)) (((w.alloc (.cells #[.slice a1 H p1] 48)).alloc (.cells #[.slice (some ⟨g, o, none⟩) (n + 1) cap] 48)).alloc (.cells #[.int .i64 (u : Nat), .func (.func 115) #[] #[.pointer (some ⟨w.heap.size, 0, none⟩), .pointer (some ⟨w.heap.size + 1, 0, none⟩)]] 110))) := (Below.refl _ _).alloc (by simp) _
  have HCost : Hid (CostB (((w.alloc (.cells #[.slice a1 H p1] 48)).alloc (.cells #[.slice (some ⟨g, o, none⟩) (n + 1) cap] 48)).alloc (.cells #[.int .i64 (u : Nat), .func (.func 115) #[] #[.pointer (some ⟨w.heap.size, 0, none⟩), .pointer (some ⟨w.heap.size + 1, 0, none⟩)]] 110)) (.pointer (some ⟨w.heap.size, 0, none⟩)) (.pointer (some ⟨w.heap.size + 1, 0, none⟩)) (fun h => bestB H l (addAt s h p)) u) := by
    intro W hW k hk
    have hww : Below w.heap.size w W := B3.out.trans (hW.mono B3.out.size)
    have h23 : Below (w.heap.size + 1 + 1) ((w.alloc (.cells #[.slice a1 H p1] 48)).alloc (.cells #[.slice (some ⟨g, o, none⟩) (n + 1) cap] 48)) W := B23.out.trans (hW.mono (by simp))
    exact ibestC_eq H p l HP.out.1 HP.out.2 IH.out s HSl.out HH.out HZ.out HBd.out w.heap.size (w.heap.size + 1) g o n cap HN.out _ W ((h23.cell (p := ⟨w.heap.size, 0, none⟩) (by show w.heap.size < _; omega)).trans C1.out) ((h23.cell (p := ⟨w.heap.size + 1, 0, none⟩) (by show w.heap.size + 1 < _; omega)).trans C2.out) hle (R1.out.below hww) (R2.out.below hww) k (by rw [HU.out]; exact hk)
  clear hz hb hs hH hp1 hp2 ih r1 hcg e2 ex hlx hn hu hr P1 P2 P3 q0 q1
  have c1 := C1.out
  have c2 := C2.out
  go_enter Try.func81, Try.ntmps81
  go_wp2_with fail
  refine (iunl_eq _ s u HU.out _ (by rw [HSl.out]; have := HH.out.2; omega) (R1.out.below B2.out)).mono ?_
  rintro e w' ⟨rfl, hw⟩; obtain rfl := hw.symm
  clear c1 c2
  have q0 := Q0.out
  have q1 := Q1.out
  go_wp2_with fail
  refine (ibestB_any _ _ (fun h => bestB H l (addAt s h p)) u hu0.out hu4.out _ HCost.out).mono ?_
  rintro e w4 ⟨rfl, hb4⟩
  have B4 : Hid (Below w.heap.size w w4) := B3.out.trans (hb4.mono B3.out.size)
  rw [HR.out]
  clear hb4 q0 q1
  go_wp2
  go_ret
  exact ⟨rfl, B4.out⟩
theorem ibestS_any (H : Nat) (hH : 1 ≤ H ∧ H ≤ 4) : ∀ ls : List Nat, (∀ p, p ∈ ls → 1 ≤ p ∧ p ≤ 50) → BestTells H ls
  | [], _ => ibestS_nil H hH
  | p :: l, h => ibestS_cons H p l hH (h p (List.mem_cons_self ..)).1 (h p (List.mem_cons_self ..)).2 (ibestS_any H hH l fun q hq => h q (List.mem_cons_of_mem _ hq))
end Go.Proofs.Ytflhlinkolbbiae
