/-
  spec.NewCourt: a court of ends, nothing said yet.
-/
import Derived.Test.YtdlkilacnnjglaaCoU
import Derived.Test.YtdlkilacnnjglaaNewCoF
import Derived.Test.YtdlkilacnnjglaaSAll7
import Derived.Deep.DeepCutAuto
namespace Go.Proofs.Ytdlkilacnnjglaa
open Go.RowKit

set_option maxRecDepth 100000 in
set_option maxHeartbeats 16000000 in
theorem snewCo_any (v : Value) (es : List Int) (D : CoD) (t : Bool) (hD : newC es = (D, t)) (w : World) (hr : KReads w v es) :
    Calls Try.prog 9 #[v] w fun e w' => ∃ u, e = .returned (.tuple #[u, .bool t]) ∧ CoU w.heap.size w' u D ∧ Below w.heap.size w w' := by
  have HR := hid hr
  obtain ⟨a, cap, rfl, ⟨hl, _⟩, _⟩ := hr
  unfold newC at hD
  obtain ⟨b2, e2⟩ : ∃ b, (es.all fun k => decide (0 ≤ k ∧ k ≤ 100)) = b := ⟨_, rfl⟩
  rw [e2] at hD
  have E2 := hid e2
  have BW : Hid (Below w.heap.size w (w.alloc (.cells #[.int .i64 0, .slice none 0 0, .slice none 0 0] 26))) := (Below.refl _ _).alloc (Nat.le_refl _) _
  have RB := hid (boxL_new w [.int .i64 0, .slice none 0 0, .slice none 0 0] 26)
  have UZ := hid (rowsC_bare w.heap.size w)
  obtain ⟨W, hW⟩ : ∃ W, W = w.alloc (.cells #[.int .i64 0, .slice none 0 0, .slice none 0 0] 26) := ⟨_, rfl⟩
  rw [← hW] at BW RB
  have HW := hid hW
  clear hW e2
  go_enter Try.func9, Try.ntmps9
  go_upto_region 1 with fail
  rw [← HW.out]
  clear HW
  by_cases h6 : es.length ≤ 6
  rotate_left
  · have d6 : decide ((es.length : Int) > 6) = true := by rw [decide_eq_true_eq]; omega
    rw [decide_eq_false h6, Bool.false_and, if_neg (by decide), Prod.mk.injEq] at hD
    obtain ⟨rfl, rfl⟩ := hD
    obtain ⟨r0, r1, r2⟩ := RB.out.three
    obtain ⟨f0, f1, f2⟩ := RB.out.frozen3
    have SB : Hid (BoxL (((W.setCell ⟨w.heap.size, 0, none⟩ (.int .i64 0)).setCell ⟨w.heap.size, 1, none⟩ (.slice none 0 0)).setCell ⟨w.heap.size, 2, none⟩ (.slice none 0 0)) w.heap.size [.int .i64 0, .slice none 0 0, .slice none 0 0]) := ((RB.out.set 0 (by simp) _).set 1 (by simp) _).set 2 (by simp) _
    have BF : Hid (Below w.heap.size w (((W.setCell ⟨w.heap.size, 0, none⟩ (.int .i64 0)).setCell ⟨w.heap.size, 1, none⟩ (.slice none 0 0)).setCell ⟨w.heap.size, 2, none⟩ (.slice none 0 0))) := ((BW.out.setCell (Nat.le_refl _) _).setCell (Nat.le_refl _) _).setCell (Nat.le_refl _) _
    obtain ⟨s0, s1, s2⟩ := SB.out.three
    clear h6
    go_wp2
    exact bodyPost_ret (v := .tuple #[coV zeroCo (.slice none 0 0) (.slice none 0 0), .bool false]) (by simp [results, Try.results9, go_sem, s0, s1, s2, zeroCo]) rfl ⟨_, rfl, ⟨_, _, rfl, rowsC_bare _ _⟩, BF.out⟩
  have d6 : decide ((es.length : Int) > 6) = false := by rw [decide_eq_false_iff_not]; omega
  rw [decide_eq_true h6, Bool.true_and] at hD
  go_wp2_with fail
  refine (l1All7_eq _ es 0 100 b2 E2.out _ (HR.out.below BW.out)).mono ?_
  rintro e w1 ⟨rfl, hw⟩; obtain rfl := hw.symm
  obtain ⟨w1, rfl⟩ : ∃ w1, w1 = W := ⟨_, rfl⟩
  cases b2
  · rw [if_neg (by decide), Prod.mk.injEq] at hD
    obtain ⟨rfl, rfl⟩ := hD
    obtain ⟨r0, r1, r2⟩ := RB.out.three
    obtain ⟨f0, f1, f2⟩ := RB.out.frozen3
    have SB : Hid (BoxL (((w1.setCell ⟨w.heap.size, 0, none⟩ (.int .i64 0)).setCell ⟨w.heap.size, 1, none⟩ (.slice none 0 0)).setCell ⟨w.heap.size, 2, none⟩ (.slice none 0 0)) w.heap.size [.int .i64 0, .slice none 0 0, .slice none 0 0]) := ((RB.out.set 0 (by simp) _).set 1 (by simp) _).set 2 (by simp) _
    have BF : Hid (Below w.heap.size w (((w1.setCell ⟨w.heap.size, 0, none⟩ (.int .i64 0)).setCell ⟨w.heap.size, 1, none⟩ (.slice none 0 0)).setCell ⟨w.heap.size, 2, none⟩ (.slice none 0 0))) := ((BW.out.setCell (Nat.le_refl _) _).setCell (Nat.le_refl _) _).setCell (Nat.le_refl _) _
    obtain ⟨s0, s1, s2⟩ := SB.out.three
    clear h6
    go_wp2
    exact bodyPost_ret (v := .tuple #[coV zeroCo (.slice none 0 0) (.slice none 0 0), .bool false]) (by simp [results, Try.results9, go_sem, s0, s1, s2, zeroCo]) rfl ⟨_, rfl, ⟨_, _, rfl, rowsC_bare _ _⟩, BF.out⟩
  rw [if_pos rfl, Prod.mk.injEq] at hD
  obtain ⟨rfl, rfl⟩ := hD
  have hlt0 := RB.out.lt
  have HLT := hid hlt0
  have GB := hid (boxL_new w1 [.int .i64 0, .slice none 0 0, .slice none 0 0] 26)
  replace RB := hid (RB.out.below ((Below.refl w1.heap.size w1).alloc (Nat.le_refl _) (.cells #[.int .i64 0, .slice none 0 0, .slice none 0 0] 26)) hlt0)
  replace BW := hid (BW.out.alloc BW.out.size (.cells #[.int .i64 0, .slice none 0 0, .slice none 0 0] 26))
  obtain ⟨W2, hW2⟩ : ∃ W2, W2 = w1.alloc (.cells #[.int .i64 0, .slice none 0 0, .slice none 0 0] 26) := ⟨_, rfl⟩
  rw [← hW2] at GB RB BW
  have HW2 := hid hW2
  clear hW2 hlt0
  go_upto_region 4 with fail
  rw [← HW2.out]
  clear HW2
  go_wp2
  go_loopw [18] (fun i wr => ∃ (k : Nat) (v1 : Value), k ≤ es.length ∧ i = .int .i64 k ∧ BoxL wr w1.heap.size [.int .i64 0, v1, .slice none 0 0] ∧ wr.ownsRow (w1.heap.size + 1) 70 4 v1 k (caflat (casesOf (es.take k))) ∧ BoxL wr w.heap.size [.int .i64 0, .slice none 0 0, .slice none 0 0] ∧ Below w.heap.size w wr) (fun i _ => es.length - (intOf i).toNat)
  case atStart => exact ⟨0, .slice none 0 0, Nat.zero_le _, rfl, GB.out, caowns_nil _ _, RB.out, BW.out⟩
  case round =>
    obtain ⟨k, v1, hk, rfl, hb, ho, hrb, hbel⟩ := hrel
    obtain ⟨a1, c1, rfl, hc1⟩ := caowns_form ho
    have PB := hid hb
    have HO := hid ho
    have PR := hid hrb
    have HB := hid hbel
    clear hb ho hrb hbel
    obtain ⟨q0, q1, q2⟩ := PB.out.three
    obtain ⟨g0, g1, g2⟩ := PB.out.frozen3
    by_cases hlt : k < es.length
    · obtain ⟨g, o, cap', e, hc⟩ := (HR.out.below HB.out).cells k hlt
      cases e
      have c0 : wr.cell? ⟨g, o + k, none⟩ = some (.int .i64 (es.getD k 0)) := hc k hlt
      have HTK : Hid (casesOf (es.take (k + 1)) = casesOf (es.take k) ++ [(es.getD k 0, false, 0, 0)]) := casesOf_take es k hlt
      generalize es.getD k 0 = x at c0 HTK
      clear hc
      have bA : Below wr.heap.size wr (wr.alloc (.cells #[.int .i64 x, .bool false, .int .i64 0, .int .i64 0] 70)) := (Below.refl _ _).alloc (Nat.le_refl _) _
      have PA := hid (PB.out.below bA PB.out.lt)
      have PRA := hid (PR.out.below bA PR.out.lt)
      have HOA := hid (caowns_at HO.out fun g' h1 h2 => bA.block g' h2)
      have HSB : Hid (w1.heap.size + 1 ≤ wr.heap.size) := PB.out.lt
      go_wp2_with (at_builtin; refine wpList_append_ca _ rfl _ _ rfl (w1.heap.size + 1) _ k (casesOf (es.take k)) rfl HOA.out _ [(x, false, 0, 0)] rfl (careads_one wr (x, false, 0, 0) _) (by simp; omega) (by rw [World.size_alloc]; have := HSB.out; omega) ?_)
      intro u1 w3 ho hg hat
      obtain ⟨au, cu, rfl, _⟩ := caowns_form (n := k + 1) ho
      have hne : (Value.slice a1 k c1).ownBlock ≠ some w1.heap.size := fun e => by have := (caowns_lt HO.out _ e).1; omega
      have hne2 : (Value.slice a1 k c1).ownBlock ≠ some w.heap.size := fun e => by have := (caowns_lt HO.out _ e).1; have := HLT.out; omega
      have hnu : (Value.slice au (k + 1) cu).ownBlock ≠ some w1.heap.size := fun e => by have := (caowns_lt ho _ e).1; omega
      replace PB := hid (PA.out.grownB hg hne)
      replace PR := hid (PRA.out.grownB hg hne2)
      have HB3 : Hid (Below w.heap.size w w3) := (((But.of (P := fun k2 => (Value.slice a1 k c1).ownBlock = some k2) HB.out).alloc _).grown hg fun k2 hk2 => hk2).to (Nat.le_refl _) fun k2 hk2 hb => by have := (caowns_lt HO.out _ hb).1; have := HLT.out; omega
      clear q0 q1 q2 g0 g1 g2
      obtain ⟨q0, q1, q2⟩ := PB.out.three
      obtain ⟨g0, g1, g2⟩ := PB.out.frozen3
      have HO3 := hid (HTK.out ▸ ho)
      have HNU := hid hnu
      clear ho hg hat hne hne2 hnu HO HOA PA PRA bA HB
      have oB : But (fun j => j = w1.heap.size) w3 (w3.setCell ⟨w1.heap.size, 1, none⟩ (.slice au (k + 1) cu)) := (But.refl _ _).setCell (P := fun j => j = w1.heap.size) (p := ⟨w1.heap.size, 1, none⟩) rfl _
      have OB := hid oB
      clear oB
      go_wp2
      go_roundw
      case rel => exact ⟨k + 1, _, by omega, by go_num, PB.out.set 1 (by simp) _, owns_but HO3.out OB.out (fun j hj e => HNU.out (e ▸ hj)), PR.out.but OB.out (by have := HLT.out; omega), HB3.out.setCell (by show w.heap.size ≤ w1.heap.size; have := HLT.out; omega) _⟩
      case measure => simp [intOf]; omega
    · obtain rfl : k = es.length := by omega
      rw [List.take_length] at HO
      obtain ⟨r0, r1, r2⟩ := PR.out.three
      obtain ⟨f0, f1, f2⟩ := PR.out.frozen3
      have oB : But (fun j => j = w.heap.size) wr (((wr.setCell ⟨w.heap.size, 0, none⟩ (.int .i64 0)).setCell ⟨w.heap.size, 1, none⟩ (.slice a1 es.length c1)).setCell ⟨w.heap.size, 2, none⟩ (.slice none 0 0)) :=
        (((But.refl _ _).setCell (P := fun j => j = w.heap.size) (p := ⟨w.heap.size, 0, none⟩) rfl _).setCell (P := fun j => j = w.heap.size) (p := ⟨w.heap.size, 1, none⟩) rfl _).setCell (P := fun j => j = w.heap.size) (p := ⟨w.heap.size, 2, none⟩) rfl _
      have SB : Hid (BoxL (((wr.setCell ⟨w.heap.size, 0, none⟩ (.int .i64 0)).setCell ⟨w.heap.size, 1, none⟩ (.slice a1 es.length c1)).setCell ⟨w.heap.size, 2, none⟩ (.slice none 0 0)) w.heap.size [.int .i64 0, .slice a1 es.length c1, .slice none 0 0]) := ((PR.out.set 0 (by simp) _).set 1 (by simp) _).set 2 (by simp) _
      have BF : Hid (Below w.heap.size w (((wr.setCell ⟨w.heap.size, 0, none⟩ (.int .i64 0)).setCell ⟨w.heap.size, 1, none⟩ (.slice a1 es.length c1)).setCell ⟨w.heap.size, 2, none⟩ (.slice none 0 0))) := ((HB.out.setCell (Nat.le_refl _) _).setCell (Nat.le_refl _) _).setCell (Nat.le_refl _) _
      have HOF : Hid (RowsC w.heap.size (((wr.setCell ⟨w.heap.size, 0, none⟩ (.int .i64 0)).setCell ⟨w.heap.size, 1, none⟩ (.slice a1 es.length c1)).setCell ⟨w.heap.size, 2, none⟩ (.slice none 0 0)) (.slice a1 es.length c1) (.slice none 0 0) (casesOf es) []) := by
        refine ⟨?_, slowns_nil _ _, by rw [length_casesOf]; omega, by decide⟩
        rw [length_casesOf]
        exact owns_but (caowns_mono HO.out (by have := HLT.out; omega)) oB fun j hj e => by have := (caowns_lt HO.out _ hj).1; have := HLT.out; omega
      obtain ⟨s0, s1, s2⟩ := SB.out.three
      clear oB
      go_wp2
      exact bodyPost_ret (v := .tuple #[coV ⟨0, casesOf es, []⟩ (.slice a1 es.length c1) (.slice none 0 0), .bool true]) (by simp [results, Try.results9, go_sem, s0, s1, s2]) rfl ⟨_, rfl, ⟨_, _, rfl, HOF.out⟩, BF.out⟩
end Go.Proofs.Ytdlkilacnnjglaa
