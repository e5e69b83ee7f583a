/-
  impl.FirstOverload: the first while with too much in it. Nothing old is written.
-/
import Derived.Test.YtobkockikpgcoabIWhiles
import Derived.Test.YtobkockikpgcoabIJob
import Derived.Test.YtobkockikpgcoabIDem
import Derived.Test.YtobkockikpgcoabRes4
import Derived.Test.YtobkockikpgcoabRFKit
namespace Go.Proofs.Ytobkockikpgcoab
open Go.RowKit Go.Shelf
attribute [local go_sem] Oper.semAt_some

/-- The five boxes of FirstOverload: the list, and what is to be told. -/
def OvBox (n0 : Nat) (v r0 r1 r2 r3 : Value) (W : World) : Prop :=
  Boxed W n0 23 v ∧ Boxed W (n0 + 1) 3 r0 ∧ Boxed W (n0 + 1 + 1) 3 r1 ∧ Boxed W (n0 + 1 + 1 + 1) 4 r2 ∧ Boxed W (n0 + 1 + 1 + 1 + 1) 4 r3
theorem OvBox.own {β : Type} (n0 : Nat) (v : Value) (r0 r1 r2 r3 : β → Value) : Go.Own (fun s W => OvBox n0 v (r0 s) (r1 s) (r2 s) (r3 s) W) := fun s A B row hs hg hr =>
  ⟨boxed_own n0 _ (fun _ : β => v) s A B row hs.1 hg hr, boxed_own _ _ r0 s A B row hs.2.1 hg hr, boxed_own _ _ r1 s A B row hs.2.2.1 hg hr, boxed_own _ _ r2 s A B row hs.2.2.2.1 hg hr, boxed_own _ _ r3 s A B row hs.2.2.2.2 hg hr⟩
theorem OvBox.below {n0 n : Nat} {v r0 r1 r2 r3 : Value} {A B : World} (h : OvBox n0 v r0 r1 r2 r3 A) (hb : Below n A B) (hn : n0 + 4 < n) : OvBox n0 v r0 r1 r2 r3 B :=
  ⟨boxed_below h.1 hb (by omega), boxed_below h.2.1 hb (by omega), boxed_below h.2.2.1 hb (by omega), boxed_below h.2.2.2.1 hb (by omega), boxed_below h.2.2.2.2 hb (by omega)⟩
theorem OvBox.set {n0 : Nat} {v r0 r1 r2 r3 : Value} {A : World} (h : OvBox n0 v r0 r1 r2 r3 A) (q0 q1 q2 q3 : Value) :
    OvBox n0 v q0 q1 q2 q3 ((((A.setCell ⟨n0 + 1, 0, none⟩ q0).setCell ⟨n0 + 1 + 1, 0, none⟩ q1).setCell ⟨n0 + 1 + 1 + 1, 0, none⟩ q2).setCell ⟨n0 + 1 + 1 + 1 + 1, 0, none⟩ q3) :=
  ⟨(((h.1.other (by omega) _).other (by omega) _).other (by omega) _).other (by omega) _,
   (((h.2.1.set _).other (by omega) _).other (by omega) _).other (by omega) _,
   (((h.2.2.1.other (by omega) _).set _).other (by omega) _).other (by omega) _,
   (((h.2.2.2.1.other (by omega) _).other (by omega) _).set _).other (by omega) _,
   (((h.2.2.2.2.other (by omega) _).other (by omega) _).other (by omega) _).set _⟩
theorem others_set4 (n0 : Nat) (A : World) (q0 q1 q2 q3 : Value) : KeepsOthers A ((((A.setCell ⟨n0 + 1, 0, none⟩ q0).setCell ⟨n0 + 1 + 1, 0, none⟩ q1).setCell ⟨n0 + 1 + 1 + 1, 0, none⟩ q2).setCell ⟨n0 + 1 + 1 + 1 + 1, 0, none⟩ q3) :=
  (((KeepsOthers.setCell _ _ _).trans (KeepsOthers.setCell _ _ _)).trans (KeepsOthers.setCell _ _ _)).trans (KeepsOthers.setCell _ _ _)
theorem below_set4 {n0 : Nat} {w A : World} (h : Below n0 w A) (q0 q1 q2 q3 : Value) : Below n0 w ((((A.setCell ⟨n0 + 1, 0, none⟩ q0).setCell ⟨n0 + 1 + 1, 0, none⟩ q1).setCell ⟨n0 + 1 + 1 + 1, 0, none⟩ q2).setCell ⟨n0 + 1 + 1 + 1 + 1, 0, none⟩ q3) :=
  (((h.setCell (by simp) _).setCell (by simp; omega) _).setCell (by simp; omega) _).setCell (by simp; omega) _
theorem ovbox_new (w : World) (v r0 r1 r2 r3 : Value) : OvBox w.heap.size v r0 r1 r2 r3 (((((w.alloc (.cells #[v] 23)).alloc (.cells #[r0] 3)).alloc (.cells #[r1] 3)).alloc (.cells #[r2] 4)).alloc (.cells #[r3] 4)) := by
  have h1 := Boxed.new w 23 v
  have h2 := Boxed.new (w.alloc (.cells #[v] 23)) 3 r0
  have h3 := Boxed.new ((w.alloc (.cells #[v] 23)).alloc (.cells #[r0] 3)) 3 r1
  have h4 := Boxed.new (((w.alloc (.cells #[v] 23)).alloc (.cells #[r0] 3)).alloc (.cells #[r1] 3)) 4 r2
  have h5 := Boxed.new ((((w.alloc (.cells #[v] 23)).alloc (.cells #[r0] 3)).alloc (.cells #[r1] 3)).alloc (.cells #[r2] 4)) 4 r3
  simp only [World.size_alloc] at h2 h3 h4 h5
  exact ⟨(((h1.alloc _).alloc _).alloc _).alloc _, ((h2.alloc _).alloc _).alloc _, (h3.alloc _).alloc _, h4.alloc _, h5⟩

set_option maxRecDepth 100000 in
set_option maxHeartbeats 4000000 in
theorem iover_yes (v : Value) (xs : List JbEl) (F T : Int) (B : Bool) (ht : Told xs F T B) (w : World) (hr : JbReads w v xs) (hg : goodJ xs = true) :
    Calls Try.prog 5 #[v] w fun e w' => e = .returned (.tuple #[.int .i64 F, .int .i64 T, .bool B, .bool true]) ∧ Below w.heap.size w w' := by
  have HR := hid hr
  have HT := hid ht
  have HG := hid hg
  obtain ⟨a, cap, rfl, _, _⟩ := hr
  clear ht hg
  refine (callsIn_wide (n := 9)).1 ?_
  refine callsIn_of_wp_marks Try.func5 rfl trivial ?_ rfl
  simp only [Try.ntmps5, List.size_toArray, List.length_cons, List.length_nil, Nat.reduceAdd, Nat.reduceSub, Array.replicate_succ, Array.replicate_zero, List.push_toArray, List.append_toArray, List.nil_append, List.cons_append]
  gi_wp2_with (first
    | (refine ⟨trivial, ?_⟩; gi_at_call 16; refine (callsIn_wide.2 (igoodJobs_eq _ xs true HG.out _ (HR.out.below (by go_grown)))).mono ?_; rintro e w1 ⟨rfl, b1⟩)
    | (refine ⟨trivial, ?_⟩; gi_at_call 17; refine (callsIn_wide.2 (whiles_any _)).mono ?_; rintro e w2 ⟨rfl, hw2⟩; obtain rfl := hw2.symm))
  have hOv := (ovbox_new w (.slice a xs.length cap) (.int .i64 0) (.int .i64 0) (.bool false) (.bool false)).below b1 (by simp)
  have hsz : w.heap.size + 5 ≤ w1.heap.size := by have := b1.size; simp at this; omega
  have hB0 : Below w.heap.size w w1 := (show Below w.heap.size w _ by go_grown).trans (b1.mono (by simp; omega))
  clear b1
  refine wpIn_rangeFunc_ownF rfl (by omega) (gf := 32) (lb := #[]) rfl trivial (enters_of Try.func32 (by kernel_rfl) rfl)
    (whiles_stops 8 (by omega) w1) (fun _ _ => trivial) (fun _ _ _ _ _ _ _ _ => trivial) (Below.refl _ _) (fun _ => rfl)
    (fun pre W => ((∀ y ∈ pre, ovW xs y = false) ∧ OvBox w.heap.size (.slice a xs.length cap) (.int .i64 0) (.int .i64 0) (.bool false) (.bool false) W) ∧ Below w.heap.size w W)
    (fun c pre W => (c = .ret ∧ ∃ pre' x, pre = pre' ++ [x] ∧ (∀ y ∈ pre', ovW xs y = false) ∧ ovW xs x = true ∧ OvBox w.heap.size (.slice a xs.length cap) (.int .i64 x.1.1) (.int .i64 x.1.2) (.bool true) (.bool true) W) ∧ Below w.heap.size w W)
    (OwnFrom.and (Go.Own.from (fun s A B row hs hg hr => ⟨hs.1, OvBox.own (β := List Wh) _ _ (fun _ => .int .i64 0) (fun _ => .int .i64 0) (fun _ => .bool false) (fun _ => .bool false) s A B row hs.2 hg hr⟩) _) (ownFrom_below (Nat.le_refl _) (by omega)))
    (fun c => OwnFrom.and (Go.Own.from (fun s A B row hs hg hr => by
      obtain ⟨e, pre', x, h1, h2, h3, h4⟩ := hs
      exact ⟨e, pre', x, h1, h2, h3, OvBox.own (β := List Wh) _ _ (fun _ => .int .i64 x.1.1) (fun _ => .int .i64 x.1.2) (fun _ => .bool true) (fun _ => .bool true) s A B row h4 hg hr⟩) _) (ownFrom_below (Nat.le_refl _) (by omega)))
    ⟨⟨by simp, hOv⟩, hB0⟩
    (fun x => { tmps := #[.slice a xs.length cap, .pointer (some ⟨w.heap.size, 0, none⟩), .pointer (some ⟨w.heap.size + 1, 0, none⟩), .pointer (some ⟨w.heap.size + 1 + 1, 0, none⟩), .pointer (some ⟨w.heap.size + 1 + 1 + 1, 0, none⟩), .pointer (some ⟨w.heap.size + 1 + 1 + 1 + 1, 0, none⟩), .int .i64 x.1.1, .int .i64 x.1.2, .slice a xs.length cap, .bool true, .bool false, .func (.func 32) #[] #[], .int .i64 x.1.1, .int .i64 x.1.2, undef, undef, undef, undef, undef, undef, undef, undef, undef, undef], defers := [] }) ?assign ?body ?done ?stop
  case assign =>
    intro l x W K hK
    gi_wp2
    exact hK
  case body =>
    rintro l pre ⟨⟨f, t⟩, hft⟩ W ⟨⟨hno, hOv⟩, hB⟩ _
    obtain ⟨d, hd⟩ : ∃ d, dem f t xs = d := ⟨_, rfl⟩
    obtain ⟨b, hb⟩ : ∃ b, overB xs f t = b := ⟨_, rfl⟩
    have HD := hid hd
    have HO : Hid (ovW xs ⟨(f, t), hft⟩ = b) := hb
    have hdb : decide ((t : Int) - f < d) = b := by rw [← hb, ← hd]; rfl
    have hw2 : IntKind.i64.wrap ((t : Int) - f) = (t : Int) - f := by rw [IntKind.wrap_i64]; omega
    have HN := hid hno
    have HB := hid hB
    have HV := hid hOv
    have c0 := hOv.1.cell
    clear hd hb hno hB hOv
    dsimp only
    gi_wp2_with (refine ⟨trivial, ?_⟩; gi_at_call 18; refine (CallsIn.inRound l (callsIn_wide.2 (idemand_eq _ xs f t d HD.out HG.out _ (HR.out.below HB.out)))).mono ?_; rintro e w3 ⟨rfl, b3⟩; have V3 := HV.out.below b3 (by have := HV.out.2.2.2.2.lt; omega); have c1 := V3.2.1.cell; have f1 := V3.2.1.frozen; have c2 := V3.2.2.1.cell; have f2 := V3.2.2.1.frozen; have c3 := V3.2.2.2.1.cell; have f3 := V3.2.2.2.1.frozen; have c4 := V3.2.2.2.2.cell; have f4 := V3.2.2.2.2.frozen; have HV3 := hid V3; have HB3 := hid b3; clear V3 b3 c0; cases b)
    · exact ⟨others_of_below HB3.out, trivial, ⟨fun y hy => (List.mem_append.1 hy).elim (HN.out y) (fun e => by simp at e; rw [e]; exact HO.out), HV3.out⟩, HB.out.trans (HB3.out.mono HB.out.size)⟩
    · exact ⟨(others_of_below HB3.out).trans (others_set4 _ _ _ _ _ _), ⟨rfl, pre, ⟨(f, t), hft⟩, rfl, HN.out, HO.out, HV3.out.set _ _ _ _⟩, below_set4 (HB.out.trans (HB3.out.mono HB.out.size)) _ _ _ _⟩
  case done =>
    rintro D ys W hD rfl ⟨⟨hno, hOv⟩, hB⟩ hK
    obtain ⟨e1, e2, e3⟩ := HT.out.no (first_no hno)
    subst e1 e2 e3
    have c1 := hOv.2.1.cell; have f1 := hOv.2.1.frozen; have c2 := hOv.2.2.1.cell; have f2 := hOv.2.2.1.frozen; have c3 := hOv.2.2.2.1.cell; have f3 := hOv.2.2.2.1.frozen; have c4 := hOv.2.2.2.2.cell; have f4 := hOv.2.2.2.2.frozen
    have HV := hid hOv
    have HB := hid hB
    have HK := hid hK
    clear hOv hB hK hno
    gi_wp2
    have hV2 := HV.out.set (.int .i64 0) (.int .i64 0) (.bool false) (.bool true)
    have hK2 := (others_set4 w.heap.size W (.int .i64 0) (.int .i64 0) (.bool false) (.bool true)).same D _ HK.out rfl
    refine ⟨by simp, .inl ⟨_, _, rfl, run_takeDeferred hK2, ?_⟩⟩
    have hV4 := OvBox.own (β := Unit) w.heap.size (.slice a xs.length cap) (fun _ => .int .i64 0) (fun _ => .int .i64 0) (fun _ => .bool false) (fun _ => .bool true) () _ _ _ hV2 (grownBy_putObj' _ D (.deferred none)) (fun r e => by cases e; exact ⟨_, hK2, rfl⟩)
    have g1 := hV4.2.1.cell; have g2 := hV4.2.2.1.cell; have g3 := hV4.2.2.2.1.cell; have g4 := hV4.2.2.2.2.cell
    refine ⟨_, ?_, rfl, (below_set4 HB.out _ _ _ _).trans (belowK_b (w := w) (Nat.le_refl _) _ D _ _ (by omega) hK2 rfl rfl)⟩
    simp [results, Try.f5, go_sem, g1, g2, g3, g4]
  case stop =>
    rintro D c pre W hD hpre ⟨⟨rfl, pre', x, rfl, hno, hx, hOv⟩, hB⟩ hK
    obtain ⟨rest, hrest⟩ := hpre
    obtain ⟨e1, e2, e3⟩ := HT.out.yes x.1.1 x.1.2 x.2.1 x.2.2 (by rw [first_yes (pre := pre') (rest := rest) (by rw [← hrest]; simp) hno hx]; rw [mkW_self])
    subst e1 e2 e3
    have HV := hid hOv
    have HB := hid hB
    have HK := hid hK
    clear hOv hB hK hno hrest hx
    gi_wp2
    refine ⟨by simp, .inl ⟨_, _, rfl, run_takeDeferred HK.out, ?_⟩⟩
    have hV4 := OvBox.own (β := Unit) w.heap.size (.slice a xs.length cap) (fun _ => .int .i64 x.1.1) (fun _ => .int .i64 x.1.2) (fun _ => .bool true) (fun _ => .bool true) () _ _ _ HV.out (grownBy_putObj' _ D (.deferred none)) (fun r e => by cases e; exact ⟨_, HK.out, rfl⟩)
    have g1 := hV4.2.1.cell; have g2 := hV4.2.2.1.cell; have g3 := hV4.2.2.2.1.cell; have g4 := hV4.2.2.2.2.cell
    refine ⟨_, ?_, rfl, HB.out.trans (belowK_b (w := w) (Nat.le_refl _) W D _ _ (by omega) HK.out rfl rfl)⟩
    simp [results, Try.f5, go_sem, g1, g2, g3, g4]
theorem iover_no (v : Value) (xs : List JbEl) (w : World) (hr : JbReads w v xs) (hg : goodJ xs = false) :
    Calls Try.prog 5 #[v] w fun e w' => e = .returned (.tuple #[.int .i64 0, .int .i64 0, .bool false, .bool false]) ∧ Below w.heap.size w w' := by
  have HR := hid hr
  obtain ⟨a, cap, rfl, _, _⟩ := hr
  go_enter Try.func5, Try.ntmps5
  go_wp2_with fail
  refine (igoodJobs_eq _ xs false hg _ (HR.out.below (by go_grown))).mono ?_
  rintro e w1 ⟨rfl, b1⟩
  have V := (ovbox_new w (.slice a xs.length cap) (.int .i64 0) (.int .i64 0) (.bool false) (.bool false)).below b1 (by simp)
  have HB : Hid (Below w.heap.size w w1) := (show Below w.heap.size w _ by go_grown).trans (b1.mono (by simp; omega))
  have c1 := V.2.1.cell; have f1 := V.2.1.frozen; have c2 := V.2.2.1.cell; have f2 := V.2.2.1.frozen; have c3 := V.2.2.2.1.cell; have f3 := V.2.2.2.1.frozen; have c4 := V.2.2.2.2.cell; have f4 := V.2.2.2.2.frozen
  have HV := hid V
  clear V b1
  go_wp2
  (try simp only [Exit.inBlock, Exit.then])
  have hV4 := HV.out.set (.int .i64 0) (.int .i64 0) (.bool false) (.bool false)
  have g1 := hV4.2.1.cell; have g2 := hV4.2.2.1.cell; have g3 := hV4.2.2.2.1.cell; have g4 := hV4.2.2.2.2.cell
  refine bodyPost_ret (v := .tuple #[.int .i64 0, .int .i64 0, .bool false, .bool false]) (by simp [results, Try.f5, go_sem, g1, g2, g3, g4]) rfl ?_
  exact ⟨rfl, below_set4 HB.out _ _ _ _⟩
end Go.Proofs.Ytobkockikpgcoab
