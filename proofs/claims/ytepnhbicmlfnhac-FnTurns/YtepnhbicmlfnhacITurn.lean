/-
  (*impl.Turns).turn: a turn, on turns in memory of their own. Only that memory is written.
-/
import Derived.Test.YtepnhbicmlfnhacTuC
import Derived.Test.YtepnhbicmlfnhacIParted
import Derived.Test.YtepnhbicmlfnhacFlowFns
import Derived.Test.YtepnhbicmlfnhacTurnRun
namespace Go.Proofs.Ytepnhbicmlfnhac
open Go.RowKit

theorem row_mem {row : List Int} (h : ∀ j, j < row.length → 1 ≤ fl row j ∧ fl row j ≤ 20) : ∀ x ∈ row, 0 ≤ x ∧ x ≤ 1000 := by
  intro x hx
  obtain ⟨j, hj, rfl⟩ := List.mem_iff_getElem.1 hx
  have := h j hj
  have e : fl row j = row[j] := by simp [fl, List.getD_eq_getElem?_getD, hj]
  rw [e] at this
  omega
/-- What a turn leaves behind. -/
def TurnPost (S : Nat → Prop) (w : World) (X : Nat) (D : TuD) (k : Nat) (s0 s1 s2 s3 : Value) (c0 c1 c2 c3 : Nat × Nat) (vs : Value) (w' : World) : Prop := ∃ (S' : Nat → Prop) (iv' : Nat → Nat × Nat) (r : Nat × Nat), TuC S' w' X (stepD D) s0 s1 s2 s3 c0 c1 c2 c3 iv' ∧ KOwn r.1 r.2 w' vs (sendT D k) ∧ (∀ g, r.1 ≤ g → g < r.2 → (w.heap.size ≤ g ∧ g < w'.heap.size) ∧ ¬ S' g) ∧ (∀ g, S' g → S g ∨ (w.heap.size ≤ g ∧ g < w'.heap.size)) ∧ ∀ lo, lo ≤ X → (∀ g, S g → lo ≤ g) → lo ≤ w.heap.size → Below lo w w'
theorem TurnPost.drew {S : Nat → Prop} {w : World} {X : Nat} {D : TuD} {k : Nat} {s0 s1 s2 s3 : Value} {c0 c1 c2 c3 : Nat × Nat} {vs : Value} {w' : World} (h : TurnPost S w X D k s0 s1 s2 s3 c0 c1 c2 c3 vs w') : TurnPost S w X D k s0 s1 s2 s3 c0 c1 c2 c3 vs w'.drew := by
  obtain ⟨S', iv', r, h1, h2, h3, h4, h5⟩ := h
  exact ⟨S', iv', r, h1.drew, h2, h3, h4, fun lo a b c => (h5 lo a b c).drew⟩
set_option maxRecDepth 100000 in
set_option maxHeartbeats 16000000 in
theorem iturn_any {S : Nat → Prop} {w : World} {X : Nat} {D : TuD} {s0 s1 s2 s3 : Value} {c0 c1 c2 c3 : Nat × Nat} {iv : Nat → Nat × Nat} (h : TuC S w X D s0 s1 s2 s3 c0 c1 c2 c3 iv) (hg : GoodT D) (hS : ∀ g, S g → g < w.heap.size) :
    Calls Try.prog 85 #[.pointer (some ⟨X, 0, none⟩)] w fun e w' => ∃ vs, e = .returned (.tuple #[vs, .bool (decide (fl D.f3 (atN D) + sumI (sendT D (atN D)) ≤ 1000000))]) ∧ TurnPost S w X D (atN D) s0 s1 s2 s3 c0 c1 c2 c3 vs w' := by
  have HS := hid hS
  have hn := hg.n
  have L1 := hid hg.l1
  have L2 := hid hg.l2
  have L3 := hid hg.l3
  have hkl := at_lt hg
  have hat : D.f4 = ((atN D : Nat) : Int) := by have := hg.at_; unfold atN; omega
  obtain ⟨k, hk⟩ : ∃ k, k = atN D := ⟨_, rfl⟩
  rw [← hk] at hkl hat ⊢
  have HK := hid hk
  have HG := hid hg
  clear hk hg hS
  rw [L1.out] at hkl
  obtain ⟨g0, o0, p0, e0, h0⟩ := h.k0.reads.cells k hkl
  have hs1 : ∃ B cap, s1 = .slice (some ⟨B, 0, none⟩) D.f1.length cap := by
    obtain ⟨_, h⟩ := h.k1
    rcases h with ⟨a', cap', e, e2⟩ | ⟨B', cap', us, e, _⟩
    · have := L1.out; rw [e2] at this; simp at this; omega
    · exact ⟨B', cap', e⟩
  obtain ⟨B, cap, rfl⟩ := hs1
  have hs2 : ∃ g2 p2, s2 = .slice (some ⟨g2, 0, none⟩) D.f2.length p2 := by
    obtain ⟨_, h⟩ := h.k2
    rcases h with ⟨a', cap', e, e2⟩ | ⟨B', cap', e, _⟩
    · have := L2.out; rw [e2] at this; simp at this; omega
    · exact ⟨B', cap', e⟩
  obtain ⟨g2, p2, rfl⟩ := hs2
  have hs3 : ∃ g3 p3, s3 = .slice (some ⟨g3, 0, none⟩) D.f3.length p3 := by
    obtain ⟨_, h⟩ := h.k3
    rcases h with ⟨a', cap', e, e2⟩ | ⟨B', cap', e, _⟩
    · have := L3.out; rw [e2] at this; simp at this; omega
    · exact ⟨B', cap', e⟩
  obtain ⟨g3, p3, rfl⟩ := hs3
  subst e0
  rw [L1.out, L2.out, L3.out] at h ⊢
  obtain ⟨n, hnn⟩ : ∃ n, n = D.f0.length := ⟨_, rfl⟩
  have HNN := hid hnn
  rw [← hnn] at h hkl hn ⊢
  clear hnn
  obtain ⟨k', hk'⟩ : ∃ k', k' = (k + 1) % n := ⟨_, rfl⟩
  have HK' := hid hk'
  have hmod : ((k : Int) + 1) % (n : Int) = (k' : Int) := by rw [hk']; rfl
  have hn0 : ¬ ((n : Int) = 0) := by omega
  clear hk'
  have H := hid h
  have hz := h.box
  rw [hat] at hz
  obtain ⟨y0, y1, y2, y3, y4⟩ := hz.five
  have x4 := (hz.cell 4 (by simp)).2
  clear hz h h0
  go_enter Try.func85, Try.ntmps85
  go_wp2_with fail
  have H1 := hid (H.out.set4 (k' : Int))
  obtain ⟨w1, hw1⟩ : ∃ w1, w1 = w.setCell ⟨X, 4, none⟩ (.int .i64 (k' : Int)) := ⟨_, rfl⟩
  have hsz1 : w1.heap.size = w.heap.size := by rw [hw1]; exact World.size_setCell _ _ _
  have ON1 : Hid (OnlyP (fun j => j = X) w w1) := by rw [hw1]; exact onlyP_set _ _ _ _
  rw [← hw1] at H1 ⊢
  clear hw1 y0 y1 y2 y3 y4 x4 hmod
  obtain ⟨y0, y1, y2, y3, y4⟩ := H1.out.box.five
  obtain ⟨_, hg2, cc2, ff2⟩ := H1.out.k2.setN k 0 (by show k < D.f2.length; rw [L2.out, ← HNN.out]; exact hkl)
  obtain ⟨_, hg3, cc3, ff3⟩ := H1.out.k3.setN k 0 (by show k < D.f3.length; rw [L3.out, ← HNN.out]; exact hkl)
  obtain ⟨g0', o0', p0', e0', h0'⟩ := H1.out.k0.reads.cells k (by show k < D.f0.length; rw [← HNN.out]; exact hkl)
  have cc0 := h0' k (by show k < D.f0.length; rw [← HNN.out]; exact hkl)
  simp only at e0' cc0 cc2 cc3
  unfold KCells at cc0
  obtain ⟨ck, hck⟩ : ∃ x, x = fl D.f2 k := ⟨_, rfl⟩
  obtain ⟨qk, hqk⟩ : ∃ x, x = fl D.f0 k := ⟨_, rfl⟩
  obtain ⟨sk, hsk⟩ : ∃ x, x = fl D.f3 k := ⟨_, rfl⟩
  have C2 : w1.cell? ⟨g2, k, none⟩ = some (.int .i64 ck) := by rw [hck]; exact cc2
  have C3 : w1.cell? ⟨g3, k, none⟩ = some (.int .i64 sk) := by rw [hsk]; exact cc3
  have C0 : w1.cell? ⟨g0', o0' + k, none⟩ = some (.int .i64 qk) := by rw [hqk]; exact cc0
  have eg0 : g0' = g0 ∧ o0' = o0 := by
    rw [← HNN.out] at e0'
    cases e0'
    exact ⟨rfl, rfl⟩
  obtain ⟨rfl, rfl⟩ := eg0
  obtain ⟨u, cu, fu, hB, ku⟩ := H1.out.k1.cell (by show D.f1.length = n; rw [L1.out, ← HNN.out]) k hkl
  have KU := hid ku
  obtain ⟨au, nu, pu, eu⟩ := ku.sform
  subst eu
  have CU := hid cu
  have hbk := HG.out.k k (by rw [L1.out, ← HNN.out]; exact hkl)
  have bc := HG.out.c k
  have bq := HG.out.q k (by rw [← HNN.out]; exact hkl)
  have bs := HG.out.s k
  rw [← hck] at bc
  rw [← hqk] at bq
  rw [← hsk] at bs
  have HCK := hid hck
  have HQK := hid hqk
  have HSK := hid hsk
  have n0 : (0 : Int) ≤ (k : Int) := by omega
  have n1 : (k : Int) < (n : Int) := by omega
  have hw2 : IntKind.i64.wrap (ck + qk) = ck + qk := by rw [IntKind.wrap_i64]; omega
  clear hck hqk hsk cc0 cc2 cc3 e0' h0' ku
  go_big_region
  obtain ⟨wd, hwd⟩ : ∃ wd, wd = World.drew w1 := ⟨_, rfl⟩
  replace H1 := hid (show TuC S wd X _ _ _ _ _ c0 c1 c2 c3 iv by rw [hwd]; exact H1.out.drew)
  replace ON1 : Hid (OnlyP (fun j => j = X) w wd) := by rw [hwd]; exact ON1.out
  replace KU := hid (show KOwn _ _ wd _ _ by rw [hwd]; exact KU.out)
  replace CU : Hid (wd.cell? ⟨B, k, none⟩ = some (.slice au nu pu)) := by rw [hwd]; exact CU.out
  replace fu : wd.frozen? ⟨B, k, none⟩ = false := by rw [hwd]; exact fu
  replace hsz1 : wd.heap.size = w.heap.size := by rw [hwd]; exact hsz1
  clear y0 y1 y2 y3 y4 C0 C2 C3 cu ff2 ff3
  rw [← hwd]
  clear hwd
  obtain ⟨y0, y1, y2, y3, y4⟩ := H1.out.box.five
  have cu := CU.out
  go_wp2_with fail
  have hrow := row_mem hbk.2.1
  have hsumq : sumI (D.f1.getD k []) ≤ 600 := (row_in HG.out k _).2
  have SB : Hid (∀ m, m ≤ (takeT (ck + qk) (D.f1.getD k [])).1.length → 0 ≤ psum (fl (takeT (ck + qk) (D.f1.getD k [])).1) m ∧ psum (fl (takeT (ck + qk) (D.f1.getD k [])).1) m ≤ 600) := fun m hm => by have := send_bd (D.f1.getD k []) (ck + qk) (fun x hx => (hrow x hx).1) m hm; omega
  refine (parted_any (ck + qk) _ (D.f1.getD k []) _ KU.out.reads hbk.1 (by omega) hrow).mono ?_
  rintro e w2 ⟨vs, vl, rfl, c, hPL⟩
  have hsp := send_part D k
  rw [← HCK.out, ← HQK.out] at hsp
  have hsum := takeT_sum (D.f1.getD k []) (ck + qk)
  obtain ⟨ss, hss⟩ : ∃ x, x = (takeT (ck + qk) (D.f1.getD k [])).1 := ⟨_, rfl⟩
  obtain ⟨ls, hls⟩ : ∃ x, x = (takeT (ck + qk) (D.f1.getD k [])).2.1 := ⟨_, rfl⟩
  obtain ⟨rk, hrk⟩ : ∃ x, x = (takeT (ck + qk) (D.f1.getD k [])).2.2 := ⟨_, rfl⟩
  rw [← hss] at hPL hsp hsum SB
  rw [← hls] at hPL hsp
  rw [← hrk] at hsp hsum
  have hlss : ss.length ≤ 30 := by
    have h3 := takeT_app (D.f1.getD k []) (ck + qk)
    rw [← hss] at h3
    have h4 : (ss ++ (takeT (ck + qk) (D.f1.getD k [])).2.1).length = (D.f1.getD k []).length := by rw [h3]
    rw [List.length_append] at h4
    omega
  have hlls : ls.length ≤ 30 := by
    have h3 := takeT_app (D.f1.getD k []) (ck + qk)
    rw [← hls] at h3
    have h4 : ((takeT (ck + qk) (D.f1.getD k [])).1 ++ ls).length = (D.f1.getD k []).length := by rw [h3]
    rw [List.length_append] at h4
    omega
  obtain ⟨sz, hsz⟩ : ∃ x, x = sumI ss := ⟨_, rfl⟩
  have hszb : 0 ≤ sz ∧ sz ≤ 600 := by have := SB.out ss.length (Nat.le_refl _); rw [hsz]; unfold sumI; omega
  have HSP := hid hsp
  have HSZ := hid hsz
  rw [← hsz] at hsum
  have HSUM := hid hsum
  have b2 := hPL.bel
  have hz2 := b2.size
  have H2 := hid (H1.out.below b2)
  have B2 := hid b2
  have CU2 := (World.cell?_of_block (a := ⟨B, k, none⟩) (b2.block B (lt_of_cell CU.out))).trans CU.out
  have FU2 := (World.frozen?_of_block (a := ⟨B, k, none⟩) (b2.block B (lt_of_cell CU.out))).trans fu
  have KS := hid (KOwn.of_owns hPL.os (by omega))
  have HPL := hid hPL
  obtain ⟨as', ks, es⟩ := sform_of_owns hPL.os
  obtain ⟨al, kl, el⟩ := sform_of_owns hPL.ol
  subst es el
  clear hPL b2 hss hls hrk hsp hsz hsum y0 y1 y2 y3 y4 cu fu hrow hsumq
  obtain ⟨y0, y1, y2, y3, y4⟩ := H2.out.box.five
  go_wp2_with fail
  refine (isum8_eq _ ss _ KS.out.reads (fun m hm => by have := SB.out m hm; omega) sz (by rw [HSZ.out]; rfl)).mono ?_
  rintro e w' ⟨rfl, hw⟩; obtain rfl := hw.symm
  -- the queue's own row, in a block of its own
  have H3 : Hid (TuC (fun g => S g ∨ (Value.slice al ls.length kl).ownBlock = some g) (w2.setCell ⟨B, k, none⟩ (.slice al ls.length kl)) X ⟨D.f0, D.f1.set k ls, D.f2, D.f3, (k' : Int)⟩ (.slice (some ⟨g0', o0', none⟩) n p0) (.slice (some ⟨B, 0, none⟩) n cap) (.slice (some ⟨g2, 0, none⟩) n p2) (.slice (some ⟨g3, 0, none⟩) n p3) c0 c1 c2 c3 (upd iv k (match (Value.slice al ls.length kl).ownBlock with | some g => (g, g + 1) | none => (w2.heap.size, w2.heap.size)))) := by
    refine TuC.set1 (D := ⟨D.f0, D.f1, D.f2, D.f3, (k' : Int)⟩) (S := S) H2.out (by show k < D.f1.length; rw [L1.out, ← HNN.out]; exact hkl) ?_ ?_ (fun g hg => .inl hg) ?_
    · refine KOwn.of_owns2 HPL.out.ol (by omega) (fun g e => ?_)
      rw [e]
      exact ⟨Nat.le_refl _, Nat.lt_succ_self _⟩
    · cases hob : (Value.slice al ls.length kl).ownBlock with
      | none => exact .inr ⟨rfl, fun g hg => by have := HS.out g hg; show g < w2.heap.size; omega⟩
      | some g =>
        have := owns_lt HPL.out.ol g hob
        exact .inl ⟨rfl, .inr rfl, fun hg => by have := HS.out g hg; omega⟩
    · rintro (hX | hX)
      · exact H.out.out hX
      · have := owns_lt HPL.out.ol X hX
        have := H1.out.box.lt
        omega
  -- cells, and blocks that differ
  obtain ⟨_, hg2', cc2, ff2⟩ := H2.out.k2.setN k 0 (by show k < D.f2.length; rw [L2.out, ← HNN.out]; exact hkl)
  obtain ⟨_, hg3', cc3, ff3⟩ := H2.out.k3.setN k 0 (by show k < D.f3.length; rw [L3.out, ← HNN.out]; exact hkl)
  have C2 : w2.cell? ⟨g2, k, none⟩ = some (.int .i64 ck) := by rw [HCK.out]; exact cc2
  have C3 : w2.cell? ⟨g3, k, none⟩ = some (.int .i64 sk) := by rw [HSK.out]; exact cc3
  have S2 := (H2.out.ap.inn 2 (by omega)).2 g2 hg2.1 hg2.2
  have S3 := (H2.out.ap.inn 3 (by omega)).2 g3 hg3.1 hg3.2
  have S1 := (H2.out.ap.inn 1 (by omega)).2 B hB.1 hB.2
  have D12 : Dj c1 c2 := H2.out.ap.dj 1 2 (by omega) (by omega) (by omega)
  have D13 : Dj c1 c3 := H2.out.ap.dj 1 3 (by omega) (by omega) (by omega)
  have D23 : Dj c2 c3 := H2.out.ap.dj 2 3 (by omega) (by omega) (by omega)
  unfold Dj at D12 D13 D23
  have e12 : B ≠ g2 := by omega
  have e13 : B ≠ g3 := by omega
  have e23 : g2 ≠ g3 := by omega
  have e1X : B ≠ X := fun e => H2.out.out (e ▸ S1)
  have e2X : g2 ≠ X := fun e => H2.out.out (e ▸ S2)
  have e3X : g3 ≠ X := fun e => H2.out.out (e ▸ S3)
  have HS1 := hid S1
  have HS2 := hid S2
  have HS3 := hid S3
  have hw3 : IntKind.i64.wrap (sk + sz) = sk + sz := by rw [IntKind.wrap_i64]; omega
  have hw4 : IntKind.i64.wrap (ck + qk - sz) = ck + qk - sz := by rw [IntKind.wrap_i64]; omega
  have H4 := hid (H3.out.set3 k (by show k < D.f3.length; rw [L3.out, ← HNN.out]; exact hkl) (sk + sz))
  have H5 := hid (H4.out.set2 k (by show k < D.f2.length; rw [L2.out, ← HNN.out]; exact hkl) (ck + qk - sz))
  have ON5 : Hid (∀ lo, lo ≤ X → (∀ g, S g → lo ≤ g) → lo ≤ w.heap.size → Below lo w (((w2.setCell ⟨B, k, none⟩ (.slice al ls.length kl)).setCell ⟨g3, k, none⟩ (.int .i64 (sk + sz))).setCell ⟨g2, k, none⟩ (.int .i64 (ck + qk - sz)))) := fun lo hX hSl hw => by
    have b1 : Below lo w wd := ON1.out.below (fun j e => by omega)
    have b2 : Below lo wd w2 := B2.out.mono (by omega)
    have b3 : Below lo w2 (w2.setCell ⟨B, k, none⟩ (.slice al ls.length kl)) := (onlyP_set _ _ _ _).below (fun j e => by have := hSl B HS1.out; omega)
    have b4 : Below lo _ ((w2.setCell ⟨B, k, none⟩ (.slice al ls.length kl)).setCell ⟨g3, k, none⟩ (.int .i64 (sk + sz))) := (onlyP_set _ _ _ _).below (fun j e => by have := hSl g3 HS3.out; omega)
    have b5 : Below lo _ (((w2.setCell ⟨B, k, none⟩ (.slice al ls.length kl)).setCell ⟨g3, k, none⟩ (.int .i64 (sk + sz))).setCell ⟨g2, k, none⟩ (.int .i64 (ck + qk - sz))) := (onlyP_set _ _ _ _).below (fun j e => by have := hSl g2 HS2.out; omega)
    exact (((b1.trans b2).trans b3).trans b4).trans b5
  -- what is sent lies apart
  have KSS : Hid (∃ r : Nat × Nat, KOwn r.1 r.2 w2 (.slice as' ss.length ks) ss ∧ ∀ g, r.1 ≤ g → g < r.2 → (w.heap.size ≤ g ∧ g < w2.heap.size) ∧ ¬ (S g ∨ (Value.slice al ls.length kl).ownBlock = some g)) := by
    cases hob : (Value.slice as' ss.length ks).ownBlock with
    | none => exact ⟨(0, 0), KOwn.of_owns2 HPL.out.os (by omega) (fun g e => by rw [hob] at e; cases e), fun g g1 g2 => by simp only at g2; omega⟩
    | some g =>
      have hlt := owns_lt HPL.out.os g hob
      refine ⟨(g, g + 1), KOwn.of_owns2 HPL.out.os (by omega) (fun g' e => by rw [hob] at e; cases e; exact ⟨Nat.le_refl _, Nat.lt_succ_self _⟩), fun g' y1 y2 => ?_⟩
      obtain rfl : g' = g := by simp only at y1 y2; omega
      refine ⟨⟨by omega, by omega⟩, ?_⟩
      rintro (h | h)
      · have := HS.out _ h; omega
      · exact HPL.out.ap _ hob h
  have hpre : ∀ g, (S g ∨ (Value.slice al ls.length kl).ownBlock = some g) → S g ∨ (w.heap.size ≤ g ∧ g < w2.heap.size) := by
    rintro g (h | h)
    · exact .inl h
    · have := owns_lt HPL.out.ol g h
      exact .inr ⟨by omega, by omega⟩
  have HPRE := hid hpre
  have hF : decide (sk + sz ≤ 1000000) = decide (fl D.f3 k + sumI (sendT D k) ≤ 1000000) := by rw [HSK.out, HSZ.out, HSP.out.1]
  have HF := hid hF
  clear hpre hF cc2 cc3 S1 S2 S3 D12 D13 D23 hg2' hg3'
  have FIN : ∀ (x : Int) (w6 : World), D.f2.set k x = D.f2.set k (restT D k) → TuC (fun g => S g ∨ (Value.slice al ls.length kl).ownBlock = some g) w6 X ⟨D.f0, D.f1.set k ls, D.f2.set k x, D.f3.set k (sk + sz), (k' : Int)⟩ (.slice (some ⟨g0', o0', none⟩) n p0) (.slice (some ⟨B, 0, none⟩) n cap) (.slice (some ⟨g2, 0, none⟩) n p2) (.slice (some ⟨g3, 0, none⟩) n p3) c0 c1 c2 c3 (upd iv k (match (Value.slice al ls.length kl).ownBlock with | some g => (g, g + 1) | none => (w2.heap.size, w2.heap.size))) → OnlyP (fun j => S j) w2 w6 → (∀ lo, lo ≤ X → (∀ g, S g → lo ≤ g) → lo ≤ w.heap.size → Below lo w w6) →
      TurnPost S w X D k (.slice (some ⟨g0', o0', none⟩) n p0) (.slice (some ⟨B, 0, none⟩) n cap) (.slice (some ⟨g2, 0, none⟩) n p2) (.slice (some ⟨g3, 0, none⟩) n p3) c0 c1 c2 c3 (.slice as' ss.length ks) w6 := by
    intro x w6 hx hT op hbl
    obtain ⟨r, hr1, hr2⟩ := KSS.out
    have e : stepD D = ⟨D.f0, D.f1.set k ls, D.f2.set k x, D.f3.set k (sk + sz), (k' : Int)⟩ := by
      unfold stepD nextD
      rw [← HK.out, hx, HSP.out.2.1, HSK.out, HSZ.out, HSP.out.1, HK'.out, L1.out, ← HNN.out]
    have hs6 := op.1
    refine ⟨_, _, r, by rw [e]; exact hT, ?_, fun g g1 g2 => ?_, fun g hg => ?_, hbl⟩
    · rw [← HSP.out.1]
      exact hr1.onlyP op (fun g g1 g2 hg => (hr2 g g1 g2).2 (.inl hg))
    · rw [hs6]; exact hr2 g g1 g2
    · rw [hs6]; exact HPRE.out g hg
  have HFIN := hid FIN
  clear FIN
  by_cases h0 : ls.length = 0
  · obtain rfl := List.length_eq_zero_iff.1 h0
    clear h0
    go_wp2_with fail
    have H6 := hid (by have := H5.out.set2 k (by show k < (D.f2.set k (ck + qk - sz)).length; rw [List.length_set, L2.out, ← HNN.out]; exact hkl) 0; simp only [List.set_set] at this; exact this)
    have OP6 : Hid (OnlyP (fun j => S j) w2 ((((w2.setCell ⟨B, k, none⟩ (.slice al ([] : List Int).length kl)).setCell ⟨g3, k, none⟩ (.int .i64 (sk + sz))).setCell ⟨g2, k, none⟩ (.int .i64 (ck + qk - sz))).setCell ⟨g2, k, none⟩ (.int .i64 0))) := ((((onlyP_set _ _ _ _).mono (fun j e => by rw [e]; exact HS1.out)).trans ((onlyP_set _ _ _ _).mono (fun j e => by rw [e]; exact HS3.out))).trans ((onlyP_set _ _ _ _).mono (fun j e => by rw [e]; exact HS2.out))).trans ((onlyP_set _ _ _ _).mono (fun j e => by rw [e]; exact HS2.out))
    have HR := hid (HFIN.out 0 ((((w2.setCell ⟨B, k, none⟩ (.slice al ([] : List Int).length kl)).setCell ⟨g3, k, none⟩ (.int .i64 (sk + sz))).setCell ⟨g2, k, none⟩ (.int .i64 (ck + qk - sz))).setCell ⟨g2, k, none⟩ (.int .i64 0)) (by rw [show restT D k = 0 from by unfold restT; rw [← HSP.out.2.1]; rfl]) H6.out OP6.out (fun lo hX hSl hw => (ON5.out lo hX hSl hw).trans ((onlyP_set _ _ _ _).below (fun j e => by have := hSl g2 HS2.out; omega))))
    obtain ⟨w6, hw6⟩ : ∃ w6, w6 = (((w2.setCell ⟨B, k, none⟩ (.slice al ([] : List Int).length kl)).setCell ⟨g3, k, none⟩ (.int .i64 (sk + sz))).setCell ⟨g2, k, none⟩ (.int .i64 (ck + qk - sz))).setCell ⟨g2, k, none⟩ (.int .i64 0) := ⟨_, rfl⟩
    rw [← hw6] at H6 HR
    obtain ⟨_, _, cc6, _⟩ := H6.out.k3.setN k 0 (by show k < (D.f3.set k (sk + sz)).length; rw [List.length_set, L3.out, ← HNN.out]; exact hkl)
    have c6 : w6.cell? ⟨g3, k, none⟩ = some (.int .i64 (sk + sz)) := by
      have e : (D.f3.set k (sk + sz)).getD k 0 = sk + sz := by
        have : k < D.f3.length := by rw [L3.out, ← HNN.out]; exact hkl
        simp [List.getD_eq_getElem?_getD, this]
      rw [← e]
      exact cc6
    obtain ⟨z0, z1, z2, z3, z4⟩ := H6.out.box.five
    simp only [List.length_nil] at hw6
    rw [← hw6]
    clear hw6 y0 y1 y2 y3 y4 C2 C3 CU2 FU2 ff2 ff3 cc6 H6 HFIN e12 e13 e23 e1X e2X e3X hw3 hw4
    go_big_region
    have HR' := HR.out.drew
    go_wp2
    go_ret2
    rw [← HF.out]
    exact ⟨_, rfl, HR'⟩
  · have hne : ((ls.length : Int) == 0) = false := by rw [beq_eq_false_iff_ne]; omega
    have hne' : ¬ ((ls.length : Int) = 0) := by omega
    go_wp2_with fail
    have H6 := hid (H5.out)
    have OP6 : Hid (OnlyP (fun j => S j) w2 (((w2.setCell ⟨B, k, none⟩ (.slice al ls.length kl)).setCell ⟨g3, k, none⟩ (.int .i64 (sk + sz))).setCell ⟨g2, k, none⟩ (.int .i64 (ck + qk - sz)))) := (((onlyP_set _ _ _ _).mono (fun j e => by rw [e]; exact HS1.out)).trans ((onlyP_set _ _ _ _).mono (fun j e => by rw [e]; exact HS3.out))).trans ((onlyP_set _ _ _ _).mono (fun j e => by rw [e]; exact HS2.out))
    have HR := hid (HFIN.out (ck + qk - sz) (((w2.setCell ⟨B, k, none⟩ (.slice al ls.length kl)).setCell ⟨g3, k, none⟩ (.int .i64 (sk + sz))).setCell ⟨g2, k, none⟩ (.int .i64 (ck + qk - sz))) (by rw [← HSP.out.2.2 (by rw [← HSP.out.2.1]; exact h0)]; congr 1; have := HSUM.out; omega) H6.out OP6.out ON5.out)
    obtain ⟨w6, hw6⟩ : ∃ w6, w6 = ((w2.setCell ⟨B, k, none⟩ (.slice al ls.length kl)).setCell ⟨g3, k, none⟩ (.int .i64 (sk + sz))).setCell ⟨g2, k, none⟩ (.int .i64 (ck + qk - sz)) := ⟨_, rfl⟩
    rw [← hw6] at H6 HR
    obtain ⟨_, _, cc6, _⟩ := H6.out.k3.setN k 0 (by show k < (D.f3.set k (sk + sz)).length; rw [List.length_set, L3.out, ← HNN.out]; exact hkl)
    have c6 : w6.cell? ⟨g3, k, none⟩ = some (.int .i64 (sk + sz)) := by
      have e : (D.f3.set k (sk + sz)).getD k 0 = sk + sz := by
        have : k < D.f3.length := by rw [L3.out, ← HNN.out]; exact hkl
        simp [List.getD_eq_getElem?_getD, this]
      rw [← e]
      exact cc6
    obtain ⟨z0, z1, z2, z3, z4⟩ := H6.out.box.five
    rw [← hw6]
    clear hw6 y0 y1 y2 y3 y4 C2 C3 CU2 FU2 ff2 ff3 cc6 H6 HFIN e12 e13 e23 e1X e2X e3X hw3 hw4
    go_big_region
    have HR' := HR.out.drew
    go_wp2
    go_ret2
    rw [← HF.out]
    exact ⟨_, rfl, HR'⟩
end Go.Proofs.Ytepnhbicmlfnhac
