/-
  impl.PlayHeard: letters heard of one by one, all that were ever taken for lost. Nothing old is written.
-/
import Derived.Test.YtijojdempijhbadKOwnS
import Derived.Test.YtijojdempijhbadIHear
import Derived.Test.YtijojdempijhbadIGoodSd
import Derived.Test.YtijojdempijhbadIPutS
import Derived.Test.YtijojdempijhbadITell2
import Derived.Test.YtijojdempijhbadIInOrdW
import Derived.Test.YtijojdempijhbadRegFacts4
namespace Go.Proofs.Ytijojdempijhbad
open Go.RowKit
/-- A part of a value that has several. -/
def comp (v : Value) (i : Nat) : Value :=
  match v with
  | .tuple vs => vs.getD i undef
  | .agg vs => vs.getD i undef
  | _ => undef
/-- What the operations make. -/
def plF (ag : Value) (x y : Int) (X : SdD) (LA : List Int) (tb : Bool) : Nat → (Nat → Value) → (Nat → Nat × Nat) → World → Prop
  | 0, σ, _, _ => σ 0 = ag
  | 1, σ, _, _ => σ 1 = .int .i64 x
  | 2, σ, _, _ => σ 2 = .agg #[.int .i64 x, .int .i64 y]
  | 3, σ, c, w => ∃ b, ((c 3).1 ≤ b ∧ b < (c 3).2) ∧ σ 3 = .slice (some ⟨b, 0, none⟩) 1 1 ∧ SpReads w (.slice (some ⟨b, 0, none⟩) 1 1) [(x, y)]
  | 4, σ, c, w => ∃ s1 t1 v1 s2 t2 v2 z1 s3 t3 v3, σ 4 = .tuple #[.agg #[.int .i64 X.f0, .slice s1 t1 v1, .slice s2 t2 v2], z1, .slice s3 t3 v3, .bool tb] ∧ SdOwn (Iv (c 4).1 (c 4).2) w (.agg #[.int .i64 X.f0, .slice s1 t1 v1, .slice s2 t2 v2]) X ∧ KOwn (c 4).1 (c 4).2 w (.slice s3 t3 v3) LA
  | 5, σ, _, _ => (∃ u0 u1 u2 u3, σ 5 = .tuple #[u0, u1, u2, u3]) ∧ σ 5 = σ 4
  | 6, σ, _, _ => σ 6 = comp (σ 5) 0
  | 7, σ, _, _ => σ 7 = comp (σ 5) 1
  | 8, σ, _, _ => σ 8 = comp (σ 5) 2
  | 9, σ, _, _ => σ 9 = comp (σ 5) 3
  | 10, σ, c, w => ∃ b, ((c 10).1 ≤ b ∧ b < (c 10).2) ∧ σ 10 = .pointer (some ⟨b, 0, none⟩) ∧ ∃ x0 x1 x2, BoxL w b [x0, x1, x2]
  | 11, σ, _, w => ∃ b, σ 10 = .pointer (some ⟨b, 0, none⟩) ∧ BoxL w b [comp (σ 6) 0, comp (σ 6) 1, comp (σ 6) 2]
  | 12, σ, _, _ => σ 12 = σ 7
  | 13, σ, _, _ => σ 13 = σ 8
  | 14, σ, _, _ => σ 14 = σ 9
  | _, _, _, _ => True
theorem plF_keep {ag : Value} {x y : Int} {X : SdD} {LA : List Int} {tb : Bool} : ∀ j ∈ [0, 1, 2, 3, 4, 5, 6, 7, 8, 9, 10, 11, 12, 13, 14], ∀ σ c w w', plF ag x y X LA tb j σ c w → Below w.heap.size w w' → plF ag x y X LA tb j σ c w' := by
  intro j hj σ c w w' h hb
  simp only [List.mem_cons, List.not_mem_nil, or_false] at hj; rcases hj with rfl | rfl | rfl | rfl | rfl | rfl | rfl | rfl | rfl | rfl | rfl | rfl | rfl | rfl | rfl
  · exact h
  · exact h
  · exact h
  · exact by obtain ⟨b, h1, e, hs⟩ := h; exact ⟨b, h1, e, hs.below hb⟩
  · exact by obtain ⟨s1, t1, v1, s2, t2, v2, z1, s3, t3, v3, e, h1, h2⟩ := h; exact ⟨s1, t1, v1, s2, t2, v2, z1, s3, t3, v3, e, h1.below hb, h2.below hb⟩
  · exact h
  · exact h
  · exact h
  · exact h
  · exact h
  · exact by obtain ⟨b, h1, e, x0, x1, x2, hs⟩ := h; exact ⟨b, h1, e, x0, x1, x2, hs.below hb hs.lt⟩
  · exact by obtain ⟨b, e, hs⟩ := h; exact ⟨b, e, hs.below hb hs.lt⟩
  · exact h
  · exact h
  · exact h
set_option linter.unusedSimpArgs false in
theorem plF_loc {ag : Value} {x y : Int} {X : SdD} {LA : List Int} {tb : Bool} {j i : Nat} {σ : Nat → Value} {c : Nat → Nat × Nat} {w : World} {v : Value} {r : Nat × Nat} (hj : j ∈ [0, 1, 2, 3, 4, 5, 6, 7, 8, 9, 10, 11, 12, 13, 14]) (hne : i ≠ j) (hd : (j = 5 → i ≠ 4) ∧ (j = 6 → i ≠ 5) ∧ (j = 7 → i ≠ 5) ∧ (j = 8 → i ≠ 5) ∧ (j = 9 → i ≠ 5) ∧ (j = 11 → i ≠ 6 ∧ i ≠ 10) ∧ (j = 12 → i ≠ 7) ∧ (j = 13 → i ≠ 8) ∧ (j = 14 → i ≠ 9)) (h : plF ag x y X LA tb j σ c w) : plF ag x y X LA tb j (upd σ i v) (upd c i r) w := by
  simp only [List.mem_cons, List.not_mem_nil, or_false] at hj; rcases hj with rfl | rfl | rfl | rfl | rfl | rfl | rfl | rfl | rfl | rfl | rfl | rfl | rfl | rfl | rfl
  · simp only [plF, upd_other _ _ (Ne.symm hne)] at h ⊢
    exact h
  · simp only [plF, upd_other _ _ (Ne.symm hne)] at h ⊢
    exact h
  · simp only [plF, upd_other _ _ (Ne.symm hne)] at h ⊢
    exact h
  · simp only [plF, upd_other _ _ (Ne.symm hne)] at h ⊢
    exact h
  · simp only [plF, upd_other _ _ (Ne.symm hne)] at h ⊢
    exact h
  · have d4 := hd.1 rfl
    simp only [plF, upd_other _ _ (Ne.symm hne), upd_other _ _ (Ne.symm d4)] at h ⊢
    exact h
  · have d5 := hd.2.1 rfl
    simp only [plF, upd_other _ _ (Ne.symm hne), upd_other _ _ (Ne.symm d5)] at h ⊢
    exact h
  · have d5 := hd.2.2.1 rfl
    simp only [plF, upd_other _ _ (Ne.symm hne), upd_other _ _ (Ne.symm d5)] at h ⊢
    exact h
  · have d5 := hd.2.2.2.1 rfl
    simp only [plF, upd_other _ _ (Ne.symm hne), upd_other _ _ (Ne.symm d5)] at h ⊢
    exact h
  · have d5 := hd.2.2.2.2.1 rfl
    simp only [plF, upd_other _ _ (Ne.symm hne), upd_other _ _ (Ne.symm d5)] at h ⊢
    exact h
  · simp only [plF, upd_other _ _ (Ne.symm hne)] at h ⊢
    exact h
  · obtain ⟨d6, d10⟩ := hd.2.2.2.2.2.1 rfl
    simp only [plF, upd_other _ _ (Ne.symm hne), upd_other _ _ (Ne.symm d6), upd_other _ _ (Ne.symm d10)] at h ⊢
    exact h
  · have d7 := hd.2.2.2.2.2.2.1 rfl
    simp only [plF, upd_other _ _ (Ne.symm hne), upd_other _ _ (Ne.symm d7)] at h ⊢
    exact h
  · have d8 := hd.2.2.2.2.2.2.2.1 rfl
    simp only [plF, upd_other _ _ (Ne.symm hne), upd_other _ _ (Ne.symm d8)] at h ⊢
    exact h
  · have d9 := hd.2.2.2.2.2.2.2.2 rfl
    simp only [plF, upd_other _ _ (Ne.symm hne), upd_other _ _ (Ne.symm d9)] at h ⊢
    exact h
theorem plF_keep2 {ag : Value} {x y : Int} {X : SdD} {LA : List Int} {tb : Bool} {lo : Nat} : ∀ j ∈ [0, 1, 2, 3, 4, 5, 6, 7, 8, 9, 10, 11, 12, 13, 14], j ≠ 11 → j ≠ 10 → ∀ σ c w w', plF ag x y X LA tb j σ c w → InW (c 10) w w' → Dj (c j) (c 10) → lo ≤ (c 10).1 → (c j).2 ≤ w.heap.size → plF ag x y X LA tb j σ c w' := by
  intro j hj hne hnq σ c w w' h hb hd _ hc
  simp only [List.mem_cons, List.not_mem_nil, or_false] at hj; rcases hj with rfl | rfl | rfl | rfl | rfl | rfl | rfl | rfl | rfl | rfl | rfl | rfl | rfl | rfl | rfl
  · exact h
  · exact h
  · exact h
  · exact by obtain ⟨b, h1, e, a, cap, e2, hl, hx⟩ := h; refine ⟨b, h1, e, a, cap, e2, hl, ?_⟩; rcases hx with hx | ⟨g, o, ea, hcc⟩; exact .inl hx; (cases e2; cases ea; exact .inr ⟨_, _, rfl, fun i hi => (hcc i hi).of_block (hb.block _ (by omega) (by unfold Dj at hd; omega))⟩)
  · exact by obtain ⟨s1, t1, v1, s2, t2, v2, z1, s3, t3, v3, e, h1, h2⟩ := h; exact ⟨s1, t1, v1, s2, t2, v2, z1, s3, t3, v3, e, h1.at fun g hg hl => hb.block g hl (by unfold Iv at hg; unfold Dj at hd; omega), h2.at fun g g1 g2 hl => hb.block g hl (by unfold Dj at hd; omega)⟩
  · exact h
  · exact h
  · exact h
  · exact h
  · exact h
  · exact absurd rfl hnq
  · exact absurd rfl hne
  · exact h
  · exact h
  · exact h
set_option maxRecDepth 100000 in
set_option maxHeartbeats 8000000 in
theorem iplay_any (many : Int) (v : Value) (xs : List Int) (w : World) (hr : KReads w v xs) (hw : ∀ x ∈ xs, inW x) (Y : List Int) (t : Bool) (hY : playL many xs = Y) (ht : playT many xs = t) :
    Calls Try.prog 47 #[.int .i64 many, v] w fun e w' => ∃ u0, e = .returned (.tuple #[u0, .bool t]) ∧ KOwn w.heap.size w'.heap.size w' u0 Y ∧ Below w.heap.size w w' := by
  have HR := hid hr
  have HIN := hid hw
  clear hw
  obtain ⟨va, vc, rfl, _, _⟩ := hr
  have HY := hid hY
  have HT := hid ht
  clear hY ht
  obtain ⟨nb, hnb⟩ : ∃ b, newSdB many = b := ⟨_, rfl⟩
  obtain ⟨D0, hD0⟩ : ∃ D, newSd many = D := ⟨_, rfl⟩
  have HNB := hid hnb
  have HD0 := hid hD0
  clear hnb hD0
  have LEAF : Hid (t = false → Y = []) := fun h => by rw [← HY.out]; unfold playL; rw [HT.out, h]; rfl
  go_enter Try.func47, Try.ntmps47
  go_wp2_with fail
  refine (inewSd_any many _ D0 nb HD0.out HNB.out).mono ?_
  rintro e w1 ⟨u0, rfl, o1, b1⟩
  have B1 := hid b1
  have hs1 := b1.size
  have O1 := hid o1
  obtain ⟨a1, n1, k1, a2, n2, k2, rfl⟩ := o1.form
  obtain ⟨PB, BA, hsW⟩ := box_three (w := w1) (.int .i64 D0.f0) (.slice a1 n1 k1) (.slice a2 n2 k2) 49
  obtain ⟨W, hW⟩ : ∃ W, W = w1.alloc (.cells #[.int .i64 D0.f0, .slice a1 n1 k1, .slice a2 n2 k2] 49) := ⟨_, rfl⟩
  rw [← hW] at PB BA hsW
  have B : Hid (Below w.heap.size w W) := B1.out.trans (BA.mono hs1)
  have HPB := hid PB
  have HW := hid hW
  clear b1 o1 PB BA hW
  obtain ⟨bx, hbx⟩ : ∃ bx, bx = w1.heap.size := ⟨_, rfl⟩
  cases nb
  · have HV : Hid (t = false) := by show _ = _; rw [← HT.out]; unfold playT; rw [HNB.out]; rfl
    go_wp2
    rw [← HW.out]
    go_ret2
    exact ⟨.slice none 0 0, by rw [HV.out]; rfl, by rw [LEAF.out HV.out]; exact kown_nil _ _ _ _ _, B.out⟩
  have h60 : 0 ≤ many ∧ many ≤ 60 := by have := HNB.out; unfold newSdB at this; rwa [decide_eq_true_eq] at this
  obtain rfl : D0 = ⟨many, [], []⟩ := by rw [← HD0.out]; unfold newSd; rw [HNB.out]; rfl
  obtain ⟨m, rfl⟩ : ∃ m : Nat, many = (m : Int) := ⟨many.toNat, by omega⟩
  have hm60 : m ≤ 60 := by omega
  obtain ⟨ob, hob⟩ : ∃ b, oruB xs (m : Int) = b := ⟨_, rfl⟩
  have HOB := hid hob
  clear hob
  go_wp2_with fail
  rw [← HW.out]
  clear HW
  refine (igoodLet_eq _ xs (m : Int) ob HOB.out h60 HIN.out _ (HR.out.below B.out)).mono ?_
  rintro e w2 ⟨rfl, b2⟩
  have hs2 := b2.size
  have B2 := hid (B.out.trans (b2.mono B.out.size))
  have PB2 := hid (HPB.out.below b2 HPB.out.lt)
  clear b2 B HPB
  cases ob
  · have HV : Hid (t = false) := by show _ = _; rw [← HT.out]; unfold playT; rw [HOB.out, Bool.false_and, Bool.and_false]
    go_wp2
    go_ret2
    exact ⟨.slice none 0 0, by rw [HV.out]; rfl, by rw [LEAF.out HV.out]; exact kown_nil _ _ _ _ _, B2.out⟩
  have HTP : Hid (t = playB ⟨(m : Int), [], []⟩ xs) := by show _ = _; rw [← HT.out]; unfold playT; rw [HNB.out, HOB.out, HD0.out]; rfl
  have hmm := @run_makeMap Try.prog
  have MS := hid (MSet.made w2)
  have B3 : Hid (Below w.heap.size w (w2.alloc (.map #[] 0))) := B2.out.alloc B2.out.size _
  have PB3 := hid (PB2.out.below ((Below.refl _ _).alloc (Nat.le_refl _) (.map #[] 0)) PB2.out.lt)
  obtain ⟨W3, hW3⟩ : ∃ W, W = w2.alloc (.map #[] 0) := ⟨_, rfl⟩
  have hs3 : W3.heap.size = w2.heap.size + 1 := by rw [hW3]; exact World.size_alloc _ _
  rw [← hW3] at MS B3 PB3
  have HW3 := hid hW3
  clear hW3
  go_wp2
  rw [← HW3.out]
  clear HW3 B2 PB2
  obtain ⟨E, hE⟩ : ∃ E, E = w2.heap.size := ⟨_, rfl⟩
  rw [← hE] at MS hs3 ⊢
  rw [← hbx] at PB3 hsW ⊢
  have hbE : bx < E := by omega
  have hbw : w.heap.size ≤ bx := by omega
  clear hE hbx hmm
  -- loop
  go_loopw [31] (fun i wr => ∃ (k : Nat) (D : SdD) (p1 : Option Addr) (q1 r1 : Nat) (p2 : Option Addr) (q2 r2 : Nat), k ≤ xs.length ∧ i = .int .i64 (k : Nat) ∧ (playSd ⟨(m : Int), [], []⟩ (xs.take k) = D ∧ playB ⟨(m : Int), [], []⟩ (xs.take k) = true) ∧ BoxL wr bx [.int .i64 (m : Nat), .slice p1 q1 r1, .slice p2 q2 r2] ∧ SdNew (E + 1) wr (.agg #[.int .i64 (m : Nat), .slice p1 q1 r1, .slice p2 q2 r2]) D ∧ MSet wr E (60 * k) (fun x => (playE ⟨(m : Int), [], []⟩ (xs.take k)).contains x) ∧ Below w.heap.size w wr) (fun i _ => xs.length - (intOf i).toNat)
  case atStart => exact ⟨0, ⟨(m : Int), [], []⟩, a1, n1, k1, a2, n2, k2, Nat.zero_le _, rfl, ⟨rfl, rfl⟩, PB3.out, sdNew_bare _ O1.out, MS.out, B3.out⟩
  case round =>
    obtain ⟨k, D, p1, q1, r1, p2, q2, r2, hk, rfl, ⟨hD, hpb⟩, hbx, hsd, hms, hbel⟩ := hrel
    have PX := hid hbx
    have SDX := hid hsd
    have MSX := hid hms
    have BWR := hid hbel
    have HDD := hid hD
    have HPB := hid hpb
    have hsz := hbel.size
    have hEw := hms.lt
    clear hbx hsd hms hbel hD hpb MS B3 PB3
    by_cases hlt : k < xs.length
    · obtain ⟨hx0, hgd, hf0, n1', n2', n3', n4'⟩ := play_next hm60 HOB.out hlt HPB.out
      rw [HDD.out] at hgd hf0 n1' n2' n3' n4'
      obtain ⟨g, o, cap', e, hc⟩ := HR.out.cells k hlt
      cases e
      obtain ⟨x, hx⟩ : ∃ x, xs.getD k 0 = x := ⟨_, rfl⟩
      have cx : wr.cell? ⟨g, o + k, none⟩ = some (.int .i64 x) := by rw [← hx]; exact (hc k hlt).below BWR.out (hc k hlt).lt
      rw [hx] at hx0 n1' n2' n3' n4'
      obtain ⟨X, hX⟩ : ∃ X, hearSd D (oneL x) = X := ⟨_, rfl⟩
      obtain ⟨FR, hFR⟩ : ∃ X, hearFr D (oneL x) = X := ⟨_, rfl⟩
      obtain ⟨LA, hLA⟩ : ∃ X, hearLa D (oneL x) = X := ⟨_, rfl⟩
      obtain ⟨tb, htb⟩ : ∃ b, hearB D (oneL x) = b := ⟨_, rfl⟩
      rw [htb] at n1'
      rw [hX] at n3'
      rw [hLA] at n4'
      have HX := hid hX
      have HFR := hid hFR
      have HLA := hid hLA
      have HTB := hid htb
      have N1 := hid n1'
      have N3 := hid n3'
      have N4 := hid n4'
      have HG := hid hgd
      have HF0 := hid hf0
      obtain ⟨y, hy⟩ : ∃ y, y = x + 1 := ⟨_, rfl⟩
      have HYX := hid hy
      have HOL : Hid (oneL x = [(x, y)]) := by show _ = _; rw [hy]; rfl
      have hx1 : 0 ≤ x ∧ x ≤ 1000000 := by omega
      have n0 : (0 : Int) ≤ (k : Int) := by omega
      have m1 : (k : Int) < (xs.length : Int) := by omega
      clear hc hx hX hFR hLA htb n1' n2' n3' n4' hgd hf0 hy hx0
      go_wp2_with fail
      refine wp_region_any (by kernel_rfl) ?_
      change wpAny _ _ _ _ _ _ _ (World.drew _)
      obtain ⟨W2, hW2⟩ : ∃ X, X = World.drew wr := ⟨_, rfl⟩
      replace PX : Hid (BoxL W2 bx [.int .i64 (m : Nat), .slice p1 q1 r1, .slice p2 q2 r2]) := by rw [hW2]; exact PX.out
      replace SDX : Hid (SdNew (E + 1) W2 (.agg #[.int .i64 (m : Nat), .slice p1 q1 r1, .slice p2 q2 r2]) D) := by rw [hW2]; exact SDX.out.below (Below.refl _ _).drew
      replace MSX : Hid (MSet W2 E (60 * k) (fun x => (playE ⟨(m : Int), [], []⟩ (xs.take k)).contains x)) := by rw [hW2]; exact MSX.out.below (Below.refl _ _).drew
      replace BWR : Hid (Below w.heap.size w W2) := by rw [hW2]; exact BWR.out.drew
      have hsW2 : wr.heap.size = W2.heap.size := by rw [hW2]; rfl
      rw [hsW2] at hEw hsz
      rw [← hW2]
      clear hW2 cx
      refine wpAny_facts4' 0 (Array.replicate 15 false) #[true, true, true, true, true, true, true, true, true, true, true, true, true, true, true] [0, 1, 2, 3, 4, 5, 6, 7, 8, 9, 10, 11, 12, 13, 14] 11 10 (fun σ => #[.int .i64 (m : Nat), .slice (some ⟨g, o, none⟩) xs.length vc, undef, undef, u4, u5, .pointer (some ⟨bx, 0, none⟩), .bool true, .map (some E), undef, .int .i64 x, σ 10, σ 12, σ 13, σ 14, .tuple #[.agg #[.int .i64 (m : Nat), .slice a1 n1 k1, .slice a2 n2 k2], .bool true], .int .i64 (m : Nat), .tuple #[.agg #[.int .i64 (m : Nat), .slice a1 n1 k1, .slice a2 n2 k2], .bool true], .agg #[.int .i64 (m : Nat), .slice a1 n1 k1, .slice a2 n2 k2], .bool true, .bool true, .bool false, .bool false, .slice (some ⟨g, o, none⟩) xs.length vc, .int .i64 (m : Nat), .bool true, .bool false, .bool false, .map (some E), .slice (some ⟨g, o, none⟩) xs.length vc, .int .i64 (xs.length : Nat), .int .i64 (k : Nat), .bool true, .pointer (some ⟨g, o + k, none⟩), .int .i64 x, σ 5, σ 0, σ 1, σ 2, σ 3, σ 4, σ 6, σ 7, σ 8, σ 9, u45, u46, u47, u48, u49, u50, u51, undef, undef]) (plF (.agg #[.int .i64 (m : Nat), .slice p1 q1 r1, .slice p2 q2 r2]) x y X LA tb) (fun i => match i with | 0 => u36 | 1 => u37 | 2 => u38 | 3 => u39 | 4 => u40 | 5 => u35 | 6 => u41 | 7 => u42 | 8 => u43 | 9 => u44 | 10 => u11 | 12 => u12 | 13 => u13 | 14 => u14 | _ => undef) rfl (by kernel_rfl) (by kernel_rfl) (by kernel_rfl) (by kernel_rfl) (by decide) (by kernel_rfl) plF_keep plF_keep2 (fun j hj i hi σ c w v r hne hd h => plF_loc hj hne ⟨fun e => by subst e; exact (hd 4 (by decide)).symm, fun e => by subst e; exact (hd 5 (by decide)).symm, fun e => by subst e; exact (hd 5 (by decide)).symm, fun e => by subst e; exact (hd 5 (by decide)).symm, fun e => by subst e; exact (hd 5 (by decide)).symm, fun e => by subst e; exact ⟨(hd 6 (by decide)).symm, (hd 10 (by decide)).symm⟩, fun e => by subst e; exact (hd 7 (by decide)).symm, fun e => by subst e; exact (hd 8 (by decide)).symm, fun e => by subst e; exact (hd 9 (by decide)).symm⟩ h) ?_ ?_ ?_
      · intro σ c wr' hb hf hin hdj
        have e0 : plF _ _ _ _ _ _ 0 σ c wr' := hf 0 (by decide)
        have e1 : plF _ _ _ _ _ _ 1 σ c wr' := hf 1 (by decide)
        have e2 : plF _ _ _ _ _ _ 2 σ c wr' := hf 2 (by decide)
        have e6 : plF _ _ _ _ _ _ 6 σ c wr' := hf 6 (by decide)
        have e7 : plF _ _ _ _ _ _ 7 σ c wr' := hf 7 (by decide)
        have e8 : plF _ _ _ _ _ _ 8 σ c wr' := hf 8 (by decide)
        have e9 : plF _ _ _ _ _ _ 9 σ c wr' := hf 9 (by decide)
        have e12 : plF _ _ _ _ _ _ 12 σ c wr' := hf 12 (by decide)
        have e13 : plF _ _ _ _ _ _ 13 σ c wr' := hf 13 (by decide)
        have e14 : plF _ _ _ _ _ _ 14 σ c wr' := hf 14 (by decide)
        obtain ⟨b3, h3, e3, r3⟩ : plF _ _ _ _ _ _ 3 σ c wr' := hf 3 (by decide)
        obtain ⟨s1, t1, v1, s2, t2, v2, z1, s3, t3, v3, e4, o4, l4⟩ : plF _ _ _ _ _ _ 4 σ c wr' := hf 4 (by decide)
        obtain ⟨_, e5⟩ : plF _ _ _ _ _ _ 5 σ c wr' := hf 5 (by decide)
        obtain ⟨b10, h10, e10, _⟩ : plF _ _ _ _ _ _ 10 σ c wr' := hf 10 (by decide)
        obtain ⟨b11, e11, x11⟩ : plF _ _ _ _ _ _ 11 σ c wr' := hf 11 (by decide)
        simp only [plF] at e0 e1 e2 e6 e7 e8 e9 e12 e13 e14
        rw [e10] at e11
        cases e11
        rw [e5, e4] at e6 e7 e8 e9
        rw [e4] at e5
        rw [e7] at e12
        rw [e8] at e13
        rw [e9] at e14
        rw [e6] at x11
        have n4 := hin 4 (by decide)
        have n10 := hin 10 (by decide)
        have d4 := hdj 4 (by decide) 10 (by decide) (by decide)
        clear hf hin hdj r3 h3
        try dsimp only
        rw [e0, e1, e2, e3, e4, e5, e6, e7, e8, e9, e10, e12, e13, e14]
        simp only [comp] at x11 ⊢
        replace x11 : BoxL wr' b10 [.int .i64 X.f0, .slice s1 t1 v1, .slice s2 t2 v2] := x11
        have hXf : tb = true → X.f0 = (m : Int) := fun h => by rw [← HX.out, (goodSd_hear (HTB.out.trans h)).2]; exact HF0.out
        have HXF := hid hXf
        have XB := hid x11
        have BWR2 := hid (BWR.out.trans (hb.mono BWR.out.size))
        have PX2 := hid (PX.out.below hb PX.out.lt)
        have MSX2 := hid (MSX.out.below hb)
        have HO4 := hid o4
        have HL4 := hid l4
        have hsr := hb.size
        have hb10 : E < b10 ∧ b10 < wr'.heap.size := by omega
        have hc4 : E < (c 4).1 ∧ (c 4).2 ≤ wr'.heap.size := by omega
        clear hb x11 o4 l4 e0 e1 e2 e3 e4 e5 e6 e7 e8 e9 e10 e12 e13 e14 hXf h10 n10 PX SDX MSX BWR
        refine wpAny_done (by kernel_rfl) ?_ _
        cases tb
        · have HV : Hid (t = false) := by show _ = _; rw [HTP.out]; exact play_ill (k := k + 1) N1.out
          go_wp2
          go_ret2
          exact ⟨.slice none 0 0, by rw [HV.out]; rfl, by rw [LEAF.out HV.out]; exact kown_nil _ _ _ _ _, BWR2.out⟩
        have HIL : Hid (∀ z ∈ LA, inW z) := fun z hz => by
          rw [← HLA.out] at hz
          have h := hearLa_in hz
          rw [HF0.out] at h
          exact inW_small (by omega) (by omega)
        have hll : LA.length ≤ 60 := by
          rw [← HLA.out]
          unfold hearLa
          rw [HTB.out]
          have := selU_len (lateF (joinL D.f1 (oneL x)) D.f2) D.f0.toNat
          rw [HF0.out] at this
          show (selU (lateF (joinL D.f1 (oneL x)) D.f2) D.f0.toNat).length ≤ 60
          rw [HF0.out]
          omega
        go_wp2_with fail
        refine (iputs_any E (60 * k) _ _ LA _ MSX2.out HL4.out.reads HIL.out (by have := oruB_len HOB.out (by omega); omega)).mono ?_
        rintro e w5 ⟨rfl, ms5, g5⟩
        have hs5 := g5.size
        have XB5 := hid (XB.out.of_block (g5.block b10 (by omega) (by simp; omega)))
        have PX5 := hid (PX2.out.of_block (g5.block bx (by omega) (by simp; omega)))
        have O5 := hid (HO4.out.at (w' := w5) fun q hq hl => g5.block q hl (by unfold Iv at hq; simp; omega))
        have B5 : Hid (Below w.heap.size w w5) := BWR2.out.grown g5 BWR2.out.size (fun j e => by cases e; omega)
        have MS5 := hid ms5
        clear ms5 g5 XB PX2 HO4 BWR2 MSX2 HL4
        have hXf := HXF.out (by first | rfl | trivial)
        replace XB5 : Hid (BoxL w5 b10 [.int .i64 (m : Nat), .slice s1 t1 v1, .slice s2 t2 v2]) := by have h := XB5.out; rw [hXf] at h; exact h
        rw [hXf]
        have HXf := hid hXf
        clear hXf HXF
        obtain ⟨c0, c1, c2⟩ := XB5.out.three
        obtain ⟨⟨y0, f0⟩, ⟨y1, f1⟩, y2, f2⟩ := PX5.out.form3
        have PUT := three_put PX5.out (.int .i64 (m : Nat)) (.slice s1 t1 v1) (.slice s2 t2 v2)
        have OO := three_only w5 bx (.int .i64 (m : Nat)) (.slice s1 t1 v1) (.slice s2 t2 v2)
        have BLW := three_below (lo := w.heap.size) (b := bx) w5 (.int .i64 (m : Nat)) (.slice s1 t1 v1) (.slice s2 t2 v2) (by omega)
        obtain ⟨WZ, hWZ⟩ : ∃ WZ, WZ = ((w5.setCell ⟨bx, 0, none⟩ (.int .i64 (m : Nat))).setCell ⟨bx, 1, none⟩ (.slice s1 t1 v1)).setCell ⟨bx, 2, none⟩ (.slice s2 t2 v2) := ⟨_, rfl⟩
        rw [← hWZ] at PUT OO BLW
        have PZ := hid PUT
        have OZ := hid (O5.out.at (w' := WZ) fun q hq hl => OO.2.1 q (by unfold Iv at hq; omega))
        have BZ := hid (B5.out.trans BLW)
        have MZ := hid (MS5.out.of_block (OO.2.1 E (by omega)))
        have HWZ := hid hWZ
        clear PUT OO BLW hWZ O5 B5 MS5
        go_wp2
        go_roundw
        case rel =>
          rw [← HWZ.out]
          refine ⟨_, _, _, _, _, _, _, _, _, _, _, _, _, _, _, _, _, _, _, _, _, _, _, _, _, _, _, _, ?_, rfl⟩
          refine ⟨k + 1, X, s1, t1, v1, s2, t2, v2, by omega, by go_num, ⟨N3.out, N1.out⟩, PZ.out, ?_, (MZ.out.mono (by omega)).congr fun z => ?_, BZ.out⟩
          · have h := SdNew.of_own (lo := E + 1) OZ.out (fun g hg => by unfold Iv at hg; omega)
            rw [HXf.out] at h
            exact h
          · rw [N4.out, List.contains_eq_mem, List.contains_eq_mem, List.contains_eq_mem, Bool.eq_iff_iff, Bool.or_eq_true, decide_eq_true_eq, decide_eq_true_eq, decide_eq_true_eq, List.mem_append]
        case measure => simp [intOf]; omega
      · intro σ c wr' hb hd
        obtain ⟨s1, t1, v1, s2, t2, v2, z1, s3, t3, v3, f4, _, _⟩ : plF _ _ _ _ _ _ 4 σ c wr' := hd 4 (by decide) (by decide)
        obtain ⟨_, f5⟩ : plF _ _ _ _ _ _ 5 σ c wr' := hd 5 (by decide) (by decide)
        have f6 : plF _ _ _ _ _ _ 6 σ c wr' := hd 6 (by decide) (by decide)
        obtain ⟨b10, h10, f10, x0, x1, x2, hx10⟩ : plF _ _ _ _ _ _ 10 σ c wr' := hd 10 (by decide) (by decide)
        simp only [plF] at f6
        rw [f5, f4] at f6
        replace f6 : σ 6 = .agg #[.int .i64 X.f0, .slice s1 t1 v1, .slice s2 t2 v2] := f6
        clear hd f4 f5
        obtain ⟨⟨y0, g0⟩, ⟨y1, g1⟩, y2, g2⟩ := hx10.form3
        refine StepI.of (a1 := ⟨#[.int .i64 (m : Nat), .slice (some ⟨g, o, none⟩) xs.length vc, undef, undef, u4, u5, .pointer (some ⟨bx, 0, none⟩), .bool true, .map (some E), undef, .int .i64 x, (.pointer (some ⟨b10, 0, none⟩)), σ 12, σ 13, σ 14, .tuple #[.agg #[.int .i64 (m : Nat), .slice a1 n1 k1, .slice a2 n2 k2], .bool true], .int .i64 (m : Nat), .tuple #[.agg #[.int .i64 (m : Nat), .slice a1 n1 k1, .slice a2 n2 k2], .bool true], .agg #[.int .i64 (m : Nat), .slice a1 n1 k1, .slice a2 n2 k2], .bool true, .bool true, .bool false, .bool false, .slice (some ⟨g, o, none⟩) xs.length vc, .int .i64 (m : Nat), .bool true, .bool false, .bool false, .map (some E), .slice (some ⟨g, o, none⟩) xs.length vc, .int .i64 (xs.length : Nat), .int .i64 (k : Nat), .bool true, .pointer (some ⟨g, o + k, none⟩), .int .i64 x, σ 5, σ 0, σ 1, σ 2, σ 3, σ 4, (.agg #[.int .i64 X.f0, .slice s1 t1 v1, .slice s2 t2 v2]), σ 7, σ 8, σ 9, u45, u46, u47, u48, u49, u50, u51, undef, undef], []⟩) (by simp only [f6, f10]) rfl (fun _ => rfl) (fun K hK => ?_)
        have F6 := hid f6
        have F10 := hid f10
        clear f6 f10
        go_simp
        have f6 := F6.out
        have f10 := F10.out
        have PUT := three_put hx10 (.int .i64 X.f0) (.slice s1 t1 v1) (.slice s2 t2 v2)
        refine hK undef _ (InW.of_only (three_only wr' b10 _ _ _) h10 rfl rfl rfl) ⟨b10, h10, f10, _, _, _, PUT⟩ ⟨b10, by simpa [upd] using f10, ?_⟩
        have e6 : upd σ 11 undef 6 = .agg #[.int .i64 X.f0, .slice s1 t1 v1, .slice s2 t2 v2] := by simpa [upd] using f6
        rw [e6]
        exact PUT
      · intro i hi hne σ c wr' hb hd
        simp only [List.mem_cons, List.not_mem_nil, or_false] at hi; rcases hi with rfl | rfl | rfl | rfl | rfl | rfl | rfl | rfl | rfl | rfl | rfl | rfl | rfl | rfl | rfl
        · skip
          clear hd
          refine StepF.of (a1 := ⟨#[.int .i64 (m : Nat), .slice (some ⟨g, o, none⟩) xs.length vc, undef, undef, u4, u5, .pointer (some ⟨bx, 0, none⟩), .bool true, .map (some E), undef, .int .i64 x, σ 10, σ 12, σ 13, σ 14, .tuple #[.agg #[.int .i64 (m : Nat), .slice a1 n1 k1, .slice a2 n2 k2], .bool true], .int .i64 (m : Nat), .tuple #[.agg #[.int .i64 (m : Nat), .slice a1 n1 k1, .slice a2 n2 k2], .bool true], .agg #[.int .i64 (m : Nat), .slice a1 n1 k1, .slice a2 n2 k2], .bool true, .bool true, .bool false, .bool false, .slice (some ⟨g, o, none⟩) xs.length vc, .int .i64 (m : Nat), .bool true, .bool false, .bool false, .map (some E), .slice (some ⟨g, o, none⟩) xs.length vc, .int .i64 (xs.length : Nat), .int .i64 (k : Nat), .bool true, .pointer (some ⟨g, o + k, none⟩), .int .i64 x, σ 5, σ 0, σ 1, σ 2, σ 3, σ 4, σ 6, σ 7, σ 8, σ 9, u45, u46, u47, u48, u49, u50, u51, undef, undef], []⟩) rfl rfl (fun _ => rfl) (fun K hK => ?_)
          obtain ⟨c0, c1, c2⟩ := (PX.out.below hb PX.out.lt).three
          go_simp
          exact hK _ _ (Below.refl _ _) rfl
        · skip
          clear hd
          refine StepF.of (a1 := ⟨#[.int .i64 (m : Nat), .slice (some ⟨g, o, none⟩) xs.length vc, undef, undef, u4, u5, .pointer (some ⟨bx, 0, none⟩), .bool true, .map (some E), undef, .int .i64 x, σ 10, σ 12, σ 13, σ 14, .tuple #[.agg #[.int .i64 (m : Nat), .slice a1 n1 k1, .slice a2 n2 k2], .bool true], .int .i64 (m : Nat), .tuple #[.agg #[.int .i64 (m : Nat), .slice a1 n1 k1, .slice a2 n2 k2], .bool true], .agg #[.int .i64 (m : Nat), .slice a1 n1 k1, .slice a2 n2 k2], .bool true, .bool true, .bool false, .bool false, .slice (some ⟨g, o, none⟩) xs.length vc, .int .i64 (m : Nat), .bool true, .bool false, .bool false, .map (some E), .slice (some ⟨g, o, none⟩) xs.length vc, .int .i64 (xs.length : Nat), .int .i64 (k : Nat), .bool true, .pointer (some ⟨g, o + k, none⟩), .int .i64 x, σ 5, σ 0, σ 1, σ 2, σ 3, σ 4, σ 6, σ 7, σ 8, σ 9, u45, u46, u47, u48, u49, u50, u51, undef, undef], []⟩) rfl rfl (fun _ => rfl) (fun K hK => ?_)
          go_simp
          exact hK _ _ (Below.refl _ _) rfl
        · skip
          have f1 : plF _ _ _ _ _ _ 1 σ c wr' := hd 1 (by decide) (by decide)
          simp only [plF] at f1
          clear hd
          refine StepF.of (a1 := ⟨#[.int .i64 (m : Nat), .slice (some ⟨g, o, none⟩) xs.length vc, undef, undef, u4, u5, .pointer (some ⟨bx, 0, none⟩), .bool true, .map (some E), undef, .int .i64 x, σ 10, σ 12, σ 13, σ 14, .tuple #[.agg #[.int .i64 (m : Nat), .slice a1 n1 k1, .slice a2 n2 k2], .bool true], .int .i64 (m : Nat), .tuple #[.agg #[.int .i64 (m : Nat), .slice a1 n1 k1, .slice a2 n2 k2], .bool true], .agg #[.int .i64 (m : Nat), .slice a1 n1 k1, .slice a2 n2 k2], .bool true, .bool true, .bool false, .bool false, .slice (some ⟨g, o, none⟩) xs.length vc, .int .i64 (m : Nat), .bool true, .bool false, .bool false, .map (some E), .slice (some ⟨g, o, none⟩) xs.length vc, .int .i64 (xs.length : Nat), .int .i64 (k : Nat), .bool true, .pointer (some ⟨g, o + k, none⟩), .int .i64 x, σ 5, σ 0, (.int .i64 x), σ 2, σ 3, σ 4, σ 6, σ 7, σ 8, σ 9, u45, u46, u47, u48, u49, u50, u51, undef, undef], []⟩) (by simp only [f1]) rfl (fun _ => rfl) (fun K hK => ?_)
          go_simp
          refine (ispan1_any x y HYX.out hx1 _).mono ?_
          rintro e w2 ⟨rfl, b2⟩
          exact hK _ w2 b2 rfl
        · skip
          have f2 : plF _ _ _ _ _ _ 2 σ c wr' := hd 2 (by decide) (by decide)
          simp only [plF] at f2
          clear hd
          refine StepF.of (a1 := ⟨#[.int .i64 (m : Nat), .slice (some ⟨g, o, none⟩) xs.length vc, undef, undef, u4, u5, .pointer (some ⟨bx, 0, none⟩), .bool true, .map (some E), undef, .int .i64 x, σ 10, σ 12, σ 13, σ 14, .tuple #[.agg #[.int .i64 (m : Nat), .slice a1 n1 k1, .slice a2 n2 k2], .bool true], .int .i64 (m : Nat), .tuple #[.agg #[.int .i64 (m : Nat), .slice a1 n1 k1, .slice a2 n2 k2], .bool true], .agg #[.int .i64 (m : Nat), .slice a1 n1 k1, .slice a2 n2 k2], .bool true, .bool true, .bool false, .bool false, .slice (some ⟨g, o, none⟩) xs.length vc, .int .i64 (m : Nat), .bool true, .bool false, .bool false, .map (some E), .slice (some ⟨g, o, none⟩) xs.length vc, .int .i64 (xs.length : Nat), .int .i64 (k : Nat), .bool true, .pointer (some ⟨g, o + k, none⟩), .int .i64 x, σ 5, σ 0, σ 1, (.agg #[.int .i64 x, .int .i64 y]), σ 3, σ 4, σ 6, σ 7, σ 8, σ 9, u45, u46, u47, u48, u49, u50, u51, undef, undef], []⟩) (by simp only [f2]) rfl (fun _ => rfl) (fun K hK => ?_)
          go_simp
          exact hK _ _ ((Below.refl _ _).alloc (Nat.le_refl _) _) ⟨wr'.heap.size, ⟨Nat.le_refl _, by show wr'.heap.size < (World.alloc _ _).heap.size; rw [World.size_alloc]; omega⟩, rfl, spreads_one _ _ _ _⟩
        · skip
          have f0 : plF _ _ _ _ _ _ 0 σ c wr' := hd 0 (by decide) (by decide)
          simp only [plF] at f0
          have f3 : plF _ _ _ _ _ _ 3 σ c wr' := hd 3 (by decide) (by decide)
          obtain ⟨b3, h3, f3, r3⟩ := f3
          clear hd
          refine StepF.of (a1 := ⟨#[.int .i64 (m : Nat), .slice (some ⟨g, o, none⟩) xs.length vc, undef, undef, u4, u5, .pointer (some ⟨bx, 0, none⟩), .bool true, .map (some E), undef, .int .i64 x, σ 10, σ 12, σ 13, σ 14, .tuple #[.agg #[.int .i64 (m : Nat), .slice a1 n1 k1, .slice a2 n2 k2], .bool true], .int .i64 (m : Nat), .tuple #[.agg #[.int .i64 (m : Nat), .slice a1 n1 k1, .slice a2 n2 k2], .bool true], .agg #[.int .i64 (m : Nat), .slice a1 n1 k1, .slice a2 n2 k2], .bool true, .bool true, .bool false, .bool false, .slice (some ⟨g, o, none⟩) xs.length vc, .int .i64 (m : Nat), .bool true, .bool false, .bool false, .map (some E), .slice (some ⟨g, o, none⟩) xs.length vc, .int .i64 (xs.length : Nat), .int .i64 (k : Nat), .bool true, .pointer (some ⟨g, o + k, none⟩), .int .i64 x, σ 5, (.agg #[.int .i64 (m : Nat), .slice p1 q1 r1, .slice p2 q2 r2]), σ 1, σ 2, (.slice (some ⟨b3, 0, none⟩) 1 1), σ 4, σ 6, σ 7, σ 8, σ 9, u45, u46, u47, u48, u49, u50, u51, undef, undef], []⟩) (by simp only [f0, f3]) rfl (fun _ => rfl) (fun K hK => ?_)
          go_simp
          refine (ihear_any _ _ D (oneL x) _ (SDX.out.reads.below hb) (by rw [HOL.out]; exact r3) X FR LA tb HX.out HFR.out HLA.out HTB.out).mono ?_
          rintro e w2 ⟨u0, u1, u2, S0, S1, S2, rfl, o0, _, o2, _, hin, b2⟩
          obtain ⟨s1, t1, v1, s2, t2, v2, rfl⟩ := o0.form
          have k2 := kown_of_S o2 fun g h => hin g (.inr (.inr h))
          obtain ⟨s3, t3, v3, rfl⟩ := k2.sform
          exact hK _ w2 b2 ⟨s1, t1, v1, s2, t2, v2, u1, s3, t3, v3, rfl, o0.mono fun g h => hin g (.inl h), k2⟩
        · skip
          have f4 : plF _ _ _ _ _ _ 4 σ c wr' := hd 4 (by decide) (by decide)
          obtain ⟨s1, t1, v1, s2, t2, v2, z1, s3, t3, v3, f4, _, _⟩ := f4
          clear hd
          refine StepF.of (a1 := ⟨#[.int .i64 (m : Nat), .slice (some ⟨g, o, none⟩) xs.length vc, undef, undef, u4, u5, .pointer (some ⟨bx, 0, none⟩), .bool true, .map (some E), undef, .int .i64 x, σ 10, σ 12, σ 13, σ 14, .tuple #[.agg #[.int .i64 (m : Nat), .slice a1 n1 k1, .slice a2 n2 k2], .bool true], .int .i64 (m : Nat), .tuple #[.agg #[.int .i64 (m : Nat), .slice a1 n1 k1, .slice a2 n2 k2], .bool true], .agg #[.int .i64 (m : Nat), .slice a1 n1 k1, .slice a2 n2 k2], .bool true, .bool true, .bool false, .bool false, .slice (some ⟨g, o, none⟩) xs.length vc, .int .i64 (m : Nat), .bool true, .bool false, .bool false, .map (some E), .slice (some ⟨g, o, none⟩) xs.length vc, .int .i64 (xs.length : Nat), .int .i64 (k : Nat), .bool true, .pointer (some ⟨g, o + k, none⟩), .int .i64 x, σ 5, σ 0, σ 1, σ 2, σ 3, (.tuple #[.agg #[.int .i64 X.f0, .slice s1 t1 v1, .slice s2 t2 v2], z1, .slice s3 t3 v3, .bool tb]), σ 6, σ 7, σ 8, σ 9, u45, u46, u47, u48, u49, u50, u51, undef, undef], []⟩) (by simp only [f4]) rfl (fun _ => rfl) (fun K hK => ?_)
          go_simp
          exact hK _ _ (Below.refl _ _) ⟨⟨_, _, _, _, rfl⟩, by simp [upd, f4]⟩
        · skip
          have f5 : plF _ _ _ _ _ _ 5 σ c wr' := hd 5 (by decide) (by decide)
          obtain ⟨⟨d50, d51, d52, d53, f5⟩, _⟩ := f5
          clear hd
          refine StepF.of (a1 := ⟨#[.int .i64 (m : Nat), .slice (some ⟨g, o, none⟩) xs.length vc, undef, undef, u4, u5, .pointer (some ⟨bx, 0, none⟩), .bool true, .map (some E), undef, .int .i64 x, σ 10, σ 12, σ 13, σ 14, .tuple #[.agg #[.int .i64 (m : Nat), .slice a1 n1 k1, .slice a2 n2 k2], .bool true], .int .i64 (m : Nat), .tuple #[.agg #[.int .i64 (m : Nat), .slice a1 n1 k1, .slice a2 n2 k2], .bool true], .agg #[.int .i64 (m : Nat), .slice a1 n1 k1, .slice a2 n2 k2], .bool true, .bool true, .bool false, .bool false, .slice (some ⟨g, o, none⟩) xs.length vc, .int .i64 (m : Nat), .bool true, .bool false, .bool false, .map (some E), .slice (some ⟨g, o, none⟩) xs.length vc, .int .i64 (xs.length : Nat), .int .i64 (k : Nat), .bool true, .pointer (some ⟨g, o + k, none⟩), .int .i64 x, (.tuple #[d50, d51, d52, d53]), σ 0, σ 1, σ 2, σ 3, σ 4, σ 6, σ 7, σ 8, σ 9, u45, u46, u47, u48, u49, u50, u51, undef, undef], []⟩) (by simp only [f5]) rfl (fun _ => rfl) (fun K hK => ?_)
          go_simp
          exact hK _ _ (Below.refl _ _) (by simp [plF, upd, comp, f5])
        · skip
          have f5 : plF _ _ _ _ _ _ 5 σ c wr' := hd 5 (by decide) (by decide)
          obtain ⟨⟨d50, d51, d52, d53, f5⟩, _⟩ := f5
          clear hd
          refine StepF.of (a1 := ⟨#[.int .i64 (m : Nat), .slice (some ⟨g, o, none⟩) xs.length vc, undef, undef, u4, u5, .pointer (some ⟨bx, 0, none⟩), .bool true, .map (some E), undef, .int .i64 x, σ 10, σ 12, σ 13, σ 14, .tuple #[.agg #[.int .i64 (m : Nat), .slice a1 n1 k1, .slice a2 n2 k2], .bool true], .int .i64 (m : Nat), .tuple #[.agg #[.int .i64 (m : Nat), .slice a1 n1 k1, .slice a2 n2 k2], .bool true], .agg #[.int .i64 (m : Nat), .slice a1 n1 k1, .slice a2 n2 k2], .bool true, .bool true, .bool false, .bool false, .slice (some ⟨g, o, none⟩) xs.length vc, .int .i64 (m : Nat), .bool true, .bool false, .bool false, .map (some E), .slice (some ⟨g, o, none⟩) xs.length vc, .int .i64 (xs.length : Nat), .int .i64 (k : Nat), .bool true, .pointer (some ⟨g, o + k, none⟩), .int .i64 x, (.tuple #[d50, d51, d52, d53]), σ 0, σ 1, σ 2, σ 3, σ 4, σ 6, σ 7, σ 8, σ 9, u45, u46, u47, u48, u49, u50, u51, undef, undef], []⟩) (by simp only [f5]) rfl (fun _ => rfl) (fun K hK => ?_)
          go_simp
          exact hK _ _ (Below.refl _ _) (by simp [plF, upd, comp, f5])
        · skip
          have f5 : plF _ _ _ _ _ _ 5 σ c wr' := hd 5 (by decide) (by decide)
          obtain ⟨⟨d50, d51, d52, d53, f5⟩, _⟩ := f5
          clear hd
          refine StepF.of (a1 := ⟨#[.int .i64 (m : Nat), .slice (some ⟨g, o, none⟩) xs.length vc, undef, undef, u4, u5, .pointer (some ⟨bx, 0, none⟩), .bool true, .map (some E), undef, .int .i64 x, σ 10, σ 12, σ 13, σ 14, .tuple #[.agg #[.int .i64 (m : Nat), .slice a1 n1 k1, .slice a2 n2 k2], .bool true], .int .i64 (m : Nat), .tuple #[.agg #[.int .i64 (m : Nat), .slice a1 n1 k1, .slice a2 n2 k2], .bool true], .agg #[.int .i64 (m : Nat), .slice a1 n1 k1, .slice a2 n2 k2], .bool true, .bool true, .bool false, .bool false, .slice (some ⟨g, o, none⟩) xs.length vc, .int .i64 (m : Nat), .bool true, .bool false, .bool false, .map (some E), .slice (some ⟨g, o, none⟩) xs.length vc, .int .i64 (xs.length : Nat), .int .i64 (k : Nat), .bool true, .pointer (some ⟨g, o + k, none⟩), .int .i64 x, (.tuple #[d50, d51, d52, d53]), σ 0, σ 1, σ 2, σ 3, σ 4, σ 6, σ 7, σ 8, σ 9, u45, u46, u47, u48, u49, u50, u51, undef, undef], []⟩) (by simp only [f5]) rfl (fun _ => rfl) (fun K hK => ?_)
          go_simp
          exact hK _ _ (Below.refl _ _) (by simp [plF, upd, comp, f5])
        · skip
          have f5 : plF _ _ _ _ _ _ 5 σ c wr' := hd 5 (by decide) (by decide)
          obtain ⟨⟨d50, d51, d52, d53, f5⟩, _⟩ := f5
          clear hd
          refine StepF.of (a1 := ⟨#[.int .i64 (m : Nat), .slice (some ⟨g, o, none⟩) xs.length vc, undef, undef, u4, u5, .pointer (some ⟨bx, 0, none⟩), .bool true, .map (some E), undef, .int .i64 x, σ 10, σ 12, σ 13, σ 14, .tuple #[.agg #[.int .i64 (m : Nat), .slice a1 n1 k1, .slice a2 n2 k2], .bool true], .int .i64 (m : Nat), .tuple #[.agg #[.int .i64 (m : Nat), .slice a1 n1 k1, .slice a2 n2 k2], .bool true], .agg #[.int .i64 (m : Nat), .slice a1 n1 k1, .slice a2 n2 k2], .bool true, .bool true, .bool false, .bool false, .slice (some ⟨g, o, none⟩) xs.length vc, .int .i64 (m : Nat), .bool true, .bool false, .bool false, .map (some E), .slice (some ⟨g, o, none⟩) xs.length vc, .int .i64 (xs.length : Nat), .int .i64 (k : Nat), .bool true, .pointer (some ⟨g, o + k, none⟩), .int .i64 x, (.tuple #[d50, d51, d52, d53]), σ 0, σ 1, σ 2, σ 3, σ 4, σ 6, σ 7, σ 8, σ 9, u45, u46, u47, u48, u49, u50, u51, undef, undef], []⟩) (by simp only [f5]) rfl (fun _ => rfl) (fun K hK => ?_)
          go_simp
          exact hK _ _ (Below.refl _ _) (by simp [plF, upd, comp, f5])
        · skip
          clear hd
          refine StepF.of (a1 := ⟨#[.int .i64 (m : Nat), .slice (some ⟨g, o, none⟩) xs.length vc, undef, undef, u4, u5, .pointer (some ⟨bx, 0, none⟩), .bool true, .map (some E), undef, .int .i64 x, σ 10, σ 12, σ 13, σ 14, .tuple #[.agg #[.int .i64 (m : Nat), .slice a1 n1 k1, .slice a2 n2 k2], .bool true], .int .i64 (m : Nat), .tuple #[.agg #[.int .i64 (m : Nat), .slice a1 n1 k1, .slice a2 n2 k2], .bool true], .agg #[.int .i64 (m : Nat), .slice a1 n1 k1, .slice a2 n2 k2], .bool true, .bool true, .bool false, .bool false, .slice (some ⟨g, o, none⟩) xs.length vc, .int .i64 (m : Nat), .bool true, .bool false, .bool false, .map (some E), .slice (some ⟨g, o, none⟩) xs.length vc, .int .i64 (xs.length : Nat), .int .i64 (k : Nat), .bool true, .pointer (some ⟨g, o + k, none⟩), .int .i64 x, σ 5, σ 0, σ 1, σ 2, σ 3, σ 4, σ 6, σ 7, σ 8, σ 9, u45, u46, u47, u48, u49, u50, u51, undef, undef], []⟩) rfl rfl (fun _ => rfl) (fun K hK => ?_)
          go_simp
          exact hK _ _ ((Below.refl _ _).alloc (Nat.le_refl _) _) ⟨wr'.heap.size, ⟨Nat.le_refl _, by show wr'.heap.size < (World.alloc _ _).heap.size; rw [World.size_alloc]; omega⟩, rfl, _, _, _, (box_three _ _ _ _).1⟩
        · exact absurd rfl hne
        · skip
          clear hd
          refine StepF.of (a1 := ⟨#[.int .i64 (m : Nat), .slice (some ⟨g, o, none⟩) xs.length vc, undef, undef, u4, u5, .pointer (some ⟨bx, 0, none⟩), .bool true, .map (some E), undef, .int .i64 x, σ 10, σ 12, σ 13, σ 14, .tuple #[.agg #[.int .i64 (m : Nat), .slice a1 n1 k1, .slice a2 n2 k2], .bool true], .int .i64 (m : Nat), .tuple #[.agg #[.int .i64 (m : Nat), .slice a1 n1 k1, .slice a2 n2 k2], .bool true], .agg #[.int .i64 (m : Nat), .slice a1 n1 k1, .slice a2 n2 k2], .bool true, .bool true, .bool false, .bool false, .slice (some ⟨g, o, none⟩) xs.length vc, .int .i64 (m : Nat), .bool true, .bool false, .bool false, .map (some E), .slice (some ⟨g, o, none⟩) xs.length vc, .int .i64 (xs.length : Nat), .int .i64 (k : Nat), .bool true, .pointer (some ⟨g, o + k, none⟩), .int .i64 x, σ 5, σ 0, σ 1, σ 2, σ 3, σ 4, σ 6, σ 7, σ 8, σ 9, u45, u46, u47, u48, u49, u50, u51, undef, undef], []⟩) rfl rfl (fun _ => rfl) (fun K hK => ?_)
          go_simp
          exact hK _ _ (Below.refl _ _) (by simp [plF, upd])
        · skip
          clear hd
          refine StepF.of (a1 := ⟨#[.int .i64 (m : Nat), .slice (some ⟨g, o, none⟩) xs.length vc, undef, undef, u4, u5, .pointer (some ⟨bx, 0, none⟩), .bool true, .map (some E), undef, .int .i64 x, σ 10, σ 12, σ 13, σ 14, .tuple #[.agg #[.int .i64 (m : Nat), .slice a1 n1 k1, .slice a2 n2 k2], .bool true], .int .i64 (m : Nat), .tuple #[.agg #[.int .i64 (m : Nat), .slice a1 n1 k1, .slice a2 n2 k2], .bool true], .agg #[.int .i64 (m : Nat), .slice a1 n1 k1, .slice a2 n2 k2], .bool true, .bool true, .bool false, .bool false, .slice (some ⟨g, o, none⟩) xs.length vc, .int .i64 (m : Nat), .bool true, .bool false, .bool false, .map (some E), .slice (some ⟨g, o, none⟩) xs.length vc, .int .i64 (xs.length : Nat), .int .i64 (k : Nat), .bool true, .pointer (some ⟨g, o + k, none⟩), .int .i64 x, σ 5, σ 0, σ 1, σ 2, σ 3, σ 4, σ 6, σ 7, σ 8, σ 9, u45, u46, u47, u48, u49, u50, u51, undef, undef], []⟩) rfl rfl (fun _ => rfl) (fun K hK => ?_)
          go_simp
          exact hK _ _ (Below.refl _ _) (by simp [plF, upd])
        · skip
          clear hd
          refine StepF.of (a1 := ⟨#[.int .i64 (m : Nat), .slice (some ⟨g, o, none⟩) xs.length vc, undef, undef, u4, u5, .pointer (some ⟨bx, 0, none⟩), .bool true, .map (some E), undef, .int .i64 x, σ 10, σ 12, σ 13, σ 14, .tuple #[.agg #[.int .i64 (m : Nat), .slice a1 n1 k1, .slice a2 n2 k2], .bool true], .int .i64 (m : Nat), .tuple #[.agg #[.int .i64 (m : Nat), .slice a1 n1 k1, .slice a2 n2 k2], .bool true], .agg #[.int .i64 (m : Nat), .slice a1 n1 k1, .slice a2 n2 k2], .bool true, .bool true, .bool false, .bool false, .slice (some ⟨g, o, none⟩) xs.length vc, .int .i64 (m : Nat), .bool true, .bool false, .bool false, .map (some E), .slice (some ⟨g, o, none⟩) xs.length vc, .int .i64 (xs.length : Nat), .int .i64 (k : Nat), .bool true, .pointer (some ⟨g, o + k, none⟩), .int .i64 x, σ 5, σ 0, σ 1, σ 2, σ 3, σ 4, σ 6, σ 7, σ 8, σ 9, u45, u46, u47, u48, u49, u50, u51, undef, undef], []⟩) rfl rfl (fun _ => rfl) (fun K hK => ?_)
          go_simp
          exact hK _ _ (Below.refl _ _) (by simp [plF, upd])
    · obtain rfl : k = xs.length := by omega
      rw [List.take_length] at HPB MSX
      have HV : Hid (t = true) := by show _ = _; rw [HTP.out]; exact HPB.out
      have hlen : xs.length ≤ 60 := oruB_len HOB.out (by omega)
      go_wp2_with fail
      refine (iinorderW_any E (60 * xs.length) _ _ MSX.out (by omega)).mono ?_
      rintro e w5 ⟨u, rfl, ys, ko, hp, hm, _, _, b5⟩
      have HU : Hid (ys = Y) := by
        show _ = _
        rw [← HY.out]
        refine play_of_set (by rw [HT.out]; exact HV.out) hp fun z => ?_
        rw [HD0.out]
        exact hm z
      have KO := hid (ko.mono BWR.out.size (Nat.le_refl _))
      have B5 := hid (BWR.out.trans (b5.mono BWR.out.size))
      clear ko hp hm b5
      go_wp2
      go_ret2
      exact ⟨_, by rw [HV.out]; rfl, by rw [← HU.out]; exact KO.out, B5.out⟩
end Go.Proofs.Ytijojdempijhbad
