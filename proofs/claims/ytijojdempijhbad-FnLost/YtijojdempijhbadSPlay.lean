/-
  spec.PlayHeard: letters heard of one by one, all that were ever taken for lost. Nothing old is written.
-/
import Derived.Test.YtijojdempijhbadKOwnS
import Derived.Test.YtijojdempijhbadSHearC
import Derived.Test.YtijojdempijhbadSdApp
import Derived.Test.YtijojdempijhbadSHas1
import Derived.Test.YtijojdempijhbadInts
namespace Go.Proofs.Ytijojdempijhbad
open Go.RowKit

set_option maxRecDepth 100000 in
set_option maxHeartbeats 8000000 in
theorem splay_any (many : Int) (v : Value) (xs : List Int) (w : World) (hr : KReads w v xs) (Y : List Int) (t : Bool) (hY : playL many xs = Y) (ht : playT many xs = t) :
    Calls Try.prog 48 #[.int .i64 many, v] w fun e w' => ∃ u0, e = .returned (.tuple #[u0, .bool t]) ∧ KOwn w.heap.size w'.heap.size w' u0 Y ∧ Below w.heap.size w w' := by
  have HR := hid hr
  obtain ⟨va, vc, rfl, _, _⟩ := hr
  have HY := hid hY
  have HT := hid ht
  clear hY ht
  obtain ⟨nb, hnb⟩ : ∃ b, newSdB many = b := ⟨_, rfl⟩
  obtain ⟨D0, hD0⟩ : ∃ D, newSd many = D := ⟨_, rfl⟩
  have HNB := hid hnb
  have HD0 := hid hD0
  clear hnb hD0
  have LEAF : Hid (t = false → Y = []) := fun h => by rw [← HY.out]; unfold playL; rw [HT.out, h]; rfl
  go_enter Try.func48, Try.ntmps48
  go_wp2_with fail
  refine (snewSd_any many _ D0 nb HD0.out HNB.out).mono ?_
  rintro e w1 ⟨u0, rfl, o1, b1⟩
  have B1 := hid b1
  have hs1 := b1.size
  have O1 := hid o1
  obtain ⟨a1, n1, k1, a2, n2, k2, rfl⟩ := o1.form
  obtain ⟨PB, BA, hsW⟩ := box_three (w := w1) (.int .i64 D0.f0) (.slice a1 n1 k1) (.slice a2 n2 k2) 49
  obtain ⟨W, hW⟩ : ∃ W, W = w1.alloc (.cells #[.int .i64 D0.f0, .slice a1 n1 k1, .slice a2 n2 k2] 49) := ⟨_, rfl⟩
  rw [← hW] at PB BA hsW
  have B : Hid (Below w.heap.size w W) := B1.out.trans (BA.mono hs1)
  have HPB := hid PB
  have HW := hid hW
  clear b1 o1 PB BA hW
  obtain ⟨bx, hbx⟩ : ∃ bx, bx = w1.heap.size := ⟨_, rfl⟩
  cases nb
  · have HV : Hid (t = false) := by show _ = _; rw [← HT.out]; unfold playT; rw [HNB.out]; rfl
    go_wp2
    rw [← HW.out]
    go_ret2
    exact ⟨.slice none 0 0, by rw [HV.out]; rfl, by rw [LEAF.out HV.out]; exact kown_nil _ _ _ _ _, B.out⟩
  have h60 : 0 ≤ many ∧ many ≤ 60 := by have := HNB.out; unfold newSdB at this; rwa [decide_eq_true_eq] at this
  obtain rfl : D0 = ⟨many, [], []⟩ := by rw [← HD0.out]; unfold newSd; rw [HNB.out]; rfl
  obtain ⟨m, rfl⟩ : ∃ m : Nat, many = (m : Int) := ⟨many.toNat, by omega⟩
  have hm60 : m ≤ 60 := by omega
  obtain ⟨ob, hob⟩ : ∃ b, oruB xs (m : Int) = b := ⟨_, rfl⟩
  have HOB := hid hob
  clear hob
  go_wp2_with fail
  rw [← HW.out]
  clear HW
  refine (soru_eq _ xs (m : Int) ob HOB.out h60 _ (HR.out.below B.out)).mono ?_
  rintro e w' ⟨rfl, hw⟩; obtain rfl := hw.symm
  cases ob
  · have HV : Hid (t = false) := by show _ = _; rw [← HT.out]; unfold playT; rw [HOB.out, Bool.false_and, Bool.and_false]
    go_wp2
    go_ret2
    exact ⟨.slice none 0 0, by rw [HV.out]; rfl, by rw [LEAF.out HV.out]; exact kown_nil _ _ _ _ _, B.out⟩
  have HTP : Hid (t = playB ⟨(m : Int), [], []⟩ xs) := by show _ = _; rw [← HT.out]; unfold playT; rw [HNB.out, HOB.out, HD0.out]; rfl
  obtain ⟨i0, hi, hz0, hz1, hz2⟩ := info_parts info_boolM
  go_wp2_with (at_make; refine wpList_make_row _ rfl _ _ 135 rfl 4 i0 (.bool false) Try.underlying135 hi hz0 hz1 rfl .i64 .i64 m rfl rfl (by rw [hz2]; omega) (by omega) ?_)
  obtain ⟨W3, hW3⟩ : ∃ X, X = W.alloc (.cells (madeCells #[.bool false] m) 4) := ⟨_, rfl⟩
  have M3 := hid (MRow.made W m)
  have BA3 : Below W.heap.size W (W.alloc (.cells (madeCells #[.bool false] m) 4)) := (Below.refl _ _).alloc (Nat.le_refl _) _
  have hs3 : W3.heap.size = W.heap.size + 1 := by rw [hW3]; exact World.size_alloc _ _
  rw [← hW3] at M3 BA3
  have B3 := hid (B.out.trans (BA3.mono B.out.size))
  have PB3 := hid (HPB.out.below BA3 HPB.out.lt)
  rw [← hW3]
  obtain ⟨E, hE⟩ : ∃ E, E = w1.heap.size + 1 := ⟨_, rfl⟩
  rw [hsW, ← hE] at M3 hs3
  rw [← hE, ← hbx]
  rw [← hbx] at PB3
  have hbE : bx < E := by omega
  have hbw : w.heap.size ≤ bx := by omega
  clear hE hbx hW3 BA3 hsW B HPB B1 hs1
  go_wp2
  go_loopw [37] (fun i wr => ∃ (k : Nat) (D : SdD) (p1 : Option Addr) (q1 r1 : Nat) (p2 : Option Addr) (q2 r2 : Nat), k ≤ xs.length ∧ i = .int .i64 (k : Nat) ∧ (playSd ⟨(m : Int), [], []⟩ (xs.take k) = D ∧ playB ⟨(m : Int), [], []⟩ (xs.take k) = true) ∧ BoxL wr bx [.int .i64 (m : Nat), .slice p1 q1 r1, .slice p2 q2 r2] ∧ SdNew (E + 1) wr (.agg #[.int .i64 (m : Nat), .slice p1 q1 r1, .slice p2 q2 r2]) D ∧ MRow wr E m (fun j => (playE ⟨(m : Int), [], []⟩ (xs.take k)).contains (j : Int)) ∧ E < wr.heap.size ∧ Below w.heap.size w wr) (fun i _ => xs.length - (intOf i).toNat)
  case atStart => exact ⟨0, ⟨(m : Int), [], []⟩, a1, n1, k1, a2, n2, k2, Nat.zero_le _, rfl, ⟨rfl, rfl⟩, PB3.out, sdNew_bare _ O1.out, M3.out, by omega, B3.out⟩
  case round =>
    obtain ⟨k, D, p1, q1, r1, p2, q2, r2, hk, rfl, ⟨hD, hpb⟩, hbx, hsd, hms, hEw, hbel⟩ := hrel
    have PX := hid hbx
    have SDX := hid hsd
    have MX := hid hms
    have BWR := hid hbel
    have HDD := hid hD
    have HPB := hid hpb
    have hsz := hbel.size
    clear hbx hsd hms hbel hD hpb M3 B3 PB3
    by_cases hlt : k < xs.length
    · obtain ⟨hx0, hgd, hf0, n1', n2', n3', n4'⟩ := play_next hm60 HOB.out hlt HPB.out
      rw [HDD.out] at hgd hf0 n1' n2' n3' n4'
      obtain ⟨g, o, cap', e, hc⟩ := HR.out.cells k hlt
      cases e
      obtain ⟨x, hx⟩ : ∃ x, xs.getD k 0 = x := ⟨_, rfl⟩
      have cx : wr.cell? ⟨g, o + k, none⟩ = some (.int .i64 x) := by rw [← hx]; exact (hc k hlt).below BWR.out (hc k hlt).lt
      rw [hx] at hx0 n1' n2' n3' n4'
      obtain ⟨X, hX⟩ : ∃ X, hearSd D (oneL x) = X := ⟨_, rfl⟩
      obtain ⟨LA, hLA⟩ : ∃ X, hearLa D (oneL x) = X := ⟨_, rfl⟩
      obtain ⟨tb, htb⟩ : ∃ b, hearB D (oneL x) = b := ⟨_, rfl⟩
      rw [htb] at n1' n2'
      rw [hX] at n3'
      rw [hLA] at n4'
      have HX := hid hX
      have HLA := hid hLA
      have HTB := hid htb
      have N1 := hid n1'
      have N2 := hid n2'
      have N3 := hid n3'
      have N4 := hid n4'
      have HF0 := hid hf0
      have G1 := hid (good_chain (bel_good (goodSd_parts hgd).1))
      have G2 := hid (good_chain (bel_good (bel_one hx0 (show (m : Int) ≤ 60 by omega))))
      obtain ⟨y, hy⟩ : ∃ y, y = x + 1 := ⟨_, rfl⟩
      have HOL : Hid (oneL x = [(x, y)]) := by show _ = _; rw [hy]; rfl
      have hw1 : IntKind.i64.wrap (x + 1) = y := by rw [hy, IntKind.wrap_i64]; omega
      have n0 : (0 : Int) ≤ (k : Int) := by omega
      have m1 : (k : Int) < (xs.length : Int) := by omega
      obtain ⟨z0, z1, z2⟩ := PX.out.three
      have AB : Hid (Below wr.heap.size wr (wr.alloc (.cells #[.int .i64 x, .int .i64 y] 133))) := (Below.refl _ _).alloc (Nat.le_refl _) _
      clear hc hx hX hLA htb n1' n2' n3' n4' hgd hf0 hy hx0
      go_wp2_with fail
      refine (shearc_any _ _ D (oneL x) m _ (SDX.out.reads.below AB.out) (by rw [HOL.out]; exact spreads_one _ _ _ _) HF0.out hm60 G1.out G2.out).mono ?_
      rintro e w2 ⟨u0, u1, u2, rfl, c1, c2, sd, kf, kl, hc, b2⟩
      rw [← N2.out]
      obtain ⟨s1, t1, v1, s2, t2, v2, rfl⟩ := sd.form
      obtain ⟨s3, t3, v3, rfl⟩ := kf.sform
      obtain ⟨s4, t4, v4, rfl⟩ := kl.sform
      have hsA : wr.heap.size + 1 ≤ w2.heap.size := by have := b2.size; rw [World.size_alloc] at this; exact this
      have b2' := AB.out.trans (b2.mono AB.out.size)
      have SD2 := hid (sd.mono (lo' := E + 1) (by rw [World.size_alloc]; omega))
      have KL2 := hid kl
      have PX2 := hid (PX.out.below b2' PX.out.lt)
      have MX2 := hid (MX.out.of_block (b2'.block E hEw))
      have BW2 := hid (BWR.out.trans (b2'.mono BWR.out.size))
      have hc2 : E < c2.1 := by have := hc.2.2.2.1; rw [World.size_alloc] at this; omega
      obtain ⟨PN, BN, hsN⟩ := box_three (w := w2) (.int .i64 (m : Nat)) (.slice s1 t1 v1) (.slice s2 t2 v2) 49
      have PX4 := PX2.out.below BN PX2.out.lt
      have hb2x : Hid (bx < w2.heap.size) := PX2.out.lt
      obtain ⟨W4, hW4⟩ : ∃ X, X = w2.alloc (.cells #[.int .i64 (m : Nat), .slice s1 t1 v1, .slice s2 t2 v2] 49) := ⟨_, rfl⟩
      clear sd kf kl hc b2 b2' PX SDX MX BWR AB z0 z1 z2 cx
      cases tb
      · have HV : Hid (t = false) := by show _ = _; rw [HTP.out]; exact play_ill (k := k + 1) N1.out
        have B4 : Hid (Below w.heap.size w W4) := by rw [hW4]; exact BW2.out.trans (BN.mono BW2.out.size)
        have HW4 := hid hW4
        clear PN PX4 hW4 BN hsN
        go_wp2
        rw [← HW4.out]
        go_ret2
        exact ⟨.slice none 0 0, by rw [HV.out]; rfl, by rw [LEAF.out HV.out]; exact kown_nil _ _ _ _ _, B4.out⟩
      obtain ⟨c0, c1', c2'⟩ := PN.three
      obtain ⟨⟨y0, f0⟩, ⟨y1, f1⟩, y2, f2⟩ := PX4.form3
      have PUT := three_put PX4 (.int .i64 (m : Nat)) (.slice s1 t1 v1) (.slice s2 t2 v2)
      have OO := three_only (w2.alloc (.cells #[.int .i64 (m : Nat), .slice s1 t1 v1, .slice s2 t2 v2] 49)) bx (.int .i64 (m : Nat)) (.slice s1 t1 v1) (.slice s2 t2 v2)
      have BLW := three_below (lo := w.heap.size) (b := bx) (w2.alloc (.cells #[.int .i64 (m : Nat), .slice s1 t1 v1, .slice s2 t2 v2] 49)) (.int .i64 (m : Nat)) (.slice s1 t1 v1) (.slice s2 t2 v2) (by omega)
      obtain ⟨WZ, hWZ⟩ : ∃ WZ, WZ = (((w2.alloc (.cells #[.int .i64 (m : Nat), .slice s1 t1 v1, .slice s2 t2 v2] 49)).setCell ⟨bx, 0, none⟩ (.int .i64 (m : Nat))).setCell ⟨bx, 1, none⟩ (.slice s1 t1 v1)).setCell ⟨bx, 2, none⟩ (.slice s2 t2 v2) := ⟨_, rfl⟩
      rw [← hWZ] at PUT OO BLW
      have blk : ∀ q, q < w2.heap.size → q ≠ bx → WZ.heap[q]? = w2.heap[q]? := fun q hq hn => (OO.2.1 q hn).trans (BN.block q hq)
      have hszZ : w2.heap.size + 1 = WZ.heap.size := by rw [OO.1, hsN]
      have PZ := hid PUT
      have SDZ := hid (SD2.out.at (w' := WZ) fun q h1 h2 => blk q h2 (by omega))
      have KLZ := hid (KL2.out.at (w' := WZ) fun q h1 h2 h3 => blk q h3 (by omega))
      have MZ := hid (MX2.out.of_block (blk E (by omega) (by omega)))
      have BZ := hid ((BW2.out.trans (BN.mono BW2.out.size)).trans BLW)
      have HWZ := hid hWZ
      have hEZ : E < WZ.heap.size := by omega
      have hXe : X = ⟨(m : Int), joinL D.f1 (oneL x), selU (lostF (joinL D.f1 (oneL x)) D.f2) m⟩ := by rw [← HX.out, hearSd_yes HTB.out, HF0.out]; rfl
      have hLe : selU (lateF (joinL D.f1 (oneL x)) D.f2) m = LA := by rw [← HLA.out]; unfold hearLa; rw [HTB.out, HF0.out]; rfl
      have HXf : Hid (X.f0 = (m : Int)) := by show _ = _; rw [hXe]
      rw [← hXe] at SDZ
      rw [hLe] at KLZ
      have HIL : Hid (∀ z ∈ LA, 0 ≤ z ∧ z < (m : Int)) := fun z hz => by
        rw [← HLA.out] at hz
        have h := hearLa_in hz
        rw [HF0.out] at h
        exact h
      clear PN PX4 PUT OO BLW hWZ blk hszZ hW4 BN hsN SD2 KL2 PX2 MX2 BW2 hXe hLe W4
      obtain ⟨la, lc, el, hll, hlx⟩ := KLZ.out.reads
      injection el with el1 el2 el3
      subst el1 el2 el3
      go_wp2
      rw [← HWZ.out]
      clear c0 c1' c2' y0 y1 y2 f0 f1 f2 HWZ
      go_loopw [58] (fun i wr' => ∃ j : Nat, j ≤ LA.length ∧ i = .int .i64 (j : Nat) ∧ MRow wr' E m (fun q => (playE ⟨(m : Int), [], []⟩ (xs.take k)).contains (q : Int) || (LA.take j).contains (q : Int)) ∧ OnlyP (fun g => g = E) WZ wr') (fun i _ => LA.length - (intOf i).toNat)
      case atStart => exact ⟨0, Nat.zero_le _, rfl, MZ.out.congr fun i _ => by simp, OnlyP.refl _ _⟩
      case round =>
        obtain ⟨j, hj, rfl, hmr, honly⟩ := hrel
        have HM := hid hmr
        have HOn := hid honly
        clear hmr honly
        by_cases hjl : j < LA.length
        · obtain ⟨g2, o2, hl2, hcc⟩ : ∃ b off, s4 = some ⟨b, off, none⟩ ∧ ∀ i, i < LA.length → KCells WZ b (off + i) (LA.getD i 0) := hlx.resolve_left (fun e => by rw [e] at hjl; simp at hjl)
          subst hl2
          have hcz := hcc j hjl
          have hg2 : g2 ≠ E := by
            rintro rfl
            have h1 := (MZ.out 0)
            rcases KLZ.out.2 with ⟨_, _, e, e0⟩ | ⟨g', cap', e, hg', _⟩
            · rw [e0] at hjl; simp at hjl
            · cases e; omega
          have hin := HIL.out (LA.getD j 0) (by simp [List.getD_eq_getElem?_getD, hjl])
          have HTk := hid (contains_take LA j hjl)
          obtain ⟨zz, hzz⟩ : ∃ zz : Nat, LA.getD j 0 = (zz : Int) := ⟨(LA.getD j 0).toNat, by omega⟩
          rw [hzz] at hcz hin HTk
          have cz : wr.cell? ⟨g2, o2 + j, none⟩ = some (.int .i64 (zz : Nat)) := hcz.of_block (HOn.out.2.1 g2 hg2)
          have hzm : zz < m := by omega
          obtain ⟨ce, fe⟩ := HM.out zz hzm
          have HM2 : Hid (MRow (wr.setCell ⟨E, zz, none⟩ (.bool true)) E m (fun q => (playE ⟨(m : Int), [], []⟩ (xs.take k)).contains (q : Int) || (LA.take (j + 1)).contains (q : Int))) := HM.out.set zz fun i hi => by
            rw [HTk.out, Bool.or_assoc]
            congr 2
            rw [Bool.eq_iff_iff, beq_iff_eq, decide_eq_true_eq]
            omega
          have HO2 := hid (HOn.out.trans (onlyP_set wr E zz (.bool true)))
          have j0 : (0 : Int) ≤ (j : Int) := by omega
          have j1 : (j : Int) < (LA.length : Int) := by omega
          have j2 : (zz : Int) < (m : Int) := by omega
          generalize ((playE ⟨(m : Int), [], []⟩ (xs.take k)).contains ((zz : Nat) : Int) || (LA.take j).contains ((zz : Nat) : Int)) = bb at ce
          clear hcz hin hcc hzz HM HOn
          go_wp2
          go_roundw
          case rel => exact ⟨j + 1, by omega, by go_num, HM2.out, HO2.out⟩
          case measure => simp [intOf]; omega
        · obtain rfl : j = LA.length := by omega
          have PY := hid (PZ.out.of_block (HOn.out.2.1 bx (by omega)))
          have SDY := hid (SDZ.out.at (w' := wr) fun q h1 h2 => HOn.out.2.1 q (by omega))
          have BY := hid (BZ.out.trans (HOn.out.below fun j e => by omega))
          have hEy : E < wr.heap.size := by rw [HOn.out.1]; exact hEZ
          have hge : ¬ (LA.length : Int) < (LA.length : Int) := by omega
          clear HOn
          go_wp2
          go_roundw
          case rel =>
            refine ⟨k + 1, X, s1, t1, v1, s2, t2, v2, by omega, by go_num, ⟨N3.out, N1.out⟩, PY.out, by have h := SDY.out; rw [HXf.out] at h; exact h, HM.out.congr fun i _ => ?_, hEy, BY.out⟩
            rw [List.take_length, N4.out, List.contains_eq_mem, List.contains_eq_mem, List.contains_eq_mem, Bool.eq_iff_iff, Bool.or_eq_true, decide_eq_true_eq, decide_eq_true_eq, decide_eq_true_eq, List.mem_append]
          case measure => simp [intOf]; omega
    · obtain rfl : k = xs.length := by omega
      rw [List.take_length] at HPB MX
      have HV : Hid (t = true) := by show _ = _; rw [HTP.out]; exact HPB.out
      have HYE : Hid (selU (fun x => (playE ⟨(m : Int), [], []⟩ xs).contains x) m = Y) := by
        show _ = _
        rw [← HY.out]
        unfold playL
        rw [HT.out, HV.out, HD0.out]
        rfl
      clear SDX PX
      go_wp2
      obtain ⟨q, hq⟩ : ∃ q, wr.heap.size = q := ⟨_, rfl⟩
      have HBK : Hid (∀ W', Below wr.heap.size wr W' → MRow W' E m (fun j => (playE ⟨(m : Int), [], []⟩ xs).contains (j : Int)) ∧ Below w.heap.size w W') := fun W' h => ⟨MX.out.of_block (h.block E hEw), BWR.out.trans (h.mono BWR.out.size)⟩
      have hqs : w.heap.size ≤ q := by omega
      clear MX BWR
      go_loopw [17, 69] (fun lv i wr' => ∃ j : Nat, j ≤ m ∧ i = .int .i64 (j : Nat) ∧ wr'.ownsRow q 3 1 lv (selU (fun x => (playE ⟨(m : Int), [], []⟩ xs).contains x) j).length (kflat (selU (fun x => (playE ⟨(m : Int), [], []⟩ xs).contains x) j)) ∧ (MRow wr' E m (fun j => (playE ⟨(m : Int), [], []⟩ xs).contains (j : Int)) ∧ Below w.heap.size w wr') ∧ Below q wr wr' ∧ q ≤ wr'.heap.size) (fun _ i _ => m - (intOf i).toNat)
      case atStart => exact ⟨0, Nat.zero_le _, rfl, World.ownsRow_nil _ _ _ _, HBK.out _ (Below.refl _ _), Below.refl _ _, by omega⟩
      case round =>
        obtain ⟨j, hj, rfl, hown, ⟨hmr, hbl⟩, hbel, hqw⟩ := hrel
        have HO := hid hown
        have HM := hid hmr
        have HB := hid hbl
        have HBW := hid hbel
        clear hown hmr hbl hbel
        have hlen := selU_len (fun x => (playE ⟨(m : Int), [], []⟩ xs).contains x) j
        by_cases hlt : j < m
        · obtain ⟨ce, fe⟩ := HM.out j hlt
          replace ce : wr.cell? ⟨E, j, none⟩ = some (.bool ((playE ⟨(m : Int), [], []⟩ xs).contains (j : Int))) := ce
          have HS : Hid (selU (fun x => (playE ⟨(m : Int), [], []⟩ xs).contains x) (j + 1) = selU (fun x => (playE ⟨(m : Int), [], []⟩ xs).contains x) j ++ (bif (playE ⟨(m : Int), [], []⟩ xs).contains (j : Int) then [(j : Int)] else [])) := rfl
          obtain ⟨bb, hbb⟩ : ∃ b, (playE ⟨(m : Int), [], []⟩ xs).contains (j : Int) = b := ⟨_, rfl⟩
          rw [hbb] at ce HS
          obtain ⟨ys, hys⟩ : ∃ ys, selU (fun x => (playE ⟨(m : Int), [], []⟩ xs).contains x) j = ys := ⟨_, rfl⟩
          rw [hys] at HS HO hlen
          have j0 : (0 : Int) ≤ (j : Int) := by omega
          have j1 : (j : Int) < (m : Int) := by omega
          clear hbb hys fe
          cases bb
          · go_wp2
            go_roundw
            case rel => exact ⟨j + 1, by omega, by go_num, by rw [HS.out]; simpa using HO.out, ⟨HM.out, HB.out⟩, HBW.out, hqw⟩
            case measure => simp [intOf]; omega
          · go_wp2_with (at_builtin; refine wpList_append_reads _ rfl _ _ rfl q _ _ _ rfl (HO.out.alloc _) _ [(j : Int)] rfl (kreads_int _ _) (by simp; omega) (by simp; omega) ?_)
            intro v' w4 hown' hgrow _
            have BQ : Below q wr w4 := ((Below.refl q wr).alloc hqw _).grown hgrow (by simp; omega) (by intro i hi; exact (HO.out.lt i hi).1)
            have O4 : Hid (w4.ownsRow q 3 1 v' (ys.length + 1) (kflat (ys ++ [(j : Int)]))) := hown'
            have hEq : E < q := by omega
            have M4 := hid (HM.out.of_block (BQ.block E hEq))
            have B4 := hid (HB.out.trans (BQ.mono hqs))
            have BW4 := hid (HBW.out.trans BQ)
            have hq4 : q ≤ w4.heap.size := Nat.le_trans hqw BQ.size
            clear hown' hgrow BQ hEq
            go_wp2
            go_roundw
            case rel => exact ⟨j + 1, by omega, by go_num, by rw [HS.out]; simpa using O4.out, ⟨M4.out, B4.out⟩, BW4.out, hq4⟩
            case measure => simp [intOf]; omega
        · obtain rfl : j = m := by omega
          rw [HYE.out] at HO hlen
          have KO := hid (KOwn.of_owns HO.out (by omega))
          have hge : ¬ (j : Int) < (j : Int) := by omega
          go_wp2
          go_ret2
          exact ⟨_, by rw [HV.out]; rfl, KO.out.mono hqs (Nat.le_refl _), HB.out⟩
end Go.Proofs.Ytijojdempijhbad
