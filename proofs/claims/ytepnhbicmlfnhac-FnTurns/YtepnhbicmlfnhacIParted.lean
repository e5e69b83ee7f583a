/-
  impl.partedBy: a queue parted by a credit, through a pipe. Nothing old is written.
-/
import Derived.Test.YtepnhbicmlfnhacTurnMath
import Derived.Test.YtepnhbicmlfnhacITakeP
import Derived.Test.YtepnhbicmlfnhacKAppN
import Derived.Test.YtepnhbicmlfnhacInfoII
import Derived.Test.YtepnhbicmlfnhacTurnPut
namespace Go.Proofs.Ytepnhbicmlfnhac
open Go.RowKit

/-- Some packets are parted. -/
structure PartL (w : World) (c : Nat) (ss ls : List Int) (vs vl : Value) (wr : World) : Prop where
  os : wr.ownsRow w.heap.size 3 1 vs ss.length (kflat ss)
  ol : wr.ownsRow w.heap.size 3 1 vl ls.length (kflat ls)
  ap : ∀ g, vs.ownBlock = some g → vl.ownBlock = some g → False
  sc : vs.ownBlock ≠ some c
  lc : vl.ownBlock ≠ some c
  bel : Below w.heap.size w wr
theorem PartL.flip {w : World} {c : Nat} {ss ls : List Int} {vs vl : Value} {wr : World} (h : PartL w c ss ls vs vl wr) : PartL w c ls ss vl vs wr := ⟨h.ol, h.os, fun g a b => h.ap g b a, h.lc, h.sc, h.bel⟩
/-- The pipe gives one: the rows stay. -/
theorem PartL.took {w : World} {c : Nat} {ss ls : List Int} {vs vl : Value} {wr w' : World} (h : PartL w c ss ls vs vl wr) (hc : w.heap.size ≤ c) (hg : wr.grownBy w' (some c)) : PartL w c ss ls vs vl w' :=
  ⟨owns_at h.os fun g e hl => hg.block g hl (fun e' => h.sc (by rw [e, ← e'])), owns_at h.ol fun g e hl => hg.block g hl (fun e' => h.lc (by rw [e, ← e'])), h.ap, h.sc, h.lc, h.bel.grown hg (by have := h.bel.size; omega) (fun m e => by cases e; exact hc)⟩
/-- One packet more behind the first row. -/
theorem PartL.more {w : World} {c : Nat} {ss ls : List Int} {vs vl v' : Value} {wr wa w' : World} {x : Int} (h : PartL w c ss ls vs vl wr) (hcw : c < wr.heap.size) (ha : Below wr.heap.size wr wa) (ho : w'.ownsRow w.heap.size 3 1 v' (ss.length + [x].length) (kflat (ss ++ [x]))) (hg : wa.grownBy w' vs.ownBlock) (hv : v'.ownBlock = vs.ownBlock ∨ v'.ownBlock = some wa.heap.size) : PartL w c (ss ++ [x]) ls v' vl w' := by
  have hsz := ha.size
  have hlt := fun g e => owns_lt h.ol g e
  refine ⟨by rw [List.length_append]; exact ho, owns_at h.ol fun g e hl => ?_, fun g a b => ?_, fun e => ?_, h.lc, (h.bel.trans (ha.mono h.bel.size)).grown hg (by have := h.bel.size; omega) (fun m e => (owns_lt h.os m e).1)⟩
  · rw [grown_at' hg g (by omega) (fun e' => h.ap g e' e), ha.block g hl]
  · rcases hv with hv | hv
    · exact h.ap g (hv ▸ a) b
    · have := (hlt g b).2
      rw [hv] at a
      cases a
      omega
  · rcases hv with hv | hv
    · exact h.sc (hv ▸ e)
    · rw [hv] at e
      cases e
      omega
where
  grown_at' {w w' : World} {row : Option Nat} (h : w.grownBy w' row) (k : Nat) (hk : k < w.heap.size) (hne : row = some k → False) : w'.heap[k]? = w.heap[k]? := h.block k hk (fun e => hne e.symm)
theorem Pipe.lt {w : World} {c : Nat} {xs : List Int} (h : Pipe w c xs) : c < w.heap.size := by
  obtain ⟨_, _, _, h⟩ := h
  exact (Array.getElem?_eq_some_iff.1 h).1
theorem Pipe.at {w w' : World} {c : Nat} {xs : List Int} (h : Pipe w c xs) (e : w'.heap[c]? = w.heap[c]?) : Pipe w' c xs := by
  obtain ⟨a, b, d, h⟩ := h
  exact ⟨a, b, d, e.trans h⟩
def lenV : Value → Nat
  | .slice _ n _ => n
  | _ => 0
set_option maxRecDepth 100000 in
set_option maxHeartbeats 8000000 in
theorem parted_any (c0 : Int) (v : Value) (q : List Int) (w : World) (hr : KReads w v q) (hl : q.length ≤ 30) (hc0 : 0 ≤ c0 ∧ c0 ≤ 1000) (hq : ∀ x ∈ q, 0 ≤ x ∧ x ≤ 1000) :
    Calls Try.prog 113 #[.int .i64 c0, v] w fun e w' => ∃ vs vl, e = .returned (.tuple #[vs, vl]) ∧ ∃ c, PartL w c (takeT c0 q).1 (takeT c0 q).2.1 vs vl w' := by
  have HR := hid hr
  obtain ⟨a, cap, rfl, _, _⟩ := hr
  obtain ⟨n, hn⟩ : ∃ n, n = q.length := ⟨_, rfl⟩
  have HN := hid hn
  have HQ := hid hq
  have hn30 : n ≤ 30 := by omega
  rw [← hn]
  clear hn hl hq
  go_enter Try.func113, Try.ntmps113
  go_wp2_with fail
  refine (show Calls Try.prog 121 #[.slice a n cap] w _ from by rw [HN.out]; exact pipeOf_any a cap q w HR.out (by rw [← HN.out]; exact hn30)).mono ?_
  rintro e w1 ⟨c, rfl, hcw, hp, hb1⟩
  have HP := hid hp
  have hc1 := hp.lt
  have PL : Hid (PartL w c [] [] (.slice none 0 0) (.slice none 0 0) w1) := ⟨⟨rfl, .inl ⟨rfl, rfl⟩⟩, ⟨rfl, .inl ⟨rfl, rfl⟩⟩, (fun g e => by cases e), (fun e => by cases e), (fun e => by cases e), hb1⟩
  clear hp hb1
  -- the loop, from wherever it stands
  have NEXT : ∀ (k : Nat) (wr : World), k ≤ n → Pipe wr c (q.drop k) → (k < n → ∃ x, q.drop k = x :: q.drop (k + 1) ∧ x = q.getD k 0) ∧ (k = n → q.drop k = []) := by
    intro k wr hk _
    refine ⟨fun h => ⟨q.getD k 0, ?_, rfl⟩, fun h => ?_⟩
    · have hlt : k < q.length := by have := HN.out; omega
      rw [List.drop_eq_getElem_cons hlt]
      simp [List.getD_eq_getElem?_getD, hlt]
    · subst h
      have := HN.out
      rw [List.drop_eq_nil_of_le (by omega)]
  obtain ⟨RI, hRI⟩ : ∃ RI : Value → Value → Value → Value → Value → World → Prop, RI = fun cr vs vl sz is wr => ∃ k : Nat, k ≤ n ∧ cr = .int .i64 (takeT c0 (q.take k)).2.2 ∧ PartL w c (takeT c0 (q.take k)).1 (takeT c0 (q.take k)).2.1 vs vl wr ∧ ((k < n ∧ sz = .int .i64 (q.getD k 0) ∧ is = .bool true ∧ Pipe wr c (q.drop (k + 1))) ∨ (k = n ∧ sz = .int .i64 0 ∧ is = .bool false)) := ⟨_, rfl⟩
  have HRI := hid hRI
  clear hRI
  -- one packet taken out of the pipe
  have TAKE : ∀ (k : Nat) (cr vs vl : Value) (wr : World), k ≤ n → cr = .int .i64 (takeT c0 (q.take k)).2.2 → PartL w c (takeT c0 (q.take k)).1 (takeT c0 (q.take k)).2.1 vs vl wr → Pipe wr c (q.drop k) →
      Calls Try.prog 122 #[.chan (some c)] wr fun e w' => ∃ sz is, e = .returned (.tuple #[.int .i64 sz, .bool is]) ∧ RI cr vs vl (.int .i64 sz) (.bool is) w' := by
    intro k cr vs vl wr hk hcr hPL hpi
    have hN := NEXT k wr hk hpi
    by_cases hlt : k < n
    · obtain ⟨x, hd, hx⟩ := hN.1 hlt
      rw [hd] at hpi
      refine (take_some c x _ wr hpi).mono ?_
      rintro e w' ⟨rfl, hp', hg', _⟩
      refine ⟨x, true, rfl, ?_⟩
      rw [HRI.out]
      exact ⟨k, hk, hcr, hPL.took hcw hg', .inl ⟨hlt, by rw [hx], rfl, hp'⟩⟩
    · have hkn : k = n := by omega
      rw [hN.2 hkn] at hpi
      refine (take_none c wr hpi).mono ?_
      rintro e w' ⟨rfl, hw⟩
      obtain rfl := hw.symm
      refine ⟨0, false, rfl, ?_⟩
      rw [HRI.out]
      exact ⟨k, hk, hcr, hPL, .inr ⟨hkn, rfl, rfl⟩⟩
  have HTAKE := hid TAKE
  clear TAKE NEXT
  go_wp2_with fail
  refine (HTAKE.out 0 (.int .i64 c0) (.slice none 0 0) (.slice none 0 0) w1 (by omega) (by simp [takeT]) (by simpa [takeT] using PL.out) (by simpa using HP.out)).mono ?_
  rintro e w2 ⟨sz, is, rfl, hI⟩
  have I2 := hid hI
  clear hI PL HP hc1
  go_wp2_with fail
  go_loopw [0, 4, 5, 7, 8] (fun cr vs vl sz is wr => RI cr vs vl sz is wr ∧ ∃ z b, sz = .int .i64 z ∧ is = .bool b) (fun _ vs vl _ _ _ => n - (lenV vs + lenV vl))
  case atStart => exact ⟨I2.out, _, _, rfl, rfl⟩
  case round =>
    obtain ⟨hI, z, b, rfl, rfl⟩ := hrel
    clear I2
    rw [HRI.out] at hI
    obtain ⟨k, hk, rfl, hPL, hcs⟩ := hI
    rcases hcs with ⟨hlt, hz, hb, hpi⟩ | ⟨hkn, hz, hb⟩
    · cases hb
      have hbd := takeT_in (q.take k) c0 hc0.1 (fun x hx => (HQ.out x (List.mem_of_mem_take hx)).1)
      have hzb : 0 ≤ z ∧ z ≤ 1000 := by
        cases hz
        have hlt' : k < q.length := by have := HN.out; omega
        exact HQ.out _ (by rw [List.getD_eq_getElem?_getD, List.getElem?_eq_getElem hlt']; exact List.getElem_mem _)
      have hT : takeT c0 (q.take (k + 1)) = partX (takeT c0 (q.take k)) z := by
        cases hz
        rw [take_succ_snoc q k (by have := HN.out; omega), takeT_snoc]
      have hlk : (q.take k).length ≤ 30 := by rw [List.length_take]; omega
      obtain ⟨ss, ls, cc, hst⟩ : ∃ ss ls cc, takeT c0 (q.take k) = (ss, ls, cc) := ⟨_, _, _, rfl⟩
      have HST := hid hst
      rw [hst] at hbd hT hPL ⊢
      clear hst
      simp only at hbd hPL ⊢
      have hsum : ss.length + ls.length = k := by
        have := takeT_app (q.take k) c0
        rw [HST.out] at this
        have h2 : (ss ++ ls).length = (q.take k).length := by rw [this]
        rw [List.length_append, List.length_take] at h2
        have := HN.out
        omega
      have HPL := hid hPL
      have HPI := hid hpi
      obtain ⟨sa, ks, es⟩ := sform_of_owns hPL.os
      obtain ⟨al, kl, el⟩ := sform_of_owns hPL.ol
      subst es el
      have hcl := hpi.lt
      have hbl := hPL.bel.size
      clear hPL hpi hz
      by_cases hle : z ≤ cc
      · have d1 : decide (z ≤ cc) = true := by rw [decide_eq_true_eq]; exact hle
        by_cases h0 : ls.length = 0
        · obtain rfl := List.length_eq_zero_iff.1 h0
          have HT : Hid (takeT c0 (q.take (k + 1)) = (ss ++ [z], [], cc - z)) := by show _ = _; rw [hT]; simp [partX, hle]
          have hw1 : IntKind.i64.wrap (cc - z) = cc - z := by rw [IntKind.wrap_i64]; omega
          clear hT h0
          go_wp2_with (at_builtin; refine wpList_append_reads _ rfl _ _ rfl w.heap.size _ _ _ rfl (HPL.out.os.alloc _) _ [z] rfl (kreads_int _ _) (by rw [List.length_singleton]; omega) (by rw [World.size_alloc]; omega) ?_)
          intro v6 w6 ho6 hg6 hv6
          have HPL6 := hid (HPL.out.more hcl ((Below.refl _ _).alloc (Nat.le_refl _) _) ho6 hg6 (by rw [World.size_alloc]; exact hv6))
          have HPI6 : Hid (Pipe w6 c (q.drop (k + 1))) := HPI.out.at (by rw [hg6.block c (by rw [World.size_alloc]; omega) (fun e => HPL.out.sc e.symm), ((Below.refl wr.heap.size wr).alloc (Nat.le_refl _) _).block c hcl])
          obtain ⟨a6, k6, e6⟩ := sform_of_owns ho6
          subst e6
          clear ho6 hg6 hv6
          go_wp2_with fail
          refine (HTAKE.out (k + 1) (.int .i64 (cc - z)) (.slice a6 (ss.length + [z].length) k6) (.slice al ([] : List Int).length kl) w6 (by omega) (by rw [HT.out]) (by rw [HT.out]; exact HPL6.out) HPI6.out).mono ?_
          rintro e w7 ⟨sz, is, rfl, hI7⟩
          have I7 := hid hI7
          clear hI7 HPL6 HPI6
          go_wp2
          go_roundw
          case rel => exact ⟨I7.out, _, _, rfl, rfl⟩
          case measure => (try simp only [List.length_nil] at hsum); simp only [lenV]; (try simp only [List.length_nil]); omega
        · have HT : Hid (takeT c0 (q.take (k + 1)) = (ss, ls ++ [z], cc)) := by show _ = _; rw [hT]; simp [partX, h0]
          have hne : ((ls.length : Int) == 0) = false := by rw [beq_eq_false_iff_ne]; omega
          have hne' : ¬ ((ls.length : Int) = 0) := by omega
          clear hT h0
          go_wp2_with (at_builtin; refine wpList_append_reads _ rfl _ _ rfl w.heap.size _ _ _ rfl (HPL.out.ol.alloc _) _ [z] rfl (kreads_int _ _) (by rw [List.length_singleton]; omega) (by rw [World.size_alloc]; omega) ?_)
          intro v6 w6 ho6 hg6 hv6
          have HPL6 := hid ((HPL.out.flip.more hcl ((Below.refl _ _).alloc (Nat.le_refl _) _) ho6 hg6 (by rw [World.size_alloc]; exact hv6)).flip)
          have HPI6 : Hid (Pipe w6 c (q.drop (k + 1))) := HPI.out.at (by rw [hg6.block c (by rw [World.size_alloc]; omega) (fun e => HPL.out.lc e.symm), ((Below.refl wr.heap.size wr).alloc (Nat.le_refl _) _).block c hcl])
          obtain ⟨a6, k6, e6⟩ := sform_of_owns ho6
          subst e6
          clear ho6 hg6 hv6
          go_wp2_with fail
          refine (HTAKE.out (k + 1) (.int .i64 (cc)) (.slice sa ss.length ks) (.slice a6 (ls.length + [z].length) k6) w6 (by omega) (by rw [HT.out]) (by rw [HT.out]; exact HPL6.out) HPI6.out).mono ?_
          rintro e w7 ⟨sz, is, rfl, hI7⟩
          have I7 := hid hI7
          clear hI7 HPL6 HPI6
          go_wp2
          go_roundw
          case rel => exact ⟨I7.out, _, _, rfl, rfl⟩
          case measure => (try simp only [List.length_nil] at hsum); simp only [lenV]; (try simp only [List.length_nil]); omega
      · have d1 : decide (z ≤ cc) = false := by rw [decide_eq_false_iff_not]; exact hle
        have HT : Hid (takeT c0 (q.take (k + 1)) = (ss, ls ++ [z], cc)) := by show _ = _; rw [hT]; simp [partX, hle]
        clear hT
        by_cases h0 : ls.length = 0
        · obtain rfl := List.length_eq_zero_iff.1 h0
          clear h0
          go_wp2_with (at_builtin; refine wpList_append_reads _ rfl _ _ rfl w.heap.size _ _ _ rfl (HPL.out.ol.alloc _) _ [z] rfl (kreads_int _ _) (by rw [List.length_singleton]; omega) (by rw [World.size_alloc]; omega) ?_)
          intro v6 w6 ho6 hg6 hv6
          have HPL6 := hid ((HPL.out.flip.more hcl ((Below.refl _ _).alloc (Nat.le_refl _) _) ho6 hg6 (by rw [World.size_alloc]; exact hv6)).flip)
          have HPI6 : Hid (Pipe w6 c (q.drop (k + 1))) := HPI.out.at (by rw [hg6.block c (by rw [World.size_alloc]; omega) (fun e => HPL.out.lc e.symm), ((Below.refl wr.heap.size wr).alloc (Nat.le_refl _) _).block c hcl])
          obtain ⟨a6, k6, e6⟩ := sform_of_owns ho6
          subst e6
          clear ho6 hg6 hv6
          go_wp2_with fail
          refine (HTAKE.out (k + 1) (.int .i64 (cc)) (.slice sa ss.length ks) (.slice a6 (([] : List Int).length + [z].length) k6) w6 (by omega) (by rw [HT.out]) (by rw [HT.out]; exact HPL6.out) HPI6.out).mono ?_
          rintro e w7 ⟨sz, is, rfl, hI7⟩
          have I7 := hid hI7
          clear hI7 HPL6 HPI6
          go_wp2
          go_roundw
          case rel => exact ⟨I7.out, _, _, rfl, rfl⟩
          case measure => (try simp only [List.length_nil] at hsum); simp only [lenV]; (try simp only [List.length_nil]); omega
        · have hne : ((ls.length : Int) == 0) = false := by rw [beq_eq_false_iff_ne]; omega
          have hne' : ¬ ((ls.length : Int) = 0) := by omega
          clear h0
          go_wp2_with (at_builtin; refine wpList_append_reads _ rfl _ _ rfl w.heap.size _ _ _ rfl (HPL.out.ol.alloc _) _ [z] rfl (kreads_int _ _) (by rw [List.length_singleton]; omega) (by rw [World.size_alloc]; omega) ?_)
          intro v6 w6 ho6 hg6 hv6
          have HPL6 := hid ((HPL.out.flip.more hcl ((Below.refl _ _).alloc (Nat.le_refl _) _) ho6 hg6 (by rw [World.size_alloc]; exact hv6)).flip)
          have HPI6 : Hid (Pipe w6 c (q.drop (k + 1))) := HPI.out.at (by rw [hg6.block c (by rw [World.size_alloc]; omega) (fun e => HPL.out.lc e.symm), ((Below.refl wr.heap.size wr).alloc (Nat.le_refl _) _).block c hcl])
          obtain ⟨a6, k6, e6⟩ := sform_of_owns ho6
          subst e6
          clear ho6 hg6 hv6
          go_wp2_with fail
          refine (HTAKE.out (k + 1) (.int .i64 (cc)) (.slice sa ss.length ks) (.slice a6 (ls.length + [z].length) k6) w6 (by omega) (by rw [HT.out]) (by rw [HT.out]; exact HPL6.out) HPI6.out).mono ?_
          rintro e w7 ⟨sz, is, rfl, hI7⟩
          have I7 := hid hI7
          clear hI7 HPL6 HPI6
          go_wp2
          go_roundw
          case rel => exact ⟨I7.out, _, _, rfl, rfl⟩
          case measure => (try simp only [List.length_nil] at hsum); simp only [lenV]; (try simp only [List.length_nil]); omega
    · cases hb
      subst hkn
      have HPL := hid hPL
      clear hPL
      go_wp2
      go_ret2
      refine ⟨_, _, rfl, c, ?_⟩
      have h := HPL.out
      rw [List.take_of_length_le (by have := HN.out; omega)] at h
      exact h
end Go.Proofs.Ytepnhbicmlfnhac
