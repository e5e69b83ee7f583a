/-
  impl.movedOver: what is taken from a heap one by one is put behind one another. Nothing else is written.
-/
import Derived.Test.YtndbdioignmaeaaIPop
import Derived.Test.YtndbdioignmaeaaIPush
namespace Go.Proofs.Ytndbdioignmaeaa
open Go.RowKit

/-- None of the one list is less than one of the other. -/
def Past (tl hl : List WkEl) : Prop := ∀ a ∈ tl, ∀ b ∈ hl, lessB b a = false
theorem Past.step {tl hl : List WkEl} (h : Past tl hl) (hh : heapB hl = true) (h0 : 0 < hl.length) : Past (tl ++ [hl.getD 0 wz]) (removeL hl 0) := by
  intro a ha b hb
  have hb' : b ∈ hl := by
    have h1 := mem_many.2 hb
    have h2 := many_removeL hl 0 b h0
    exact mem_many.1 (by omega)
  rcases List.mem_append.1 ha with h1 | h1
  · exact h a h1 b hb'
  · rw [List.mem_singleton.1 h1]
    obtain ⟨k, hk, e⟩ := mem_getD hb'
    rw [← e]
    exact heap_first hh k hk
theorem Past.stays {tl hl : List WkEl} (h : Past tl hl) (h0 : 0 < hl.length) : upL tl.length (tl ++ [hl.getD 0 wz]) tl.length = (tl ++ [hl.getD 0 wz], tl.length) :=
  push_stays fun i hi => h _ (getD_mem tl i hi) _ (getD_mem hl 0 h0)
theorem popsF_step (f : Nat) (hl : List WkEl) (h : hl.length ≤ f) (h0 : 0 < hl.length) : ∃ f', (removeL hl 0).length ≤ f' ∧ popsF f hl = hl.getD 0 wz :: popsF f' (removeL hl 0) := by
  cases f with
  | zero => omega
  | succ f => exact ⟨f, by rw [length_removeL]; omega, by rw [popsF, if_neg (List.length_pos_iff.1 h0)]⟩
def lenAt (w : World) (b : Nat) : Nat := match w.cell? ⟨b, 0, none⟩ with
  | some (.slice _ n _) => n
  | _ => 0
theorem lenAt_of {w : World} {b n c : Nat} {a : Option Addr} (h : w.cell? ⟨b, 0, none⟩ = some (.slice a n c)) : lenAt w b = n := by simp [lenAt, h]

set_option maxRecDepth 100000 in
set_option maxHeartbeats 8000000 in
theorem moved_any (g n cap : Nat) (xs : List WkEl) (w : World) (ho : WkOwn g (g + 1) w (.slice (some ⟨g, 0, none⟩) n cap) xs) (hn : xs.length = n) (hx : n ≤ 40) (hgw : g < w.heap.size) (hh : heapB xs = true) :
    Calls Try.prog 91 #[.slice (some ⟨g, 0, none⟩) n cap, .func (.func 80) #[] #[], .func (.func 72) #[] #[]] w fun e w' => ∃ v', e = .returned v' ∧ WkOwn w.heap.size w'.heap.size w' v' (popsF n xs) ∧ But (fun j => j = g) w w' := by
  have HO := hid ho
  have HN := hid hn
  have HH := hid hh
  clear ho hn hh
  go_enter Try.func91, Try.ntmps91
  go_wp2
  go_loopw [] (fun wr => ∃ (k f : Nat) (hl tl : List WkEl) (v : Value), wr.cell? ⟨w.heap.size, 0, none⟩ = some (.slice (some ⟨g, 0, none⟩) k cap) ∧ hl.length = k ∧ k + tl.length = n ∧ WkOwn g (g + 1) wr (.slice (some ⟨g, 0, none⟩) k cap) hl ∧ heapB hl = true ∧ k ≤ f ∧ popsF n xs = tl ++ popsF f hl ∧ Past tl hl ∧ wr.cell? ⟨w.heap.size + 1, 0, none⟩ = some v ∧ wr.ownsRow (w.heap.size + 2) 48 3 v tl.length (wkflat tl) ∧ (wr.frozen? ⟨w.heap.size, 0, none⟩ = false ∧ wr.frozen? ⟨w.heap.size + 1, 0, none⟩ = false) ∧ But (fun j => j = g) w wr) (fun wr => lenAt wr w.heap.size)
  case atStart =>
    refine ⟨n, n, xs, [], .slice none 0 0, by simp, HN.out, by simp, HO.out.below (by go_grown), HH.out, Nat.le_refl _, rfl, fun a ha => (by cases ha), by simp, World.ownsRow_nil _ _ _ _, ⟨by simp, by simp⟩, (But.of (by go_grown))⟩
  case round =>
    obtain ⟨k, f, hl, tl, v, hc, hlk, hkn, hown, hheap, hkf, hpop, hpast, hct, hrow, ⟨hf1, hf2⟩, hbut⟩ := hrel
    have HW := hid hown
    have HLK := hid hlk
    have HHE := hid hheap
    have HP := hid hpop
    have HPA := hid hpast
    have HRO := hid hrow
    have HB := hid hbut
    have HF1 := hid hf1
    have HF2 := hid hf2
    have HCT := hid hct
    clear hown hlk hheap hpop hpast hrow hbut hf1 hf2 hct
    have hF : w.heap.size < wr.heap.size := lt_of_cell hc
    have hT : w.heap.size + 1 < wr.heap.size := lt_of_cell HCT.out
    by_cases hk : 0 < k
    · obtain ⟨m, hm⟩ : ∃ m, k = m + 1 := ⟨k - 1, by omega⟩
      have HM := hid hm
      obtain ⟨x, hx0⟩ : ∃ x, x = hl.getD 0 wz := ⟨_, rfl⟩
      have HX0 := hid hx0
      have HC := hid hc
      have h0 : Hid (0 < hl.length) := by show 0 < _; rw [HLK.out]; exact hk
      obtain ⟨f', hf', he⟩ := popsF_step f hl (by rw [HLK.out]; exact hkf) h0.out
      have HF' := hid hf'
      have HPS : Hid (popsF n xs = (tl ++ [x]) ++ popsF f' (removeL hl 0)) := by
        show _ = _
        rw [HP.out, he, ← hx0, List.append_assoc]
        rfl
      have HST : Hid ((upL tl.length (tl ++ [x]) tl.length).2 = tl.length) := by show _ = _; rw [hx0, HPA.out.stays h0.out]
      have HPA2 : Hid (Past (tl ++ [x]) (removeL hl 0)) := by rw [hx0]; exact HPA.out.step HHE.out h0.out
      have HLR : Hid ((removeL hl 0).length = m) := by show _ = _; rw [length_removeL, HLK.out, hm]; rfl
      have PO : Hid (∀ wq, wq = wr → Calls Try.prog 80 #[.pointer (some ⟨w.heap.size, 0, none⟩)] wq fun e w' => e = .returned (.agg #[.int .i64 x.1, .int .i64 x.2.1, .int .i64 x.2.2]) ∧ w'.cell? ⟨w.heap.size, 0, none⟩ = some (.slice (some ⟨g, 0, none⟩) m cap) ∧ WkOwn g (g + 1) w' (.slice (some ⟨g, 0, none⟩) m cap) (removeL hl 0) ∧ But (fun j => j = g ∨ j = w.heap.size) wr w' ∧ w'.frozen? ⟨w.heap.size, 0, none⟩ = false) := fun wq e => by
        rw [e]
        exact pop_any w.heap.size g k m cap hl x hx0 wr HC.out HF1.out (by omega) HW.out HLK.out hm (by omega)
      clear he hx0 hf' hm
      go_wp2_with fail
      refine (PO.out _ rfl).mono ?_
      rintro e w1 ⟨rfl, hc1, o1, b1, hf1⟩
      have hct1 := (b1.cell (p := ⟨w.heap.size + 1, 0, none⟩) (by intro h; simp at h; omega) hT).trans HCT.out
      have hft1 := (b1.frozen (p := ⟨w.heap.size + 1, 0, none⟩) (by intro h; simp at h; omega) hT).trans HF2.out
      have ro1 := owns_but HRO.out b1 (fun j h => by have := (HRO.out.lt _ h).1; omega)
      have hs1 : wr.heap.size ≤ w1.heap.size := b1.size
      have B1 : Hid (But (fun j => j = g) w w1) := HB.out.and b1 (fun j hj h => by rcases h with h | h <;> omega)
      have HB1 : Hid (∀ j, v.ownBlock = some j → w.heap.size + 2 ≤ j) := fun j h => (HRO.out.lt _ h).1
      have HNB : Hid (∀ j, (v.ownBlock = some j ∨ j = w.heap.size + 1) → w.heap.size + 1 ≤ j) := fun j h => by
        rcases h with h | h
        · have := HB1.out j h; omega
        · omega
      have PU := hid (push_own (w.heap.size + 1) (w.heap.size + 2) tl.length (tl.length + 1) v tl (tl ++ [x]) x rfl rfl w1 hct1 hft1 (fun h => by have := HB1.out _ h; omega) ro1 rfl (by omega) (by omega))
      have O1 := hid o1
      have HC1 := hid hc1
      have HFR := hid hf1
      clear o1 b1 hc1 hf1 hct1 hft1 ro1
      go_wp2_with fail
      refine PU.out.mono ?_
      rintro e w2 ⟨rfl, g2, c2, hc2, o2, ⟨hg1, hg2, hg3, hg4⟩, b2, s2, FT⟩
      have row2 := s2 HST.out
      have hF1 : w.heap.size < w1.heap.size := by omega
      have hfc2 := (b2.cell (p := ⟨w.heap.size, 0, none⟩) (fun h => by have := HNB.out w.heap.size h; omega) hF1).trans HC1.out
      have hff2 := (b2.frozen (p := ⟨w.heap.size, 0, none⟩) (fun h => by have := HNB.out w.heap.size h; omega) hF1).trans HFR.out
      have O2 := hid (O1.out.but b2 (fun j h1 h2 h => by have := HNB.out _ h; omega))
      have B2 : Hid (But (fun j => j = g) w w2) := B1.out.and b2 (fun j hj h => by have := HNB.out _ h; omega)
      have HC2 := hid hc2
      have HFC := hid hfc2
      have HFF := hid hff2
      have HFT : Hid (w2.frozen? ⟨w.heap.size + 1, 0, none⟩ = false) := FT
      have ROW := hid row2
      clear hc2 o2 b2 s2 row2 hfc2 hff2 FT
      go_wp2
      go_roundw
      case rel =>
        refine ⟨m, f', removeL hl 0, tl ++ [x], _, HFC.out, HLR.out, ?_, O2.out, removeL_heap 0 HHE.out, ?_, HPS.out, HPA2.out, HC2.out, ?_, ⟨HFF.out, HFT.out⟩, B2.out⟩
        · rw [List.length_append]; have := HM.out; simp; omega
        · have := HF'.out; rw [HLR.out] at this; exact this
        · rw [List.length_append]; exact ROW.out
      case measure =>
        rw [lenAt_of HFC.out, lenAt_of HC.out]; have := HM.out; omega
    · obtain rfl : k = 0 := by omega
      have HL0 : Hid (hl = []) := List.eq_nil_of_length_eq_zero HLK.out
      have HTL : Hid (popsF n xs = tl) := by
        show _ = _
        rw [HP.out, HL0.out]
        cases f <;> simp [popsF]
      have hct := HCT.out
      have OT := hid (WkOwn.of_owns HRO.out (by omega))
      go_wp2
      go_ret
      exact ⟨_, rfl, by rw [HTL.out]; exact OT.out.mono (by omega) (Nat.le_refl _), HB.out⟩
end Go.Proofs.Ytndbdioignmaeaa
