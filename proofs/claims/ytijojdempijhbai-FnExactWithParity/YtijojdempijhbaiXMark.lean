/-
  laws.markText tells a number as a text; laws.markStringS writes them into texts of its own, laws.heldStringS finds them there; nothing else is written.
-/
import Derived.Test.YtijojdempijhbaiXRows
import Derived.Test.YtijojdempijhbaiBut5
import Derived.Test.YtijojdempijhbaiPcRow
import Derived.Deep.RegionHeld3
import Derived.Laws.Concat
namespace Go.Proofs.Ytijojdempijhbai
open Go.RowKit

/-- The decimal digits of k, ahead of what is there. -/
def dgF : Nat → Nat → List UInt8 → List UInt8
  | 0, _, o => o
  | n + 1, k, o => if k = 0 then o else dgF n (k / 10) (UInt8.ofNat (48 + k % 10) :: o)
theorem dgF_zero (n : Nat) (o : List UInt8) : dgF n 0 o = o := by cases n <;> simp [dgF]
theorem dgF_step (n k : Nat) (o : List UInt8) (h : 0 < k) : dgF (n + 1) k o = dgF n (k / 10) (UInt8.ofNat (48 + k % 10) :: o) := by simp [dgF]; omega
def mkTxt (k : Nat) : ByteArray := ⟨(109 :: dgF 20 k []).toArray⟩

theorem one_conv (w : World) (d : Nat) (hd : d < 256) : (convert 88 9 (.slice (some ⟨w.heap.size, 0, none⟩) 1 1)).run Try.prog (w.alloc (.cells #[.int .u8 (d : Nat)] 5)) = .ok (.string ⟨[UInt8.ofNat d].toArray⟩) (w.alloc (.cells #[.int .u8 (d : Nat)] 5)) := by
  refine conv_row _ w.heap.size 1 [UInt8.ofNat d] fun j hj => ?_
  obtain rfl : j = 0 := by simpa using hj
  rw [cell_of_row _ _ _ _ _ (0, 0) (heap_alloc_new w _)]
  simp
  omega

set_option maxHeartbeats 2000000 in
theorem markText_any (k : Nat) (w : World) (h1 : 0 < k) (h2 : k ≤ 1000000000) :
    Calls Try.prog 54 #[.int .i64 (k : Nat)] w fun e w' => e = .returned (.string (mkTxt k)) ∧ Below w.heap.size w w' := by
  have hd0 : ¬ (k : Int) ≤ 0 := by omega
  have hd1 : decide ((k : Int) ≤ 0) = false := by simpa using hd0
  go_enter Try.func54, Try.ntmps54
  go_wp2
  go_loopw [0, 3] (fun kv ov wr => ∃ (j n : Nat) (o : List UInt8), kv = .int .i64 (j : Nat) ∧ ov = .string ⟨o.toArray⟩ ∧ dgF n j o = dgF 20 k [] ∧ (j < 10 ^ n ∧ j ≤ k ∧ n ≤ 20 ∧ o.length + n = 20) ∧ Below w.heap.size w wr) (fun kv _ _ => (intOf kv).toNat)
  case atStart => exact ⟨k, 20, [], rfl, rfl, rfl, ⟨by omega, Nat.le_refl _, Nat.le_refl _, rfl⟩, Below.refl _ _⟩
  case round =>
    obtain ⟨j, n, o, rfl, rfl, hdg, ⟨hj, hjk, hn, ho⟩, hbel⟩ := hrel
    by_cases hpos : 0 < j
    · have hposd : (j : Int) > 0 := by omega
      obtain ⟨m, rfl⟩ : ∃ m, n = m + 1 := ⟨n - 1, by rcases n with _ | n; simp at hj; omega; omega⟩
      rw [dgF_step m j o hpos] at hdg
      obtain ⟨q, hq⟩ : ∃ q, j % 10 = q := ⟨_, rfl⟩
      obtain ⟨z, hz⟩ : ∃ z, j / 10 = z := ⟨_, rfl⟩
      have hq10 : q < 10 := by omega
      have hzj : z < j := by omega
      have hz2 : z < 10 ^ m := by rw [← hz]; rw [Nat.pow_succ] at hj; omega
      rw [hq, hz] at hdg
      have e1 : (j : Int).tmod 10 = (q : Nat) := by rw [Int.tmod_eq_emod_of_nonneg (by omega), ← hq]; rfl
      have e2 : (j : Int) % 10 = (q : Nat) := by rw [← hq]; rfl
      have e3 : (j : Int).tdiv 10 = (z : Nat) := by rw [Int.tdiv_eq_ediv_of_nonneg (by omega), ← hz]; rfl
      have e4 : (j : Int) / 10 = (z : Nat) := by rw [← hz]; rfl
      obtain ⟨d, hd⟩ : ∃ d, 48 + q = d := ⟨_, rfl⟩
      have e5 : (48 : Int) + (q : Int) = (d : Nat) := by rw [← hd]; simp
      have hd57 : d ≤ 57 := by omega
      rw [hd] at hdg
      have e6 : IntKind.i64.wrap (d : Int) = (d : Nat) := by rw [IntKind.wrap_i64]; omega
      have e7 : IntKind.u8.wrap (d : Int) = (d : Nat) := by rw [IntKind.wrap_u8]; omega
      have hconv := one_conv wr d (by omega)
      have hadd := fun W => run_string_add_sum (P := Try.prog) W ⟨[UInt8.ofNat d].toArray⟩ ⟨o.toArray⟩ (by simp [ByteArray.size]; omega)
      have happ : Hid ((⟨[UInt8.ofNat d].toArray⟩ : ByteArray) ++ ⟨o.toArray⟩ = ⟨(UInt8.ofNat d :: o).toArray⟩) := by
        show _ = _
        rw [ByteArray.mk_append_mk]
        simp
      rw [happ.out] at hadd
      have HD := hid hdg
      have HB := hid hbel
      clear hdg hbel hq hz hd happ
      go_wp2
      go_roundw
      case rel => exact ⟨z, m, _, rfl, rfl, HD.out, ⟨hz2, by omega, by omega, by simp; omega⟩, HB.out.alloc HB.out.size _⟩
      case measure => simp [intOf]; omega
    · obtain rfl : j = 0 := by omega
      rw [dgF_zero] at hdg
      have hadd := run_string_add_sum (P := Try.prog) wr ⟨#[109]⟩ ⟨o.toArray⟩ (by simp [ByteArray.size]; omega)
      have happ : Hid ((⟨#[109]⟩ : ByteArray) ++ ⟨o.toArray⟩ = mkTxt k) := by
        show _ = _
        unfold mkTxt
        rw [← hdg, ByteArray.mk_append_mk]
        simp
      rw [happ.out] at hadd
      have HB := hid hbel
      clear hdg hbel happ
      go_wp2
      go_ret
      exact ⟨rfl, HB.out⟩

def xmarks (k n : Nat) : List XEl := (List.range n).map fun (i : Nat) => mkTxt (k + i)
def xmarked (xs : List XEl) (k : Nat) (j : Nat) : List XEl := xmarks k j ++ xs.drop j
theorem length_xmarks (k n : Nat) : (xmarks k n).length = n := by simp [xmarks]
theorem xmarks_get (k n i : Nat) (h : i < n) : (xmarks k n).getD i xz = mkTxt (k + i) := by simp [xmarks, List.getD_eq_getElem?_getD, h]
theorem length_xmarked (xs : List XEl) (k : Nat) (j : Nat) (h : j ≤ xs.length) : (xmarked xs k j).length = xs.length := by simp [xmarked, length_xmarks]; omega
theorem xmarked_zero (xs : List XEl) (k : Nat) : xmarked xs k 0 = xs := by simp [xmarked, xmarks]
theorem xmarked_all (xs : List XEl) (k : Nat) : xmarked xs k xs.length = xmarks k xs.length := by simp [xmarked]
theorem xmarked_step (xs : List XEl) (k : Nat) (i : Nat) (h : i < xs.length) : (xmarked xs k i).set i (mkTxt (k + i)) = xmarked xs k (i + 1) := by
  have e : xs.drop i = xs[i] :: xs.drop (i + 1) := List.drop_eq_getElem_cons h
  unfold xmarked
  rw [e, List.set_append_right _ _ (by simp [length_xmarks])]
  have : xmarks k (i + 1) = xmarks k i ++ [mkTxt (k + i)] := by simp [xmarks, List.range_succ]
  simp only [length_xmarks, Nat.sub_self, List.set_cons_zero]
  rw [this, List.append_assoc]
  rfl

theorem XOwn.but {lo hi l h' : Nat} {w w' : World} {v : Value} {xs : List XEl} (h : XOwn lo hi w v xs) (ho : But (fun k => l ≤ k ∧ k < h') w w') (hd : hi ≤ l ∨ h' ≤ lo) : XOwn lo hi w' v xs := h.at fun g h1 h2 h3 => ho.2 g h3 (by omega)

set_option maxHeartbeats 2000000 in
theorem markStringS_any (lo hi : Nat) (v : Value) (xs : List XEl) (k m : Int) (w : World) (ho : XOwn lo hi w v xs) (hx : xs.length ≤ 1048576) (h0 : 0 < k) (h1 : k ≤ 100000000) (hm : m = k + (xs.length : Nat)) :
    Calls Try.prog 29 #[v, .int .i64 k] w fun e w' => e = .returned (.int .i64 m) ∧ XOwn lo hi w' v (xmarks k.toNat xs.length) ∧ But (fun b => lo ≤ b ∧ b < hi) w w' := by
  subst hm
  obtain ⟨k, rfl⟩ := Int.eq_ofNat_of_zero_le (show 0 ≤ k by omega)
  rcases (show (∃ a cap, v = .slice a 0 cap ∧ xs = []) ∨ ∃ g cap, v = .slice (some ⟨g, 0, none⟩) xs.length cap from by
    rcases ho.2 with h | ⟨g, cap, h, _⟩
    · exact .inl h
    · exact .inr ⟨g, cap, h⟩) with ⟨a, cap, rfl, rfl⟩ | ⟨g, cap, rfl⟩
  · go_enter Try.func29, Try.ntmps29
    go_wp2
    go_rounds 1
    all_goals (go_ret; exact ⟨by simp, ho, But.refl _ _⟩)
  have HO := hid ho
  clear ho
  go_enter Try.func29, Try.ntmps29
  go_wp2
  go_loopw [1, 5] (fun m i wr => ∃ j : Nat, j ≤ xs.length ∧ i = .int .i64 j ∧ m = .int .i64 ((k + j : Nat) : Int) ∧ XOwn lo hi wr (.slice (some ⟨g, 0, none⟩) xs.length cap) (xmarked xs k j) ∧ But (fun b => lo ≤ b ∧ b < hi) w wr) (fun _ i _ => xs.length - (intOf i).toNat)
  case atStart => exact ⟨0, Nat.zero_le _, rfl, by simp, by rw [xmarked_zero]; exact HO.out, But.refl _ _⟩
  case round =>
    obtain ⟨j, hj, rfl, rfl, hown, hbut⟩ := hrel
    by_cases hlt : j < xs.length
    · have HO1 := hid hown
      have HB := hid hbut
      clear hown hbut
      obtain ⟨p, hp⟩ : ∃ p, k + j = p := ⟨_, rfl⟩
      rw [hp]
      have hltd : (j : Int) < (xs.length : Int) := by omega
      go_wp2_with fail
      refine (markText_any p _ (by omega) (by omega)).mono ?_
      rintro e w2 ⟨rfl, b2⟩
      have hl2 := length_xmarked xs k j hj
      have hset := XOwn.set (xs := xmarked xs k j) (by rw [hl2]; exact HO1.out.below b2) j (mkTxt p) (by omega)
      rw [show (xmarked xs k j).set j (mkTxt p) = xmarked xs k (j + 1) by rw [← hp]; exact xmarked_step xs k j hlt, hl2] at hset
      obtain ⟨hown2, hgb, f0, c0⟩ := hset
      have HO2 := hid hown2
      have HB2 := hid (HB.out.trans (But.of b2))
      have HP := hid hp
      have hpb : p ≤ 200000000 := by omega
      clear hown2 hl2 b2 HO1 HB hp
      generalize ((xmarked xs k j).getD j xz) = y0 at c0
      replace f0 : _ = _ := f0
      replace c0 : _ = _ := c0
      go_wp2
      go_roundw
      case rel => exact ⟨j + 1, by omega, by go_num, by have := HP.out; go_num, HO2.out, HB2.out.setCell (P := fun b => lo ≤ b ∧ b < hi) hgb _⟩
      case measure => simp [intOf]; omega
    · obtain rfl : j = xs.length := by omega
      rw [xmarked_all] at hown
      go_wp2
      go_ret
      exact ⟨by simp, hown, hbut⟩

set_option maxHeartbeats 2000000 in
theorem heldStringS_any (v : Value) (n : Nat) (k m : Int) (w : World) (hr : XReads w v (xmarks k.toNat n)) (hn : n ≤ 1048576) (h0 : 0 < k) (h1 : k ≤ 100000000) (hm : m = k + (n : Nat)) :
    Calls Try.prog 30 #[v, .int .i64 k] w fun e w' => e = .returned (.int .i64 m) ∧ Below w.heap.size w w' := by
  subst hm
  obtain ⟨k, rfl⟩ := Int.eq_ofNat_of_zero_le (show 0 ≤ k by omega)
  obtain ⟨a, cap, rfl, hl, hx⟩ := hr
  rw [length_xmarks] at hl hx ⊢
  rcases hx with hx | ⟨b, off, rfl, hc⟩
  · have hn : n = 0 := by have := length_xmarks (k : Int).toNat n; rw [hx] at this; simpa using this.symm
    subst hn
    clear hx
    go_enter Try.func30, Try.ntmps30
    go_wp2
    go_rounds 1
    all_goals (go_ret; exact ⟨by simp, Below.refl _ _⟩)
  have HC : Hid (∀ i, i < n → XCells w b (off + i) (mkTxt (k + i))) := fun i hi => by have := hc i hi; rw [xmarks_get _ n i hi] at this; exact this
  clear hc
  go_enter Try.func30, Try.ntmps30
  go_wp2
  go_loopw [1, 5] (fun m i wr => ∃ j : Nat, j ≤ n ∧ i = .int .i64 j ∧ m = .int .i64 ((k + j : Nat) : Int) ∧ Below w.heap.size w wr) (fun _ i _ => n - (intOf i).toNat)
  case atStart => exact ⟨0, Nat.zero_le _, rfl, by simp, Below.refl _ _⟩
  case round =>
    obtain ⟨j, hj, rfl, rfl, hbel⟩ := hrel
    by_cases hlt : j < n
    · have c0 : _ = _ := (HC.out j hlt).below hbel (HC.out j hlt).lt
      have hlt0 := (HC.out j hlt).lt
      have hsz := hbel.size
      have HB := hid hbel
      clear hbel
      have hltd : (j : Int) < (n : Int) := by omega
      obtain ⟨p, hp⟩ : ∃ p, k + j = p := ⟨_, rfl⟩
      rw [hp] at c0 ⊢
      have HP := hid hp
      clear hp
      have hp1 : 0 < p := by have := HP.out; omega
      have hp2 : p ≤ 1000000000 := by have := HP.out; omega
      have hpb : p ≤ 200000000 := by have := HP.out; omega
      have c1 := c0
      go_wp2_with fail
      go_region_held3 (fun w' => w'.cell? ⟨b, off + j, none⟩ = some (.string (mkTxt p)) ∧ Below wr.heap.size wr w')
        (first | (refine ⟨?_, ?_⟩ <;> assumption) | exact ⟨c1, (Below.refl _ _).drew⟩)
        (first | (go_at_call 54; refine (markText_any p _ hp1 hp2).mono ?_; rintro e wt ⟨rfl, bt⟩; have b9 : Below wr.heap.size wr wt := (by assumption : _ ∧ Below wr.heap.size wr _).2.trans (bt.mono (by assumption : _ ∧ Below wr.heap.size wr _).2.size); have c9 : wt.cell? ⟨b, off + j, none⟩ = some (.string (mkTxt p)) := (bt.cell (p := ⟨b, off + j, none⟩) (lt_of_cell (by assumption : World.cell? _ _ = _ ∧ Below wr.heap.size wr _).1)).trans (by assumption : World.cell? _ _ = _ ∧ Below wr.heap.size wr _).1; clear bt))
      all_goals go_wp2
      all_goals go_roundw
      case rel => exact ⟨j + 1, by omega, by go_num, by have := HP.out; go_num, HB.out.trans (b9.mono hsz)⟩
      case measure => simp [intOf]; omega
    · obtain rfl : j = n := by omega
      go_wp2
      go_ret
      exact ⟨by simp, hbel⟩
end Go.Proofs.Ytijojdempijhbai
