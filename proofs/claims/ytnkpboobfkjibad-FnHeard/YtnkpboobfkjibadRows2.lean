/-
  Small facts on rows of spans that are being made. No program.
  A cell that is written lies in one block alone.
  A new element's two cells, and the one end of a region. No function of the program.
  laws.numberOf: some number below 1000003; laws.sameSpans: true at two lists that read alike. Nothing old is written.
  laws.sameInts: true for lists that read alike. Nothing is written.
  laws.sameSenders: true for senders that read alike. Nothing old is written.
-/
import Derived.Test.YtnkpboobfkjibadSCloneM
import Derived.Test.YtnkpboobfkjibadSpans
import Derived.Test.YtnkpboobfkjibadLenFacts
import Derived.Deep.RegionHeld3
import Derived.Deep.DrawnRows
import Derived.Maps.AppendAt
import Derived.Test.YtnkpboobfkjibadBits
import Derived.Test.YtnkpboobfkjibadKIntRows
import Derived.Deep.QuietTactic
import Derived.BigQuiet
import Derived.Test.YtnkpboobfkjibadSdBox
import Derived.Test.YtnkpboobfkjibadKSpanConv
namespace Go.Proofs.Ytnkpboobfkjibad
open Go.RowKit

theorem sreads_cells {w : World} {v : Value} {xs : List Sp} (h : SReads w v xs) (k : Nat) (hk : k < xs.length) : ∃ b off cap, v = .slice (some ⟨b, off, none⟩) xs.length cap ∧ ∀ i, i < xs.length → w.cell? ⟨b, off + i * 2, none⟩ = some (.int .i64 (xs.getD i (0, 0)).1) ∧ w.cell? ⟨b, off + i * 2 + 1, none⟩ = some (.int .i64 (xs.getD i (0, 0)).2) := by
  obtain ⟨a, cap, rfl, _, h⟩ := h
  rcases h with h | ⟨b, off, rfl, hc⟩
  · subst h; simp at hk
  · exact ⟨b, off, cap, rfl, hc⟩
theorem snil_reads (w : World) (a : Option Addr) : SReads w (.slice a 0 0) [] := ⟨a, 0, rfl, by simp, .inl rfl⟩
theorem owns_nil (w : World) (base : Nat) (t : TypeId) : w.ownsRow base t 2 (.slice none 0 0) 0 (flat []) := ⟨rfl, .inl ⟨rfl, rfl⟩⟩
theorem owns_block {w : World} {base : Nat} {t : TypeId} {size n : Nat} {v : Value} {cs : List Value} (h : w.ownsRow base t size v n cs) : ∀ k, v.ownBlock = some k → base ≤ k := by
  intro k hk
  rcases h.2 with ⟨rfl, _⟩ | ⟨g, cap, cur, rfl, hg, _⟩
  · simp [Value.ownBlock] at hk
  · simp [Value.ownBlock] at hk; omega
theorem pair_new (w : World) (y : Sp) (t : TypeId) : ∀ j u, (flat [y])[j]? = some u → (w.alloc (.cells #[.int .i64 y.1, .int .i64 y.2] t)).cell? ((⟨w.heap.size, 0, none⟩ : Addr).add j) = some u := by
  intro j u hj
  rcases j with _ | _ | j
  · simp [flat] at hj; subst hj; simp [Addr.add]
  · simp [flat] at hj; subst hj; simp [Addr.add]
  · simp [flat] at hj
end Go.Proofs.Ytnkpboobfkjibad
namespace Go.Proofs.Ytnkpboobfkjibad
open Go.RowKit

theorem heap_setCell_ne (w : World) (a : Addr) (v : Value) (k : Nat) (h : k ≠ a.block) : (w.setCell a v).heap[k]? = w.heap[k]? := by
  simp only [World.setCell, Array.getElem?_modify]
  simp [Ne.symm h]

end Go.Proofs.Ytnkpboobfkjibad
namespace Go.Proofs.Ytnkpboobfkjibad
open Go.RowKit
set_option maxRecDepth 100000

/-- The one end of a region: all went well, this state, this world. -/
def onlyN (A : Act) (W : World) : Exit → Act → World → Prop
  | .normal, a, w => a = A ∧ w = W
  | _, _, _ => False
theorem onlyN_out {A : Act} {W : World} {e : Exit} {a : Act} {w : World} (h : onlyN A W e a w) : e = .normal ∧ a = A ∧ w = W := by
  cases e <;> first | exact ⟨rfl, h⟩ | exact h.elim
theorem pair_at {W : World} {b : Nat} {y : Sp} (h0 : W.cell? ⟨b, 0, none⟩ = some (.int .i64 y.1)) (h1 : W.cell? ⟨b, 1, none⟩ = some (.int .i64 y.2)) : ∀ j u, (flat [y])[j]? = some u → W.cell? ((⟨b, 0, none⟩ : Addr).add j) = some u := by
  intro j u hj
  rcases j with _ | _ | j
  · simp [flat] at hj; subst hj; simpa [Addr.add] using h0
  · simp [flat] at hj; subst hj; simpa [Addr.add] using h1
  · simp [flat] at hj
end Go.Proofs.Ytnkpboobfkjibad
namespace Go.Proofs.Ytnkpboobfkjibad
open Go.RowKit
set_option maxRecDepth 100000

set_option maxHeartbeats 1000000 in
theorem numberOf_any (B : Nat) (v : Value) (w : World) (h : CodeOk B w v) :
    Calls Try.prog 62 #[v] w fun e w' => ∃ n : Nat, n < 1000003 ∧ e = .returned (.int .i64 n) ∧ w' = w := by
  obtain ⟨a, len, cap, rfl, hl, hx⟩ := h
  have HX := hid hx
  clear hx
  go_enter Try.func62, Try.ntmps62
  go_wp2
  go_loop [3, 8] (fun t i => ∃ k n : Nat, k ≤ len ∧ i = .int .i64 k ∧ n < 1000003 ∧ t = .int .i64 n) (fun _ i => len - (intOf i).toNat)
  case atStart => exact ⟨0, 0, Nat.zero_le _, rfl, by omega, rfl⟩
  case round =>
    obtain ⟨k, n, hk, rfl, hn, rfl⟩ := hrel
    by_cases hlt : k < len
    · obtain ⟨cb, off, rfl, _, hcs⟩ := HX.out.resolve_left (by omega)
      obtain ⟨x, hx, hc⟩ := hcs k hlt
      clear hcs
      go_wp2
      go_round
      case rel => exact ⟨k + 1, (31 * n + x) % 1000003, by omega, by go_num, Nat.mod_lt _ (by decide), by go_num⟩
      case measure => simp [intOf]; omega
    · go_wp2
      go_ret
      exact ⟨n, hn, rfl, rfl⟩

set_option maxHeartbeats 1000000 in
theorem sameSpans_same (va vb : Value) (xs : List Sp) (w : World) (ha : SReads w va xs) (hb : SReads w vb xs) :
    Calls Try.prog 54 #[va, vb] w fun e w' => e = .returned (.bool true) ∧ Below w.heap.size w w' := by
  have HA := hid ha
  have HB := hid hb
  obtain ⟨a, ca, rfl, _, _⟩ := ha
  obtain ⟨b, cb, rfl, _, _⟩ := hb
  have hd : ((xs.length : Int) != (xs.length : Int)) = false := by simp
  go_enter Try.func54, Try.ntmps54
  go_wp2
  go_loopw [13] (fun i wr => ∃ k : Nat, k ≤ xs.length ∧ i = .int .i64 k ∧ Below w.heap.size w wr) (fun i _ => xs.length - (intOf i).toNat)
  case atStart => exact ⟨0, Nat.zero_le _, rfl, Below.refl _ _⟩
  case round =>
    obtain ⟨k, hk, rfl, hal⟩ := hrel
    by_cases hlt : k < xs.length
    · obtain ⟨ga, oa, cap', e, hca⟩ := sreads_cells (HA.out.below hal) k hlt
      cases e
      obtain ⟨gb, ob, cap', e, hcb⟩ := sreads_cells (HB.out.below hal) k hlt
      cases e
      obtain ⟨h1, h2⟩ := hca k hlt
      obtain ⟨h3, h4⟩ := hcb k hlt
      have HL := hid hal
      clear hal hca hcb
      generalize (xs.getD k (0, 0)).1 = p at h1 h3
      generalize (xs.getD k (0, 0)).2 = q at h2 h4
      go_wp2_with fail
      go_region_held3 (fun w' => w'.cell? ⟨ga, oa + k * 2, none⟩ = some (.int .i64 p) ∧ w'.cell? ⟨ga, oa + k * 2 + 1, none⟩ = some (.int .i64 q) ∧ w'.cell? ⟨gb, ob + k * 2, none⟩ = some (.int .i64 p) ∧ w'.cell? ⟨gb, ob + k * 2 + 1, none⟩ = some (.int .i64 q)) (go_keep) (fail)
      go_wp2
      go_roundw
      case rel => exact ⟨k + 1, by omega, by go_num, HL.out.drew⟩
      case measure => simp [intOf]; omega
    · go_wp2
      go_ret
      exact ⟨rfl, hal⟩
end Go.Proofs.Ytnkpboobfkjibad
namespace Go.Proofs.Ytnkpboobfkjibad
open Go.RowKit

set_option maxHeartbeats 2000000 in
theorem sameK_same (va vb : Value) (xs : List Int) (w : World) (ha : KReads w va xs) (hb : KReads w vb xs) :
    Calls Try.prog 36 #[va, vb] w fun e w' => e = .returned (.bool true) ∧ ∃ m, w' = w.drewN m := by
  obtain ⟨a, ca, rfl, _, hxa⟩ := ha
  obtain ⟨b, cb, rfl, _, hxb⟩ := hb
  have hd : ((xs.length : Int) != (xs.length : Int)) = false := by simp
  have HC : Hid (∀ i, i < xs.length → ∃ g o, a = some ⟨g, o, none⟩ ∧ w.cell? ⟨g, o + i, none⟩ = some (.int .i64 (xs.getD i 0))) := fun i hi => by
    rcases hxa with h | ⟨g, o, h1, h2⟩
    · rw [h] at hi; simp at hi
    · exact ⟨g, o, h1, h2 i hi⟩
  have HD : Hid (∀ i, i < xs.length → ∃ g o, b = some ⟨g, o, none⟩ ∧ w.cell? ⟨g, o + i, none⟩ = some (.int .i64 (xs.getD i 0))) := fun i hi => by
    rcases hxb with h | ⟨g, o, h1, h2⟩
    · rw [h] at hi; simp at hi
    · exact ⟨g, o, h1, h2 i hi⟩
  clear hxa hxb
  go_enter Try.func36, Try.ntmps36
  go_wp2
  go_loopw [13] (fun i wr => ∃ k : Nat, k ≤ xs.length ∧ i = .int .i64 k ∧ ∃ m, wr = w.drewN m) (fun i _ => xs.length - (intOf i).toNat)
  case atStart => exact ⟨0, Nat.zero_le _, rfl, 0, rfl⟩
  case round =>
    obtain ⟨k, hk, rfl, m, hm⟩ := hrel
    have HM := hid hm
    by_cases hlt : k < xs.length
    · obtain ⟨g, o, rfl, hc⟩ := HC.out k hlt
      obtain ⟨h, p, rfl, hd'⟩ := HD.out k hlt
      have h1 : wr.cell? ⟨g, o + k, none⟩ = some (.int .i64 (xs.getD k 0)) := by rw [hm]; exact hc
      have h2 : wr.cell? ⟨h, p + k, none⟩ = some (.int .i64 (xs.getD k 0)) := by rw [hm]; exact hd'
      generalize xs.getD k 0 = x at h1 h2
      have n0 : (0 : Int) ≤ (k : Int) := by omega
      have n1 : (k : Int) < (xs.length : Int) := by omega
      have de : (x != x) = false := by simp
      clear hc hd' hm
      go_wp2_with fail
      go_big_region
      go_wp2
      go_roundw
      case rel => exact ⟨k + 1, by omega, by go_num, m + 1, by rw [HM.out]; rfl⟩
      case measure => simp [intOf]; omega
    · clear hm
      go_wp2
      go_ret
      exact ⟨rfl, m, HM.out⟩
theorem sameK_below {w w' : World} (h : ∃ m, w' = w.drewN m) : Below w.heap.size w w' := by
  obtain ⟨m, rfl⟩ := h
  exact ⟨rfl, rfl, rfl, Nat.le_refl _, fun _ _ => rfl⟩
end Go.Proofs.Ytnkpboobfkjibad
namespace Go.Proofs.Ytnkpboobfkjibad
open Go.RowKit

set_option maxRecDepth 100000 in
set_option maxHeartbeats 4000000 in
theorem sameSd_same (va vb : Value) (D : SdD) (w : World) (ha : SdReads w va D) (hb : SdReads w vb D) :
    Calls Try.prog 35 #[va, vb] w fun e w' => e = .returned (.bool true) ∧ Below w.heap.size w w' := by
  obtain ⟨v1, v2, rfl, r1, r2⟩ := ha
  obtain ⟨v3, v4, rfl, r3, r4⟩ := hb
  obtain ⟨z, hz⟩ : ∃ z, D.f0 = z := ⟨_, rfl⟩
  rw [hz]
  have R1 := hid r1; have R2 := hid r2; have R3 := hid r3; have R4 := hid r4
  obtain ⟨a1, p1, rfl, _, _⟩ := r1
  obtain ⟨a2, p2, rfl, _, _⟩ := r2
  obtain ⟨a3, p3, rfl, _, _⟩ := r3
  obtain ⟨a4, p4, rfl, _, _⟩ := r4
  obtain ⟨PA, BA, hsA⟩ := box_three (w := w) (.int .i64 z) (.slice a1 D.f1.length p1) (.slice a2 D.f2.length p2) 49
  obtain ⟨W0, hW0⟩ : ∃ W, W = w.alloc (.cells #[.int .i64 z, .slice a1 D.f1.length p1, .slice a2 D.f2.length p2] 49) := ⟨_, rfl⟩
  rw [← hW0] at PA BA hsA
  obtain ⟨PB, BB, hsB⟩ := box_three (w := W0) (.int .i64 z) (.slice a3 D.f1.length p3) (.slice a4 D.f2.length p4) 49
  obtain ⟨W1, hW1⟩ : ∃ W, W = W0.alloc (.cells #[.int .i64 z, .slice a3 D.f1.length p3, .slice a4 D.f2.length p4] 49) := ⟨_, rfl⟩
  rw [← hW1] at PB BB hsB
  rw [hsA] at PB hsB
  have PA1 := PA.below BB PA.lt
  have B := hid (BA.trans (BB.mono BA.size))
  have HA := hid PA1
  have HB := hid PB
  rw [hW0] at hW1
  obtain ⟨x0, x1, x2⟩ := PA1.three
  obtain ⟨y0, y1, y2⟩ := PB.three
  rw [hW1] at x0 x1 x2 y0 y1 y2
  have HW1 := hid hW1
  have he : (z == z) = true := by simp
  clear hz PA BA hsA PB BB hsB PA1 hW0 hW1
  go_enter Try.func35, Try.ntmps35
  go_wp2_with fail
  rw [← HW1.out]
  clear HW1 x0 x1 x2 y0 y1 y2
  refine (sameSpans_same _ _ D.f1 _ (R1.out.below B.out).s (R3.out.below B.out).s).mono ?_
  rintro e w2 ⟨rfl, b2⟩
  replace B := hid (B.out.trans (b2.mono B.out.size))
  obtain ⟨x0, x1, x2⟩ := (HA.out.below b2 HA.out.lt).three
  obtain ⟨y0, y1, y2⟩ := (HB.out.below b2 HB.out.lt).three
  clear b2
  go_wp2_with fail
  refine (sameK_same _ _ D.f2 _ (R2.out.below B.out) (R4.out.below B.out)).mono ?_
  rintro e w3 ⟨rfl, hw⟩
  have B3 := hid (B.out.trans ((sameK_below hw).mono B.out.size))
  clear hw
  go_wp2
  go_ret
  exact ⟨rfl, B3.out⟩
end Go.Proofs.Ytnkpboobfkjibad
