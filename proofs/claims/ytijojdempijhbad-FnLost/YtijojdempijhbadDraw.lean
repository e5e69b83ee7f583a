/-
  What the cursor's pick, one, among and number answer: some number, some truth, one of a list; each writes into the cursor alone.
  One of some numbers that are written out: what is told of all of them. Of old memory the cursor alone is written.
-/
import Derived.Test.YtijojdempijhbadBits
import Derived.Laws.IdiomStrings
namespace Go.Proofs.Ytijojdempijhbad
open Go.RowKit

set_option maxHeartbeats 1000000 in
theorem pick_any (B b N : Nat) (n : Int) (w : World) (h : Cur B w b N) (hN : N ≤ 1152921504606846974) (hn : n ≤ 1152921504606846975) :
    Calls Try.prog 113 #[.pointer (some ⟨b, 0, none⟩), .int .i64 n] w fun e w' => ∃ r : Nat, (r = 0 ∨ (r : Int) < n) ∧ e = .returned (.int .i64 r) ∧ Cur B w' b (N + 2) ∧ w.grownBy w' (some b) := by
  have H := hid h
  clear h
  by_cases h1 : n ≤ 1
  · go_enter Try.func113, Try.ntmps113
    go_wp2
    go_ret
    exact ⟨0, .inl rfl, rfl, H.out.mono (by omega), only_refl _ _⟩
  have hne : (n == 0) = false := by rw [beq_eq_false_iff_ne]; omega
  by_cases h2 : (200 : Int) < n
  · go_enter Try.func113, Try.ntmps113
    go_wp2_with fail
    refine (next_any B b N _ H.out (by omega)).mono ?_
    rintro e w1 ⟨x, hx, rfl, c1, g1⟩
    have C1 := hid c1; have G1 := hid g1; clear c1 g1
    go_wp2_with fail
    refine (next_any B b (N + 1) _ C1.out (by omega)).mono ?_
    rintro e w2 ⟨y, hy, rfl, c2, g2⟩
    have C2 := hid c2; have G2 := hid g2; clear c2 g2
    go_wp2
    go_ret
    obtain ⟨m, rfl⟩ := Int.eq_ofNat_of_zero_le (show 0 ≤ n by omega)
    refine ⟨(x * 256 + y) % m, .inr ?_, ?_, C2.out, only_trans G1.out G2.out⟩
    · have := Nat.mod_lt (x * 256 + y) (show 0 < m by omega); omega
    · exact congrArg (fun z => Ending.returned (.int .i64 z)) (by simp)
  · go_enter Try.func113, Try.ntmps113
    go_wp2_with fail
    refine (next_any B b N _ H.out (by omega)).mono ?_
    rintro e w1 ⟨x, hx, rfl, c1, g1⟩
    have C1 := hid c1; have G1 := hid g1; clear c1 g1
    go_wp2
    go_ret
    obtain ⟨m, rfl⟩ := Int.eq_ofNat_of_zero_le (show 0 ≤ n by omega)
    refine ⟨x % m, .inr ?_, ?_, C1.out.mono (by omega), G1.out⟩
    · have := Nat.mod_lt x (show 0 < m by omega); omega
    · exact congrArg (fun z => Ending.returned (.int .i64 z)) (by simp)

theorem one_any (B b N : Nat) (n : Int) (w : World) (h : Cur B w b N) (hN : N ≤ 1152921504606846974) (hn : n ≤ 1152921504606846975) :
    Calls Try.prog 104 #[.pointer (some ⟨b, 0, none⟩), .int .i64 n] w fun e w' => ∃ t : Bool, e = .returned (.bool t) ∧ Cur B w' b (N + 2) ∧ w.grownBy w' (some b) := by
  have H := hid h
  clear h
  go_enter Try.func104, Try.ntmps104
  go_wp2_with (go_at_call 113; refine (pick_any B b N n _ H.out hN hn).mono ?_; rintro e w1 ⟨r, hr, rfl, c1, g1⟩; have C1 := hid c1; have G1 := hid g1; have HR := hid hr; clear c1 g1 hr)
  go_ret
  exact ⟨_, rfl, C1.out, G1.out⟩

/-- A list of numbers in a block of its own. -/
def Lit64 (w : World) (g n : Nat) : Prop := ∀ i, i < n → ∃ z : Int, w.cell? ⟨g, i, none⟩ = some (.int .i64 z)
theorem lit_new (w : World) (zs : List Int) (T : TypeId) : Lit64 (w.alloc (.cells (zs.map (Value.int .i64)).toArray T)) w.heap.size zs.length := fun i hi => by
  refine ⟨zs[i], ?_⟩
  rw [World.cell?_alloc_mark]
  simp [hi]

set_option maxHeartbeats 1000000 in
theorem among_any (B b N g n : Nat) (cap : Nat) (w : World) (h : Cur B w b N) (hN : N ≤ 1152921504606846974) (hg : g ≠ b) (hl : Lit64 w g n) (h0 : 0 < n) (hn : n ≤ 1000) :
    Calls Try.prog 105 #[.pointer (some ⟨b, 0, none⟩), .slice (some ⟨g, 0, none⟩) n cap] w fun e w' => ∃ z : Int, e = .returned (.int .i64 z) ∧ Cur B w' b (N + 2) ∧ w.grownBy w' (some b) := by
  have H := hid h
  have HL := hid hl
  clear h hl
  go_enter Try.func105, Try.ntmps105
  go_wp2_with fail
  refine (pick_any B b N n _ H.out hN (by omega)).mono ?_
  rintro e w1 ⟨r, hr, rfl, c1, g1⟩
  have hrn : r < n := by omega
  obtain ⟨z, hz⟩ := HL.out r hrn
  have hz1 : w1.cell? ⟨g, r, none⟩ = some (.int .i64 z) := g1.cell hz (by simpa using hg)
  have C1 := hid c1; have G1 := hid g1; clear c1 g1 hr hz
  go_wp2
  go_ret
  exact ⟨z, rfl, C1.out, G1.out⟩
theorem cur_new (w : World) (v : Value) (h : CodeOk w.heap.size w v) : Cur w.heap.size (w.alloc (.cells #[v, .int .i64 0, .int .u64 0] 109)) w.heap.size 0 := by
  have hb : Below w.heap.size w (w.alloc (.cells #[v, .int .i64 0, .int .u64 0] 109)) := (Below.refl _ _).alloc (Nat.le_refl _) _
  refine ⟨Nat.le_refl _, hb.size, v, fun i => (#[v, .int .i64 0, .int .u64 0] : Array Value).getD i undef, 0, 0, World.rowIs_alloc w _ _ _ (fun i hi => ?_), rfl, rfl, rfl, Nat.le_refl _, by decide, h.below hb⟩
  rcases (show i = 0 ∨ i = 1 ∨ i = 2 from by simp at hi; omega) with rfl | rfl | rfl <;> rfl
end Go.Proofs.Ytijojdempijhbad
namespace Go.Proofs.Ytijojdempijhbad
open Go.RowKit

theorem rtcur_lt {B b N : Nat} {w : World} (h : Cur B w b N) : b < w.heap.size := by
  obtain ⟨_, _, v, f, at_, sd, hr, _⟩ := h
  exact hr.lt
set_option maxHeartbeats 1000000 in
theorem among_in12 (Q : Int → Prop) (B b N g n : Nat) (cap : Nat) (w : World) (h : Cur B w b N) (hN : N ≤ 1152921504606846974) (hg : g ≠ b) (hl : ∀ i, i < n → ∃ z : Int, Q z ∧ w.cell? ⟨g, i, none⟩ = some (.int .i64 z)) (h0 : 0 < n) (hn : n ≤ 1000) :
    Calls Try.prog 105 #[.pointer (some ⟨b, 0, none⟩), .slice (some ⟨g, 0, none⟩) n cap] w fun e w' => ∃ z : Int, Q z ∧ e = .returned (.int .i64 z) ∧ Cur B w' b (N + 2) ∧ w.grownBy w' (some b) := by
  have H := hid h
  have HL := hid hl
  clear h hl
  go_enter Try.func105, Try.ntmps105
  go_wp2_with fail
  refine (pick_any B b N n _ H.out hN (by omega)).mono ?_
  rintro e w1 ⟨r, hr, rfl, c1, g1⟩
  have hrn : r < n := by omega
  obtain ⟨z, hq, hz⟩ := HL.out r hrn
  have hz1 : w1.cell? ⟨g, r, none⟩ = some (.int .i64 z) := g1.cell hz (by simpa using hg)
  have C1 := hid c1; have G1 := hid g1; have HQ := hid hq; clear c1 g1 hr hz hq
  go_wp2
  go_ret
  exact ⟨z, HQ.out, rfl, C1.out, G1.out⟩
theorem lit_in12 (Q : Int → Prop) (w : World) (zs : List Int) (T : TypeId) (hq : ∀ z ∈ zs, Q z) : ∀ i, i < zs.length → ∃ z : Int, Q z ∧ (w.alloc (.cells (zs.map (Value.int .i64)).toArray T)).cell? ⟨w.heap.size, i, none⟩ = some (.int .i64 z) := fun i hi => by
  refine ⟨zs[i], hq _ (List.getElem_mem hi), ?_⟩
  rw [World.cell?_alloc_mark]
  simp [hi]
theorem set_getD (l : List UInt8) (k j : Nat) (x : UInt8) (hk : k < l.length) : (l.set k x).getD j 0 = if j = k then x else l.getD j 0 := by
  by_cases e : j = k
  · subst e; rw [if_pos rfl]; simp [List.getD_eq_getElem?_getD, hk]
  · rw [if_neg e]; simp [List.getD_eq_getElem?_getD, Ne.symm e]
end Go.Proofs.Ytijojdempijhbad
