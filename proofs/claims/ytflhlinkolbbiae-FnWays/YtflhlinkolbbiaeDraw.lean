/-
  What the cursor's pick, one, among and number answer: some number, some truth, one of a list; each writes into the cursor alone.
-/
import Derived.Test.YtflhlinkolbbiaeCur
import Derived.Laws.IdiomStrings
namespace Go.Proofs.Ytflhlinkolbbiae
open Go.RowKit

set_option maxHeartbeats 1000000 in
theorem pick_any (B b N : Nat) (n : Int) (w : World) (h : Cur B w b N) (hN : N ≤ 1152921504606846974) (hn : n ≤ 1152921504606846975) :
    Calls Try.prog 60 #[.pointer (some ⟨b, 0, none⟩), .int .i64 n] w fun e w' => ∃ r : Nat, (r = 0 ∨ (r : Int) < n) ∧ e = .returned (.int .i64 r) ∧ Cur B w' b (N + 2) ∧ w.grownBy w' (some b) := by
  have H := hid h
  clear h
  by_cases h1 : n ≤ 1
  · go_enter Try.func60, Try.ntmps60
    go_wp2
    go_ret
    exact ⟨0, .inl rfl, rfl, H.out.mono (by omega), only_refl _ _⟩
  have hne : (n == 0) = false := by rw [beq_eq_false_iff_ne]; omega
  by_cases h2 : (200 : Int) < n
  · go_enter Try.func60, Try.ntmps60
    go_wp2_with fail
    refine (next_any B b N _ H.out (by omega)).mono ?_
    rintro e w1 ⟨x, hx, rfl, c1, g1⟩
    have C1 := hid c1; have G1 := hid g1; clear c1 g1
    go_wp2_with fail
    refine (next_any B b (N + 1) _ C1.out (by omega)).mono ?_
    rintro e w2 ⟨y, hy, rfl, c2, g2⟩
    have C2 := hid c2; have G2 := hid g2; clear c2 g2
    go_wp2
    go_ret
    obtain ⟨m, rfl⟩ := Int.eq_ofNat_of_zero_le (show 0 ≤ n by omega)
    refine ⟨(x * 256 + y) % m, .inr ?_, ?_, C2.out, only_trans G1.out G2.out⟩
    · have := Nat.mod_lt (x * 256 + y) (show 0 < m by omega); omega
    · exact congrArg (fun z => Ending.returned (.int .i64 z)) (by simp)
  · go_enter Try.func60, Try.ntmps60
    go_wp2_with fail
    refine (next_any B b N _ H.out (by omega)).mono ?_
    rintro e w1 ⟨x, hx, rfl, c1, g1⟩
    have C1 := hid c1; have G1 := hid g1; clear c1 g1
    go_wp2
    go_ret
    obtain ⟨m, rfl⟩ := Int.eq_ofNat_of_zero_le (show 0 ≤ n by omega)
    refine ⟨x % m, .inr ?_, ?_, C1.out.mono (by omega), G1.out⟩
    · have := Nat.mod_lt x (show 0 < m by omega); omega
    · exact congrArg (fun z => Ending.returned (.int .i64 z)) (by simp)

theorem one_any (B b N : Nat) (n : Int) (w : World) (h : Cur B w b N) (hN : N ≤ 1152921504606846974) (hn : n ≤ 1152921504606846975) :
    Calls Try.prog 62 #[.pointer (some ⟨b, 0, none⟩), .int .i64 n] w fun e w' => ∃ t : Bool, e = .returned (.bool t) ∧ Cur B w' b (N + 2) ∧ w.grownBy w' (some b) := by
  have H := hid h
  clear h
  go_enter Try.func62, Try.ntmps62
  go_wp2_with (go_at_call 60; refine (pick_any B b N n _ H.out hN hn).mono ?_; rintro e w1 ⟨r, hr, rfl, c1, g1⟩; have C1 := hid c1; have G1 := hid g1; have HR := hid hr; clear c1 g1 hr)
  go_ret
  exact ⟨_, rfl, C1.out, G1.out⟩

/-- A list of numbers in a block of its own. -/
def Lit64 (w : World) (g n : Nat) : Prop := ∀ i, i < n → ∃ z : Int, w.cell? ⟨g, i, none⟩ = some (.int .i64 z)
theorem lit_new (w : World) (zs : List Int) (T : TypeId) : Lit64 (w.alloc (.cells (zs.map (Value.int .i64)).toArray T)) w.heap.size zs.length := fun i hi => by
  refine ⟨zs[i], ?_⟩
  rw [World.cell?_alloc_mark]
  simp [hi]

set_option maxHeartbeats 1000000 in
theorem among_any (B b N g n : Nat) (cap : Nat) (w : World) (h : Cur B w b N) (hN : N ≤ 1152921504606846974) (hg : g ≠ b) (hl : Lit64 w g n) (h0 : 0 < n) (hn : n ≤ 1000) :
    Calls Try.prog 42 #[.pointer (some ⟨b, 0, none⟩), .slice (some ⟨g, 0, none⟩) n cap] w fun e w' => ∃ z : Int, e = .returned (.int .i64 z) ∧ Cur B w' b (N + 2) ∧ w.grownBy w' (some b) := by
  have H := hid h
  have HL := hid hl
  clear h hl
  go_enter Try.func42, Try.ntmps42
  go_wp2_with fail
  refine (pick_any B b N n _ H.out hN (by omega)).mono ?_
  rintro e w1 ⟨r, hr, rfl, c1, g1⟩
  have hrn : r < n := by omega
  obtain ⟨z, hz⟩ := HL.out r hrn
  have hz1 : w1.cell? ⟨g, r, none⟩ = some (.int .i64 z) := g1.cell hz (by simpa using hg)
  have C1 := hid c1; have G1 := hid g1; clear c1 g1 hr hz
  go_wp2
  go_ret
  exact ⟨z, rfl, C1.out, G1.out⟩
theorem cur_new (w : World) (v : Value) (h : CodeOk w.heap.size w v) : Cur w.heap.size (w.alloc (.cells #[v, .int .i64 0, .int .u64 0] 69)) w.heap.size 0 := by
  have hb : Below w.heap.size w (w.alloc (.cells #[v, .int .i64 0, .int .u64 0] 69)) := (Below.refl _ _).alloc (Nat.le_refl _) _
  refine ⟨Nat.le_refl _, hb.size, v, fun i => (#[v, .int .i64 0, .int .u64 0] : Array Value).getD i undef, 0, 0, World.rowIs_alloc w _ _ _ (fun i hi => ?_), rfl, rfl, rfl, Nat.le_refl _, by decide, h.below hb⟩
  rcases (show i = 0 ∨ i = 1 ∨ i = 2 from by simp at hi; omega) with rfl | rfl | rfl <;> rfl
end Go.Proofs.Ytflhlinkolbbiae
