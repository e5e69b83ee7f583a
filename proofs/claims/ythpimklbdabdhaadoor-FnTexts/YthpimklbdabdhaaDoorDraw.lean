/-
  What the cursor's pick, one, among and number answer: some number, some truth, one of a list; each writes into the cursor alone.
-/
import Derived.Test.YthpimklbdabdhaaDoorCur
import Derived.Laws.IdiomStrings
namespace Go.Proofs.YthpimklbdabdhaaDoor
open Go.RowKit

set_option maxHeartbeats 1000000 in
theorem pick_any (B b N : Nat) (n : Int) (w : World) (h : Cur B w b N) (hN : N ≤ 1152921504606846974) (hn : n ≤ 1152921504606846975) :
    Calls Tryd.prog 38 #[.pointer (some ⟨b, 0, none⟩), .int .i64 n] w fun e w' => ∃ r : Nat, (r = 0 ∨ (r : Int) < n) ∧ e = .returned (.int .i64 r) ∧ Cur B w' b (N + 2) ∧ w.grownBy w' (some b) := by
  have H := hid h
  clear h
  by_cases h1 : n ≤ 1
  · go_enter Tryd.func38, Tryd.ntmps38
    go_wp2
    go_ret
    exact ⟨0, .inl rfl, rfl, H.out.mono (by omega), only_refl _ _⟩
  have hne : (n == 0) = false := by rw [beq_eq_false_iff_ne]; omega
  by_cases h2 : (200 : Int) < n
  · go_enter Tryd.func38, Tryd.ntmps38
    go_wp2_with fail
    refine (next_any B b N _ H.out (by omega)).mono ?_
    rintro e w1 ⟨x, hx, rfl, c1, g1⟩
    have C1 := hid c1; have G1 := hid g1; clear c1 g1
    go_wp2_with fail
    refine (next_any B b (N + 1) _ C1.out (by omega)).mono ?_
    rintro e w2 ⟨y, hy, rfl, c2, g2⟩
    have C2 := hid c2; have G2 := hid g2; clear c2 g2
    go_wp2
    go_ret
    obtain ⟨m, rfl⟩ := Int.eq_ofNat_of_zero_le (show 0 ≤ n by omega)
    refine ⟨(x * 256 + y) % m, .inr ?_, ?_, C2.out, only_trans G1.out G2.out⟩
    · have := Nat.mod_lt (x * 256 + y) (show 0 < m by omega); omega
    · exact congrArg (fun z => Ending.returned (.int .i64 z)) (by simp)
  · go_enter Tryd.func38, Tryd.ntmps38
    go_wp2_with fail
    refine (next_any B b N _ H.out (by omega)).mono ?_
    rintro e w1 ⟨x, hx, rfl, c1, g1⟩
    have C1 := hid c1; have G1 := hid g1; clear c1 g1
    go_wp2
    go_ret
    obtain ⟨m, rfl⟩ := Int.eq_ofNat_of_zero_le (show 0 ≤ n by omega)
    refine ⟨x % m, .inr ?_, ?_, C1.out.mono (by omega), G1.out⟩
    · have := Nat.mod_lt x (show 0 < m by omega); omega
    · exact congrArg (fun z => Ending.returned (.int .i64 z)) (by simp)

theorem one_any (B b N : Nat) (n : Int) (w : World) (h : Cur B w b N) (hN : N ≤ 1152921504606846974) (hn : n ≤ 1152921504606846975) :
    Calls Tryd.prog 45 #[.pointer (some ⟨b, 0, none⟩), .int .i64 n] w fun e w' => ∃ t : Bool, e = .returned (.bool t) ∧ Cur B w' b (N + 2) ∧ w.grownBy w' (some b) := by
  have H := hid h
  clear h
  go_enter Tryd.func45, Tryd.ntmps45
  go_wp2_with (go_at_call 38; refine (pick_any B b N n _ H.out hN hn).mono ?_; rintro e w1 ⟨r, hr, rfl, c1, g1⟩; have C1 := hid c1; have G1 := hid g1; have HR := hid hr; clear c1 g1 hr)
  go_ret
  exact ⟨_, rfl, C1.out, G1.out⟩

/-- A list of numbers in a block of its own. -/
def Lit64 (w : World) (g n : Nat) : Prop := ∀ i, i < n → ∃ z : Int, w.cell? ⟨g, i, none⟩ = some (.int .i64 z)
theorem lit_new (w : World) (zs : List Int) (T : TypeId) : Lit64 (w.alloc (.cells (zs.map (Value.int .i64)).toArray T)) w.heap.size zs.length := fun i hi => by
  refine ⟨zs[i], ?_⟩
  rw [World.cell?_alloc_mark]
  simp [hi]

set_option maxHeartbeats 1000000 in
theorem among_any (B b N g n : Nat) (cap : Nat) (w : World) (h : Cur B w b N) (hN : N ≤ 1152921504606846974) (hg : g ≠ b) (hl : Lit64 w g n) (h0 : 0 < n) (hn : n ≤ 1000) :
    Calls Tryd.prog 34 #[.pointer (some ⟨b, 0, none⟩), .slice (some ⟨g, 0, none⟩) n cap] w fun e w' => ∃ z : Int, e = .returned (.int .i64 z) ∧ Cur B w' b (N + 2) ∧ w.grownBy w' (some b) := by
  have H := hid h
  have HL := hid hl
  clear h hl
  go_enter Tryd.func34, Tryd.ntmps34
  go_wp2_with fail
  refine (pick_any B b N n _ H.out hN (by omega)).mono ?_
  rintro e w1 ⟨r, hr, rfl, c1, g1⟩
  have hrn : r < n := by omega
  obtain ⟨z, hz⟩ := HL.out r hrn
  have hz1 : w1.cell? ⟨g, r, none⟩ = some (.int .i64 z) := g1.cell hz (by simpa using hg)
  have C1 := hid c1; have G1 := hid g1; clear c1 g1 hr hz
  go_wp2
  go_ret
  exact ⟨z, rfl, C1.out, G1.out⟩

set_option maxHeartbeats 1000000 in
theorem number_any (B b N : Nat) (w : World) (h : Cur B w b N) (hN : N ≤ 1152921504606846900) :
    Calls Tryd.prog 33 #[.pointer (some ⟨b, 0, none⟩)] w fun e w' => ∃ z : Int, e = .returned (.int .i64 z) ∧ Cur B w' b (N + 8) ∧ w.grownBy w' (some b) := by
  have H := hid h
  clear h
  go_enter Tryd.func33, Tryd.ntmps33
  go_wp2_with fail
  refine (one_any B b N 3 _ H.out (by omega) (by omega)).mono ?_
  rintro e w1 ⟨t, rfl, c1, g1⟩
  have hb1 : b < w1.heap.size := by obtain ⟨_, _, _, _, _, _, hr, _⟩ := c1; exact hr.lt
  have C1 := hid c1; have G1 := hid g1; clear c1 g1
  cases t
  · go_wp2_with fail
    refine (pick_any B b (N + 2) 256 _ C1.out (by omega) (by omega)).mono ?_
    rintro e w2 ⟨r, hr, rfl, c2, g2⟩
    have hb2 : b < w2.heap.size := by obtain ⟨_, _, _, _, _, _, hr, _⟩ := c2; exact hr.lt
    have C2 := hid c2; have G2 := hid g2; clear c2 g2
    go_wp2_with fail
    refine (among_any B b (N + 4) w2.heap.size 4 4 _ (C2.out.below ((Below.refl _ _).alloc (Nat.le_refl _) _)) (by omega) (by omega) (lit_new w2 [1, 3, 1000, 99991] _) (by omega) (by omega)).mono ?_
    rintro e w3 ⟨z, rfl, c3, g3⟩
    have C3 := hid c3; have G3 := hid g3; clear c3 g3 hr
    go_wp2
    go_ret
    exact ⟨_, rfl, C3.out.mono (by omega), only_trans (only_trans (only_trans G1.out G2.out) (World.grownBy_alloc _ _ _)) G3.out⟩
  · go_wp2_with fail
    refine (among_any B b (N + 2) w1.heap.size 10 10 _ (C1.out.below ((Below.refl _ _).alloc (Nat.le_refl _) _)) (by omega) (by omega) (lit_new w1 [0, 63, 64, 16383, 16384, 1073741823, 1073741824, 1152921504606846975, 1152921504606846976, -1] _) (by omega) (by omega)).mono ?_
    rintro e w3 ⟨z, rfl, c3, g3⟩
    have C3 := hid c3; have G3 := hid g3; clear c3 g3
    go_wp2
    go_ret
    exact ⟨_, rfl, C3.out.mono (by omega), only_trans (only_trans G1.out (World.grownBy_alloc _ _ _)) G3.out⟩
end Go.Proofs.YthpimklbdabdhaaDoor
