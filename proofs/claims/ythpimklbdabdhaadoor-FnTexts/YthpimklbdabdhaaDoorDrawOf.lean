/-
  The cursor's among and of, with what all of the list have; a new text of noughts; they write into the cursor alone.
-/
import Derived.Test.YthpimklbdabdhaaDoorDrawSpoilt
namespace Go.Proofs.YthpimklbdabdhaaDoor
open Go.RowKit

set_option maxHeartbeats 1000000 in
theorem among_in (Q : Int → Prop) (B b N g n : Nat) (cap : Nat) (w : World) (h : Cur B w b N) (hN : N ≤ 1152921504606846974) (hg : g ≠ b) (hl : ∀ i, i < n → ∃ z : Int, Q z ∧ w.cell? ⟨g, i, none⟩ = some (.int .i64 z)) (h0 : 0 < n) (hn : n ≤ 1000) :
    Calls Tryd.prog 34 #[.pointer (some ⟨b, 0, none⟩), .slice (some ⟨g, 0, none⟩) n cap] w fun e w' => ∃ z : Int, Q z ∧ e = .returned (.int .i64 z) ∧ Cur B w' b (N + 2) ∧ w.grownBy w' (some b) := by
  have H := hid h
  have HL := hid hl
  clear h hl
  go_enter Tryd.func34, Tryd.ntmps34
  go_wp2_with fail
  refine (pick_any B b N n _ H.out hN (by omega)).mono ?_
  rintro e w1 ⟨r, hr, rfl, c1, g1⟩
  have hrn : r < n := by omega
  obtain ⟨z, hq, hz⟩ := HL.out r hrn
  have hz1 : w1.cell? ⟨g, r, none⟩ = some (.int .i64 z) := g1.cell hz (by simpa using hg)
  have C1 := hid c1; have G1 := hid g1; have HQ := hid hq; clear c1 g1 hr hz hq
  go_wp2
  go_ret
  exact ⟨z, HQ.out, rfl, C1.out, G1.out⟩
theorem lit_in (Q : Int → Prop) (w : World) (zs : List Int) (T : TypeId) (hq : ∀ z ∈ zs, Q z) : ∀ i, i < zs.length → ∃ z : Int, Q z ∧ (w.alloc (.cells (zs.map (Value.int .i64)).toArray T)).cell? ⟨w.heap.size, i, none⟩ = some (.int .i64 z) := fun i hi => by
  refine ⟨zs[i], hq _ (List.getElem_mem hi), ?_⟩
  rw [World.cell?_alloc_mark]
  simp [hi]

set_option maxHeartbeats 1000000 in
theorem of_in (Q : ByteArray → Prop) (B b N g n : Nat) (cap : Nat) (w : World) (h : Cur B w b N) (hN : N ≤ 1152921504606846974) (hg : g ≠ b) (hl : ∀ i, i < n → ∃ t : ByteArray, Q t ∧ w.cell? ⟨g, i, none⟩ = some (.string t)) (h0 : 0 < n) (hn : n ≤ 1000) :
    Calls Tryd.prog 46 #[.pointer (some ⟨b, 0, none⟩), .slice (some ⟨g, 0, none⟩) n cap] w fun e w' => ∃ t : ByteArray, Q t ∧ e = .returned (.string t) ∧ Cur B w' b (N + 2) ∧ w.grownBy w' (some b) := by
  have H := hid h
  have HL := hid hl
  clear h hl
  go_enter Tryd.func46, Tryd.ntmps46
  go_wp2_with fail
  refine (pick_any B b N n _ H.out hN (by omega)).mono ?_
  rintro e w1 ⟨r, hr, rfl, c1, g1⟩
  have hrn : r < n := by omega
  obtain ⟨z, hq, hz⟩ := HL.out r hrn
  have hz1 : w1.cell? ⟨g, r, none⟩ = some (.string z) := g1.cell hz (by simpa using hg)
  have C1 := hid c1; have G1 := hid g1; have HQ := hid hq; clear c1 g1 hr hz hq
  go_wp2
  go_ret
  exact ⟨z, HQ.out, rfl, C1.out, G1.out⟩
theorem lit_str (Q : ByteArray → Prop) (w : World) (ts : List ByteArray) (T : TypeId) (hq : ∀ t ∈ ts, Q t) : ∀ i, i < ts.length → ∃ t : ByteArray, Q t ∧ (w.alloc (.cells (ts.map Value.string).toArray T)).cell? ⟨w.heap.size, i, none⟩ = some (.string t) := fun i hi => by
  refine ⟨ts[i], hq _ (List.getElem_mem hi), ?_⟩
  rw [World.cell?_alloc_mark]
  simp [hi]

/-- A text of n noughts. -/
theorem conv_zeros (w : World) (n : Nat) : (convert 22 9 (.slice (some ⟨w.heap.size, 0, none⟩) n n)).run Tryd.prog (w.alloc (.cells (madeCells #[.int .u8 0] n) 5)) = .ok (.string ⟨(List.replicate n (0 : UInt8)).toArray⟩) (w.alloc (.cells (madeCells #[.int .u8 0] n) 5)) := by
  have hr := World.rowIs_made w (.int .u8 0) n 5
  have h := run_convert_bytes_back (P := Tryd.prog) (w.alloc (.cells (madeCells #[.int .u8 0] n) 5)) 22 9 5 ⟨w.heap.size, 0, none⟩ n (List.replicate n (0 : UInt8)) Tryd.underlying22 Tryd.underlying5 Tryd.underlying9 (fun j hj => by
    have hj' : j < n := by simpa using hj
    have := hr.cell hj'
    rcases j with _ | j <;> simpa [Addr.add] using this)
  rw [List.length_replicate] at h
  exact h
end Go.Proofs.YthpimklbdabdhaaDoor
