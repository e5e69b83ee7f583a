/-
  The whiles in their order, the first one with too much in it; there is none just if all can be in time. Plain arithmetic, no program.
-/
import Derived.Test.YtobkockikpgcoabEdfMath
namespace Go.Proofs.Ytobkockikpgcoab

/-- Two numbers up to 24: a while's from and to. -/
abbrev Wh := { p : Nat × Nat // p.1 ≤ 24 ∧ p.2 ≤ 24 }
def mkW (f t : Nat) : Wh := ⟨(min f 24, min t 24), by constructor <;> omega⟩
theorem mkW_1 (f t : Nat) (h : f ≤ 24) : (mkW f t).1.1 = f := by show min f 24 = f; omega
theorem mkW_2 (f t : Nat) (h : t ≤ 24) : (mkW f t).1.2 = t := by show min t 24 = t; omega
theorem mkW_self (x : Wh) : mkW x.1.1 x.1.2 = x := by
  obtain ⟨⟨f, t⟩, h1, h2⟩ := x
  apply Subtype.ext
  show (min f 24, min t 24) = (f, t)
  have h1' : f ≤ 24 := h1
  have h2' : t ≤ 24 := h2
  rw [Nat.min_eq_left h1', Nat.min_eq_left h2']
def rowW (f t : Nat) : List Wh := (List.range (25 - t)).map fun i => mkW f (t + i)
/-- The whiles from (f, t) on: the least from first, then the least to. -/
def restW (f t : Nat) : List Wh := rowW f t ++ (List.range (23 - f)).flatMap fun i => rowW (f + 1 + i) (f + 2 + i)
def allW : List Wh := restW 0 1
theorem rowW_step (f t : Nat) (h : t ≤ 24) : rowW f t = mkW f t :: rowW f (t + 1) := by
  unfold rowW
  rw [show 25 - t = (25 - (t + 1)) + 1 by omega, List.range_succ_eq_map, List.map_cons, List.map_map]
  congr 1
  apply List.map_congr_left
  intro i _
  show mkW f (t + (i + 1)) = mkW f (t + 1 + i)
  rw [show t + (i + 1) = t + 1 + i by omega]
theorem rowW_end (f : Nat) : rowW f 25 = [] := rfl
theorem restW_step (f t : Nat) (h : t ≤ 24) : restW f t = mkW f t :: restW f (t + 1) := by
  unfold restW
  rw [rowW_step f t h, List.cons_append]
theorem restW_next (f : Nat) (h : f < 23) : restW f 25 = restW (f + 1) (f + 2) := by
  unfold restW
  rw [rowW_end, List.nil_append, show 23 - f = (23 - (f + 1)) + 1 by omega, List.range_succ_eq_map, List.flatMap_cons, List.flatMap_map]
  congr 1
  rw [List.flatMap_def, List.flatMap_def]
  congr 1
  apply List.map_congr_left
  intro i _
  show rowW (f + 1 + (i + 1)) (f + 2 + (i + 1)) = rowW (f + 1 + 1 + i) (f + 1 + 2 + i)
  rw [show f + 1 + (i + 1) = f + 1 + 1 + i by omega, show f + 2 + (i + 1) = f + 1 + 2 + i by omega]
theorem restW_end : restW 23 25 = [] := rfl
theorem restW_on (f : Nat) (h : f ≤ 23) : restW f 25 = restW (f + 1) (f + 2) := by
  by_cases e : f = 23
  · subst e; rfl
  · exact restW_next f (by omega)
theorem restW_24 : restW 24 25 = [] := rfl
def ovW (l : List JbEl) (x : Wh) : Bool := overB l x.1.1 x.1.2
def fstW (l : List JbEl) (ws : List Wh) : Option Wh := ws.find? (ovW l)
def ovFrom (l : List JbEl) : Int := match fstW l allW with | some x => x.1.1 | none => 0
def ovTo (l : List JbEl) : Int := match fstW l allW with | some x => x.1.2 | none => 0
def ovIs (l : List JbEl) : Bool := (fstW l allW).isSome
theorem first_cons (l : List JbEl) (f t : Nat) (hf : f ≤ 24) (ht : t ≤ 24) (b : Bool) (hb : overB l f t = b) : fstW l (restW f t) = if b = true then some (mkW f t) else fstW l (restW f (t + 1)) := by
  rw [restW_step f t ht]
  unfold fstW
  rw [List.find?_cons]
  have : ovW l (mkW f t) = b := by unfold ovW; rw [mkW_1 f t hf, mkW_2 f t ht]; exact hb
  rw [this]
  cases b <;> rfl
/-- What is answered, as three letters. -/
structure Told (l : List JbEl) (F T : Int) (B : Bool) : Prop where
  yes : ∀ f t : Nat, f ≤ 24 → t ≤ 24 → fstW l allW = some (mkW f t) → F = f ∧ T = t ∧ B = true
  no : fstW l allW = none → F = 0 ∧ T = 0 ∧ B = false
theorem told (l : List JbEl) : Told l (ovFrom l) (ovTo l) (ovIs l) := by
  refine ⟨fun f t hf ht h => ?_, fun h => ?_⟩
  · unfold ovFrom ovTo ovIs
    rw [h]
    refine ⟨?_, ?_, rfl⟩
    · show ((mkW f t).1.1 : Int) = _; rw [mkW_1 f t hf]
    · show ((mkW f t).1.2 : Int) = _; rw [mkW_2 f t ht]
  · unfold ovFrom ovTo ovIs
    rw [h]
    exact ⟨rfl, rfl, rfl⟩
theorem first_yes {l : List JbEl} {pre rest : List Wh} {x : Wh} (h : allW = pre ++ x :: rest) (hn : ∀ y ∈ pre, ovW l y = false) (hx : ovW l x = true) : fstW l allW = some x := by
  unfold fstW
  rw [h, List.find?_append, List.find?_eq_none.2 (fun y hy => by rw [hn y hy]; decide)]
  simp [hx]
theorem first_no {l : List JbEl} (hn : ∀ y ∈ allW, ovW l y = false) : fstW l allW = none := by
  unfold fstW
  exact List.find?_eq_none.2 (fun y hy => by rw [hn y hy]; decide)
theorem mem_rowW {f t : Nat} {x : Wh} (h : x ∈ rowW f t) : ∃ i, i < 25 - t ∧ x = mkW f (t + i) := by
  unfold rowW at h
  obtain ⟨i, hi, rfl⟩ := List.mem_map.1 h
  exact ⟨i, List.mem_range.1 hi, rfl⟩
theorem rowW_mem {f t u : Nat} (h1 : t ≤ u) (h2 : u ≤ 24) : mkW f u ∈ rowW f t := by
  unfold rowW
  refine List.mem_map.2 ⟨u - t, List.mem_range.2 (by omega), ?_⟩
  rw [show t + (u - t) = u by omega]
theorem allW_mem {f t : Nat} (h : f < t) (ht : t ≤ 24) : mkW f t ∈ allW := by
  unfold allW restW
  by_cases h0 : f = 0
  · subst h0
    exact List.mem_append_left _ (rowW_mem (by omega) ht)
  · refine List.mem_append_right _ (List.mem_flatMap.2 ⟨f - 1, List.mem_range.2 (by omega), ?_⟩)
    rw [show 0 + 1 + (f - 1) = f by omega, show 0 + 2 + (f - 1) = f + 1 by omega]
    exact rowW_mem (by omega) ht
theorem allW_in {x : Wh} (h : x ∈ allW) : ∃ f t : Nat, f < t ∧ t ≤ 24 ∧ x = mkW f t := by
  unfold allW restW at h
  rcases List.mem_append.1 h with h | h
  · obtain ⟨i, hi, rfl⟩ := mem_rowW h
    exact ⟨0, 1 + i, by omega, by omega, rfl⟩
  · obtain ⟨j, hj, h⟩ := List.mem_flatMap.1 h
    obtain ⟨i, hi, rfl⟩ := mem_rowW h
    have := List.mem_range.1 hj
    exact ⟨0 + 1 + j, 0 + 2 + j + i, by omega, by omega, rfl⟩
/-- All can be met just if there is no overload. -/
theorem meet_over {l : List JbEl} (hg : goodJ l = true) : meetB l = !ovIs l := by
  rw [Bool.eq_iff_iff, meet_iff hg]
  unfold ovIs
  constructor
  · intro h
    rw [first_no (fun y hy => by
      obtain ⟨f, t, h1, h2, rfl⟩ := allW_in hy
      unfold ovW
      rw [mkW_1 f t (by omega), mkW_2 f t h2]
      exact h f t h1 h2)]
    rfl
  · intro h f t h1 h2
    cases hf : fstW l allW with
    | some x => rw [hf] at h; cases h
    | none =>
      have := List.find?_eq_none.1 hf (mkW f t) (allW_mem h1 h2)
      unfold ovW at this
      rw [mkW_1 f t (by omega), mkW_2 f t h2] at this
      simpa using this
theorem over_told {l : List JbEl} (h : ovIs l = true) : ∃ f t : Nat, f < t ∧ t ≤ 24 ∧ ovFrom l = f ∧ ovTo l = t ∧ overB l f t = true := by
  unfold ovIs at h
  cases hf : fstW l allW with
  | none => rw [hf] at h; cases h
  | some x =>
    have h1 := List.find?_some hf
    have h2 := List.mem_of_find?_eq_some hf
    obtain ⟨f, t, h3, h4, rfl⟩ := allW_in h2
    unfold ovW at h1
    rw [mkW_1 f t (by omega), mkW_2 f t h4] at h1
    refine ⟨f, t, h3, h4, ?_, ?_, h1⟩
    · unfold ovFrom; rw [hf]; show ((mkW f t).1.1 : Int) = _; rw [mkW_1 f t (by omega)]
    · unfold ovTo; rw [hf]; show ((mkW f t).1.2 : Int) = _; rw [mkW_2 f t h4]
end Go.Proofs.Ytobkockikpgcoab
