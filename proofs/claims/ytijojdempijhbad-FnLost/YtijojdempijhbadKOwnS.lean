/-
  A row of numbers in blocks of a set. Plain facts on the memory.
  Senders that hear of letters one by one, in a box: plain facts on the memory.
-/
import Derived.Test.YtijojdempijhbadQForm
import Derived.Test.YtijojdempijhbadLostMath
import Derived.Test.YtijojdempijhbadSdBox
namespace Go.Proofs.Ytijojdempijhbad
open Go.RowKit

def KOwnS (S : Nat → Prop) (w : World) (v : Value) (xs : List KEl) : Prop := ∃ l e, KOwn l e w v xs ∧ ∀ g, l ≤ g → g < e → S g
theorem KOwnS.reads {S : Nat → Prop} {w : World} {v : Value} {xs : List KEl} (h : KOwnS S w v xs) : KReads w v xs := by
  obtain ⟨l, e, h, _⟩ := h
  exact h.reads
theorem KOwnS.below {S : Nat → Prop} {w w' : World} {v : Value} {xs : List KEl} (h : KOwnS S w v xs) (hb : Below w.heap.size w w') : KOwnS S w' v xs := by
  obtain ⟨l, e, h, hs⟩ := h
  exact ⟨l, e, h.below hb, hs⟩
theorem KOwnS.onlyS {S S' : Nat → Prop} {w w' : World} {v : Value} {xs : List KEl} (h : KOwnS S w v xs) (ho : OnlyS S' w w') (hd : ∀ g, S g → S' g → False) : KOwnS S w' v xs := by
  obtain ⟨l, e, h, hs⟩ := h
  exact ⟨l, e, h.at fun g g1 g2 g3 => ho g g3 (hd g (hs g g1 g2)), hs⟩
theorem KOwn.inS {lo hi : Nat} {w : World} {v : Value} {xs : List KEl} (h : KOwn lo hi w v xs) : KOwnS (Iv lo hi) w v xs := ⟨lo, hi, h, fun _ h1 h2 => ⟨h1, h2⟩⟩
theorem KOwnS.on {l e : Nat} {S : Nat → Prop} {w w' : World} (hS : ∀ g, l ≤ g → g < e → S g) (on : Only l e w w') : OnlyS S w w' := fun j _ hj => on.2 j (by
  by_cases h1 : j < l
  · exact .inl h1
  · by_cases h2 : e ≤ j
    · exact .inr h2
    · exact absurd (hS j (by omega) (by omega)) hj)
/-- Behind the numbering of a row in blocks of S, all from lo on: nothing ahead of lo is touched. -/
theorem KOwnS.frame {l e lo : Nat} {S : Nat → Prop} {w w' : World} {v : Value} {xs : List KEl} (_h : KOwn l e w v xs) (hS : ∀ g, l ≤ g → g < e → S g) (hlo : ∀ g, S g → lo ≤ g) (_hw : lo ≤ w.heap.size) (b : Below l w w') (on : Only l e w w') : Below lo w w' :=
  ⟨b.os, b.tape, b.output, b.size, fun k hk => on.2 k (by
    by_cases h1 : k < l
    · exact .inl h1
    · by_cases h2 : e ≤ k
      · exact .inr h2
      · have := hlo k (hS k (by omega) (by omega))
        omega)⟩
end Go.Proofs.Ytijojdempijhbad
namespace Go.Proofs.Ytijojdempijhbad
open Go.RowKit

theorem spreads_one (w : World) (x y : Int) (T : TypeId) : SpReads (w.alloc (.cells #[.int .i64 x, .int .i64 y] T)) (.slice (some ⟨w.heap.size, 0, none⟩) 1 1) [(x, y)] := by
  refine ⟨_, 1, rfl, by simp, .inr ⟨w.heap.size, 0, rfl, fun i hi => ?_⟩⟩
  obtain rfl : i = 0 := by simpa using hi
  exact ⟨by simp, by simp⟩
theorem kown_any {lo hi lo' hi' : Nat} {w w' : World} {v : Value} (h : KOwn lo hi w v []) : KOwn lo' hi' w' v [] := by
  rcases h.2 with ⟨a, c, rfl, _⟩ | ⟨g, c, rfl, _⟩
  · exact kown_nil _ _ _ _ _
  · exact kown_nil _ _ _ _ _
theorem spown_any {lo hi lo' hi' : Nat} {w w' : World} {v : Value} (h : SpOwn lo hi w v []) : SpOwn lo' hi' w' v [] := by
  rcases h.2 with ⟨a, c, rfl, _⟩ | ⟨g, c, rfl, _⟩
  · exact spown_nil _ _ _ _ _
  · exact spown_nil _ _ _ _ _
theorem sdNew_bare {S : Nat → Prop} {w w' : World} {v : Value} {n : Int} (lo : Nat) (h : SdOwn S w v ⟨n, [], []⟩) : SdNew lo w' v ⟨n, [], []⟩ := by
  obtain ⟨v1, v2, c1, c2, rfl, _, h1, h2⟩ := h
  exact ⟨v1, v2, (lo, lo), (lo, lo), rfl, spown_any h1, kown_any h2, Nat.le_refl _, Nat.le_refl _⟩
theorem kown_of_S {S : Nat → Prop} {w : World} {v : Value} {xs : List Int} (h : KOwnS S w v xs) {lo hi : Nat} (hs : ∀ g, S g → lo ≤ g ∧ g < hi) : KOwn lo hi w v xs := by
  obtain ⟨l, r, h, hS⟩ := h
  rcases h.2 with h' | ⟨g, cap, e, hg, hr⟩
  · exact ⟨h.1, .inl h'⟩
  · have := hs g (hS g hg.1 hg.2.1)
    exact ⟨h.1, .inr ⟨g, cap, e, ⟨this.1, this.2, hg.2.2⟩, hr⟩⟩
/-- What has come so far, and what comes next. -/
theorem play_next {m : Nat} {xs : List Int} {k : Nat} (hm : m ≤ 60) (ho : oruB xs (m : Int) = true) (hk : k < xs.length) (hb : playB ⟨(m : Int), [], []⟩ (xs.take k) = true) :
    (0 ≤ xs.getD k 0 ∧ xs.getD k 0 ≤ (m : Int) - 1) ∧ goodSd (playSd ⟨(m : Int), [], []⟩ (xs.take k)) = true ∧ (playSd ⟨(m : Int), [], []⟩ (xs.take k)).f0 = (m : Int) ∧
    playB ⟨(m : Int), [], []⟩ (xs.take (k + 1)) = hearB (playSd ⟨(m : Int), [], []⟩ (xs.take k)) (oneL (xs.getD k 0)) ∧
    hearB (playSd ⟨(m : Int), [], []⟩ (xs.take k)) (oneL (xs.getD k 0)) = decide ((joinL (playSd ⟨(m : Int), [], []⟩ (xs.take k)).f1 (oneL (xs.getD k 0))).length ≤ 20) ∧
    playSd ⟨(m : Int), [], []⟩ (xs.take (k + 1)) = hearSd (playSd ⟨(m : Int), [], []⟩ (xs.take k)) (oneL (xs.getD k 0)) ∧
    playE ⟨(m : Int), [], []⟩ (xs.take (k + 1)) = playE ⟨(m : Int), [], []⟩ (xs.take k) ++ hearLa (playSd ⟨(m : Int), [], []⟩ (xs.take k)) (oneL (xs.getD k 0)) := by
  have hx : 0 ≤ xs.getD k 0 ∧ xs.getD k 0 ≤ (m : Int) - 1 := by
    have := ((oruB_iff xs (m : Int)).1 ho).2 _ (List.getElem_mem hk)
    simpa [List.getD_eq_getElem?_getD, hk] using this
  have hg0 : goodSd ⟨(m : Int), [], []⟩ = true := by
    unfold goodSd
    rw [decide_eq_true (show 0 ≤ (⟨(m : Int), [], []⟩ : SdD).f0 ∧ (⟨(m : Int), [], []⟩ : SdD).f0 ≤ 60 from ⟨by show 0 ≤ (m : Int); omega, by show (m : Int) ≤ 60; omega⟩)]
    rfl
  obtain ⟨hg, hf⟩ := play_good (xs.take k) _ hg0 hb
  have hf' : (playSd ⟨(m : Int), [], []⟩ (xs.take k)).f0 = (m : Int) := hf
  have et : xs.take (k + 1) = xs.take k ++ [xs.getD k 0] := take_snocF hk
  refine ⟨hx, hg, hf', ?_, ?_, ?_, ?_⟩
  · rw [et, playB_snoc, hb, Bool.true_and]
  · unfold hearB
    rw [hg, bel_one (by rw [hf']; exact hx) (by rw [hf']; omega)]
    rfl
  · rw [et, playSd_snoc]
  · rw [et, playE_snoc]
/-- One that tells no is told no in the end. -/
theorem play_ill {D : SdD} {xs : List Int} {k : Nat} (h : playB D (xs.take k) = false) : playB D xs = false := by
  have := playB_no (xs.take k) (xs.drop k) D h
  rwa [List.take_append_drop] at this
end Go.Proofs.Ytijojdempijhbad
