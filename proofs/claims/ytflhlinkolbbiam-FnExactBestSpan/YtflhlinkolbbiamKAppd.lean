/-
  A row of numbers to which one may append: in blocks of its own, or with no room at all. Plain facts on the memory.
-/
import Derived.Test.YtflhlinkolbbiamQSet
import Derived.Test.YtflhlinkolbbiamKApp5
namespace Go.Proofs.Ytflhlinkolbbiam
open Go.RowKit

def KApp (lo hi : Nat) (w : World) (v : Value) (xs : List Int) : Prop := (xs = [] ∧ ∃ a, v = .slice a 0 0) ∨ (w.ownsRow lo 3 1 v xs.length (kflat xs) ∧ ∀ g, v.ownBlock = some g → g < hi)
theorem owns_at1 {w w' : World} {base : Nat} {t : TypeId} {size n : Nat} {v : Value} {cs : List Value} (h : w.ownsRow base t size v n cs) (e : ∀ g, v.ownBlock = some g → base ≤ g → g < w.heap.size → w'.heap[g]? = w.heap[g]?) : w'.ownsRow base t size v n cs := by
  refine ⟨h.1, ?_⟩
  rcases h.2 with h2 | ⟨g, cap, cur, rfl, hb, hh, hr⟩
  · exact .inl h2
  · have hlt : g < w.heap.size := by
      by_cases hg : g < w.heap.size
      · exact hg
      · rw [Array.getElem?_eq_none (by omega)] at hh; cases hh
    exact .inr ⟨g, cap, cur, rfl, hb, (e g rfl hb hlt).trans hh, hr⟩
theorem KApp.at {lo hi : Nat} {w w' : World} {v : Value} {xs : List Int} (h : KApp lo hi w v xs) (hk : ∀ g, lo ≤ g → g < hi → g < w.heap.size → w'.heap[g]? = w.heap[g]?) : KApp lo hi w' v xs := by
  rcases h with h | ⟨h1, h2⟩
  · exact .inl h
  · exact .inr ⟨owns_at1 h1 fun g e hb hl => hk g hb (h2 g e) hl, h2⟩
theorem KApp.below {lo hi : Nat} {w w' : World} {v : Value} {xs : List Int} (h : KApp lo hi w v xs) (hb : Below w.heap.size w w') : KApp lo hi w' v xs := h.at fun g _ _ hg => hb.block g hg
theorem KApp.onlyP {lo hi : Nat} {w w' : World} {v : Value} {xs : List Int} {P : Nat → Prop} (h : KApp lo hi w v xs) (ho : OnlyP P w w') (hd : ∀ g, lo ≤ g → g < hi → ¬ P g) : KApp lo hi w' v xs := h.at fun g h1 h2 _ => ho.2.1 g (hd g h1 h2)
theorem KApp.of_owns {w : World} {base : Nat} {v : Value} {n : Nat} {xs : List Int} (h : w.ownsRow base 3 1 v n (kflat xs)) (hn : n = xs.length) : KApp base w.heap.size w v xs := by
  subst hn
  refine .inr ⟨h, fun g e => ?_⟩
  rcases h.2 with ⟨rfl, _⟩ | ⟨g', cap, cur, rfl, hb, hh, hr⟩
  · cases e
  · simp only [Value.ownBlock, Option.some.injEq] at e
    subst e
    by_cases hg : g' < w.heap.size
    · exact hg
    · rw [Array.getElem?_eq_none (by omega)] at hh; cases hh
/-- To each row of a row of rows one may append. -/
def QAppd (w : World) (v : Value) (xss : List (List Int)) (iv : Nat → Nat × Nat) : Prop := ∀ B n cap, v = .slice (some ⟨B, 0, none⟩) n cap → ∀ i, i < xss.length → ∀ u, w.cell? ⟨B, i, none⟩ = some u → KApp (iv i).1 (iv i).2 w u (xss.getD i [])
theorem QAppd.below {w w' : World} {c : Nat × Nat} {v : Value} {xss : List (List Int)} {iv : Nat → Nat × Nat} (h : QAppd w v xss iv) (hq : QRow w c v xss iv) (hb : Below w.heap.size w w') : QAppd w' v xss iv := by
  intro B n cap e i hi u hc
  obtain ⟨_, hq⟩ := hq
  rcases hq with ⟨a', cap', e', e''⟩ | ⟨B', cap', us, e', hg', hf⟩
  · rw [e''] at hi; simp at hi
  · rw [e] at e'
    cases e'
    have hlt := lt_of_cell (hf i hi).1
    rw [World.cell?_of_block (a := ⟨B, i, none⟩) (hb.block B hlt)] at hc
    exact (h B _ _ e i hi u hc).below hb
theorem qmade_app (w : World) (n : Nat) (xss : List (List Int)) (hx : xss.length = n) : QAppd (w.alloc (.cells (madeCells #[.slice none 0 0] n) 22)) (.slice (some ⟨w.heap.size, 0, none⟩) n n) (qpart xss 0) (fun _ => (w.heap.size + 1, w.heap.size + 1)) := by
  intro B m cap e i hi u hc
  cases e
  rw [length_qpart] at hi
  rw [World.cell?_alloc_new] at hc
  have hu : u = .slice none 0 0 := by
    have hlt : i < n := by omega
    simp [madeCells, hlt, Nat.mod_one] at hc
    exact hc.symm
  rw [qpart_get _ _ _ hi, if_neg (by omega), hu]
  exact .inl ⟨rfl, _, rfl⟩
end Go.Proofs.Ytflhlinkolbbiam
