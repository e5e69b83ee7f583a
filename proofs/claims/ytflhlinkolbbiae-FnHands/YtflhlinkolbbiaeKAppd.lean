/-
  A row of numbers to which one may append: in blocks of its own, or with no room at all. Plain facts on the memory.
  slices.Clone of numbers: the same numbers in memory of its own. Nothing old is written.
-/
import Derived.Test.YtflhlinkolbbiaeQSet
import Derived.Test.YtflhlinkolbbiaeKAppN
import Derived.Lib.SlFresh
namespace Go.Proofs.Ytflhlinkolbbiae
open Go.RowKit

def KApp (lo hi : Nat) (w : World) (v : Value) (xs : List Int) : Prop := (xs = [] ∧ ∃ a, v = .slice a 0 0) ∨ (w.ownsRow lo 3 1 v xs.length (kflat xs) ∧ ∀ g, v.ownBlock = some g → g < hi)
theorem owns_at1 {w w' : World} {base : Nat} {t : TypeId} {size n : Nat} {v : Value} {cs : List Value} (h : w.ownsRow base t size v n cs) (e : ∀ g, v.ownBlock = some g → base ≤ g → g < w.heap.size → w'.heap[g]? = w.heap[g]?) : w'.ownsRow base t size v n cs := by
  refine ⟨h.1, ?_⟩
  rcases h.2 with h2 | ⟨g, cap, cur, rfl, hb, hh, hr⟩
  · exact .inl h2
  · have hlt : g < w.heap.size := by
      by_cases hg : g < w.heap.size
      · exact hg
      · rw [Array.getElem?_eq_none (by omega)] at hh; cases hh
    exact .inr ⟨g, cap, cur, rfl, hb, (e g rfl hb hlt).trans hh, hr⟩
theorem KApp.at {lo hi : Nat} {w w' : World} {v : Value} {xs : List Int} (h : KApp lo hi w v xs) (hk : ∀ g, lo ≤ g → g < hi → g < w.heap.size → w'.heap[g]? = w.heap[g]?) : KApp lo hi w' v xs := by
  rcases h with h | ⟨h1, h2⟩
  · exact .inl h
  · exact .inr ⟨owns_at1 h1 fun g e hb hl => hk g hb (h2 g e) hl, h2⟩
theorem KApp.below {lo hi : Nat} {w w' : World} {v : Value} {xs : List Int} (h : KApp lo hi w v xs) (hb : Below w.heap.size w w') : KApp lo hi w' v xs := h.at fun g _ _ hg => hb.block g hg
theorem KApp.onlyP {lo hi : Nat} {w w' : World} {v : Value} {xs : List Int} {P : Nat → Prop} (h : KApp lo hi w v xs) (ho : OnlyP P w w') (hd : ∀ g, lo ≤ g → g < hi → ¬ P g) : KApp lo hi w' v xs := h.at fun g h1 h2 _ => ho.2.1 g (hd g h1 h2)
theorem KApp.of_owns {w : World} {base : Nat} {v : Value} {n : Nat} {xs : List Int} (h : w.ownsRow base 3 1 v n (kflat xs)) (hn : n = xs.length) : KApp base w.heap.size w v xs := by
  subst hn
  refine .inr ⟨h, fun g e => ?_⟩
  rcases h.2 with ⟨rfl, _⟩ | ⟨g', cap, cur, rfl, hb, hh, hr⟩
  · cases e
  · simp only [Value.ownBlock, Option.some.injEq] at e
    subst e
    by_cases hg : g' < w.heap.size
    · exact hg
    · rw [Array.getElem?_eq_none (by omega)] at hh; cases hh
/-- To each row of a row of rows one may append. -/
def QAppd (w : World) (v : Value) (xss : List (List Int)) (iv : Nat → Nat × Nat) : Prop := ∀ B n cap, v = .slice (some ⟨B, 0, none⟩) n cap → ∀ i, i < xss.length → ∀ u, w.cell? ⟨B, i, none⟩ = some u → KApp (iv i).1 (iv i).2 w u (xss.getD i [])
theorem QAppd.below {w w' : World} {c : Nat × Nat} {v : Value} {xss : List (List Int)} {iv : Nat → Nat × Nat} (h : QAppd w v xss iv) (hq : QRow w c v xss iv) (hb : Below w.heap.size w w') : QAppd w' v xss iv := by
  intro B n cap e i hi u hc
  obtain ⟨_, hq⟩ := hq
  rcases hq with ⟨a', cap', e', e''⟩ | ⟨B', cap', us, e', hg', hf⟩
  · rw [e''] at hi; simp at hi
  · rw [e] at e'
    cases e'
    have hlt := lt_of_cell (hf i hi).1
    rw [World.cell?_of_block (a := ⟨B, i, none⟩) (hb.block B hlt)] at hc
    exact (h B _ _ e i hi u hc).below hb
theorem qmade_app (w : World) (n : Nat) (xss : List (List Int)) (hx : xss.length = n) : QAppd (w.alloc (.cells (madeCells #[.slice none 0 0] n) 48)) (.slice (some ⟨w.heap.size, 0, none⟩) n n) (qpart xss 0) (fun _ => (w.heap.size + 1, w.heap.size + 1)) := by
  intro B m cap e i hi u hc
  cases e
  rw [length_qpart] at hi
  rw [World.cell?_alloc_new] at hc
  have hu : u = .slice none 0 0 := by
    have hlt : i < n := by omega
    simp [madeCells, hlt, Nat.mod_one] at hc
    exact hc.symm
  rw [qpart_get _ _ _ hi, if_neg (by omega), hu]
  exact .inl ⟨rfl, _, rfl⟩
end Go.Proofs.Ytflhlinkolbbiae
namespace Go.Proofs.Ytflhlinkolbbiae
open Go.RowKit

set_option maxHeartbeats 1000000 in
theorem kclone_any (v : Value) (xs : List Int) (w : World) (hr : KReads w v xs) (hx : xs.length ≤ 1000) :
    Calls Try.prog 116 #[v] w fun e w' => ∃ u, e = .returned u ∧ KOwn w.heap.size w'.heap.size w' u xs ∧ KApp w.heap.size w'.heap.size w' u xs ∧ Below w.heap.size w w' := by
  have HR := hid hr
  obtain ⟨a, cap, rfl, hl, hxa⟩ := hr
  have hE : ∀ (a : Option Addr) (n c : Nat) (w' : World), (binOp .eql 48 (.slice a n c) (.slice none 0 0)).run Try.prog w' = .ok (.bool a.isNone) w' := fun a n c w' => Lib.run_eql_slice_nil w' 48 _ a n c 0 0 Try.underlying48
  cases a with
  | none =>
    have h0 : xs = [] := by
      rcases hxa with h | ⟨b, off, e, _⟩
      · exact h
      · cases e
    subst h0
    have hE1 := hE none 0 cap
    simp only [Option.isNone_none] at hE1
    clear hE hxa
    go_enter Try.func116, Try.ntmps116
    go_wp2
    go_ret
    exact ⟨_, rfl, kown_nil _ _ _ _ _, .inl ⟨rfl, _, rfl⟩, Below.refl _ _⟩
  | some a =>
    have b0 : Below w.heap.size w (w.alloc (.cells #[] 3)) := (Below.refl _ _).alloc (Nat.le_refl _) _
    obtain ⟨v', w', hrun, hown, hgr, hat⟩ := append_reads (w.alloc (.cells #[] 3)) w.heap.size (.slice (some ⟨w.heap.size, 0, none⟩) 0 0) 0 [] (World.ownsRow_lit w #[] 0 (Nat.le_refl _) (by decide) rfl) (.slice (some a) xs.length cap) xs (HR.out.below b0) (by omega) (by simp) 48
    have HKA : Hid (KApp w.heap.size w'.heap.size w' v' xs) := by
      rw [Nat.zero_add, List.nil_append] at hown
      exact KApp.of_owns hown rfl
    have HK : Hid (KOwn w.heap.size w'.heap.size w' v' xs) := by
      rw [Nat.zero_add, List.nil_append] at hown
      exact KOwn.of_owns hown (by omega)
    have HB : Hid (Below w.heap.size w w') := b0.grown hgr (by simp) (fun m hm => by cases hm; exact Nat.le_refl _)
    obtain ⟨n, hn⟩ : ∃ n, n = xs.length := ⟨_, rfl⟩
    rw [← hn] at hrun ⊢
    have hE1 := hE (some a) n cap
    simp only [Option.isNone_some] at hE1
    clear hE hxa hown hgr hat b0 hl hx hn
    go_enter Try.func116, Try.ntmps116
    go_wp2_with (at_builtin; refine Lib.wpList_append_run_sl _ rfl _ _ 48 rfl _ _ rfl rfl hrun ?_)
    go_ret
    exact ⟨_, rfl, HK.out, HKA.out, HB.out⟩
end Go.Proofs.Ytflhlinkolbbiae
