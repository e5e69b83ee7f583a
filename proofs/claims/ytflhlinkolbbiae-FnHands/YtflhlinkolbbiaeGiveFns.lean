/-
  What GiveInOrder and GiveLongest answer: plain arithmetic, no program.
  The key of a chore, and the closure that compares by it. Nothing is written.
-/
import Derived.Test.YtflhlinkolbbiaeHandFns
import Derived.Test.YtflhlinkolbbiaeICmp6
import Derived.Deep.QuietTactic
import Derived.BigQuiet
namespace Go.Proofs.Ytflhlinkolbbiae
open Go.RowKit

/-- What is given by an order. -/
def givesN (ls : List Nat) (H : Nat) (ks : List Nat) : List Nat := (giveP ls H ks ks.length).2
theorem gives_given (ls : List Nat) {H : Nat} (hH : 1 ≤ H) (ks : List Nat) : Given ls (givesN ls H ks) H := ⟨giveP_len2 ls H ks _, fun k _ => giveP_lt ls hH ks _ k⟩
/-- The key by which the longest come first. -/
def keyL (ls : List Nat) (k : Nat) : Int := -((ls.getD k 0 : Nat) : Int)
def longK (ls : List Nat) : List Nat := byEnd (keyL ls) ls.length
theorem longK_len (ls : List Nat) : (longK ls).length = ls.length := byEnd_len _ _
theorem longK_perm (ls : List Nat) : (longK ls).Perm (List.range ls.length) := byEnd_perm _ _
theorem longK_lt (ls : List Nat) : ∀ k, k ∈ longK ls → k < ls.length := fun _ hk => List.mem_range.1 ((longK_perm ls).mem_iff.1 hk)
/-- From the longest on. -/
theorem longK_down (ls : List Nat) : ∀ a k b, longK ls = a ++ k :: b → ∀ x, x ∈ a → ls.getD k 0 ≤ ls.getD x 0 := by
  intro a k b e x hx
  have := byEnd_ends (keyL ls) ls.length
  rw [show byEnd (keyL ls) ls.length = a ++ k :: b from e, List.pairwise_append] at this
  have := this.2.2 x hx k (List.mem_cons_self ..)
  unfold keyL at this
  omega
theorem rangeK_lt (n : Nat) : ∀ k, k ∈ List.range n → k < n := fun _ hk => List.mem_range.1 hk
/-- What is told, of chores in Int. -/
def giL (f : List Nat → List Nat) (xs : List Int) (h : Int) : List Int := if chB xs h = true then ofN (givesN (xs.map Int.toNat) h.toNat (f (xs.map Int.toNat))) else []
def giN (f : List Nat → List Nat) (xs : List Int) (h : Int) : Int := if chB xs h = true then ((spanN (xs.map Int.toNat) (givesN (xs.map Int.toNat) h.toNat (f (xs.map Int.toNat))) h.toNat : Nat) : Int) else 0
theorem toNat_ofN' (ls : List Nat) : (ofN ls).map Int.toNat = ls := by
  induction ls with
  | nil => rfl
  | cons x ls ih => simp only [ofN, List.map_cons, List.map_map] at ih ⊢; rw [ih]; simp
theorem giL_yes (f : List Nat → List Nat) {ls : List Nat} {H : Nat} (hc : Chores ls H) : giL f (ofN ls) (H : Nat) = ofN (givesN ls H (f ls)) := by
  unfold giL
  rw [if_pos (chores_good hc), toNat_ofN', Int.toNat_natCast]
theorem giN_yes (f : List Nat → List Nat) {ls : List Nat} {H : Nat} (hc : Chores ls H) : giN f (ofN ls) (H : Nat) = ((spanN ls (givesN ls H (f ls)) H : Nat) : Int) := by
  unfold giN
  rw [if_pos (chores_good hc), toNat_ofN', Int.toNat_natCast]
theorem giL_no (f : List Nat → List Nat) {xs : List Int} {h : Int} (hc : chB xs h = false) : giL f xs h = [] := by unfold giL; rw [hc]; rfl
theorem giN_no (f : List Nat → List Nat) {xs : List Int} {h : Int} (hc : chB xs h = false) : giN f xs h = 0 := by unfold giN; rw [hc]; rfl
theorem giL_len (f : List Nat → List Nat) (xs : List Int) (h : Int) : (giL f xs h).length ≤ 1048576 := by
  cases hc : chB xs h with
  | false => rw [giL_no f hc]; simp
  | true =>
    obtain ⟨ls, H, rfl, rfl, hg⟩ := chores_of hc
    rw [giL_yes f hg, List.length_map, (gives_given ls hg.h0 (f ls)).len]
    have := hg.few
    omega
def rangeF (ls : List Nat) : List Nat := List.range ls.length
end Go.Proofs.Ytflhlinkolbbiae
namespace Go.Proofs.Ytflhlinkolbbiae
open Go.RowKit

theorem keyC_any (bl : Nat) (a : Option Addr) (n cap : Nat) (ls : List Nat) (hs : ∀ k, k < ls.length → ls.getD k 0 ≤ 50) (k : Nat) (w : World) (hn : (ofN ls).length = n) (hk : k < n) (cb : w.cell? ⟨bl, 0, none⟩ = some (.slice a n cap)) (hr : KReads w (.slice a n cap) (ofN ls)) :
    Calls Try.prog 113 #[.int .i64 (k : Nat), .pointer (some ⟨bl, 0, none⟩)] w fun e w' => e = .returned (.int .i64 (keyL ls k)) ∧ w' = w := by
  obtain ⟨g, o, cap', e, hc⟩ := hr.cells k (by rw [hn]; exact hk)
  rw [hn] at e
  cases e
  have c0 := hc k (by rw [hn]; exact hk)
  rw [ofN_at] at c0
  have hsz := hs k (by rw [List.length_map] at hn; omega)
  obtain ⟨p, hp⟩ : ∃ p, p = ls.getD k 0 := ⟨_, rfl⟩
  rw [← hp] at c0 hsz
  have HQ : Hid (keyL ls k = -(p : Int)) := by show _ = _; unfold keyL; rw [← hp]
  have hw1 : IntKind.i64.wrap (-(p : Int)) = -(p : Int) := by rw [IntKind.wrap_i64]; omega
  have n0 : (0 : Int) ≤ (k : Int) := by omega
  have n1 : (k : Int) < (n : Int) := by omega
  clear hp hc hr hn hs
  have C0 : w.cell? ⟨g, o + k, none⟩ = some (.int .i64 (p : Nat)) := c0
  clear c0
  go_enter Try.func113, Try.ntmps113
  go_wp2
  go_ret
  exact ⟨by rw [HQ.out]; rfl, rfl⟩
set_option maxHeartbeats 2000000 in
theorem cmpC_any (bk bl : Nat) (a : Option Addr) (n cap : Nat) (ls : List Nat) (hs : ∀ k, k < ls.length → ls.getD k 0 ≤ 50) (i j : Nat) (w : World) (hn : (ofN ls).length = n) (hi : i < n) (hj : j < n) (ck : w.cell? ⟨bk, 0, none⟩ = some (.func (.func 113) #[] #[.pointer (some ⟨bl, 0, none⟩)])) (cb : w.cell? ⟨bl, 0, none⟩ = some (.slice a n cap)) (hr : KReads w (.slice a n cap) (ofN ls)) :
    Calls Try.prog 124 #[.int .i64 (i : Nat), .int .i64 (j : Nat), .pointer (some ⟨bk, 0, none⟩)] w fun e w' => e = .returned (.int .i64 (cmpI5 (keyL ls i) (keyL ls j))) ∧ ∃ q, w' = w.drewN q := by
  have HR := hid hr
  have HN := hid hn
  have CB := hid cb
  have HSm := hid hs
  clear hr hn cb hs
  go_enter Try.func124, Try.ntmps124
  go_wp2_with fail
  go_quiet (first
    | (go_at_call 125; exact Calls.quiet_of_same (compare5_any _ _ _))
    | (refine Calls.quiet_of_same (keyC_any bl a n cap ls HSm.out _ _ HN.out ?_ CB.out HR.out); first | exact hi | exact hj))
  go_wp2
  go_ret
  exact ⟨rfl, _, rfl⟩
/-- The closure in whatever world has all but block g as it was. -/
theorem keyInC (g bk bl : Nat) (a : Option Addr) (n cap : Nat) (ls : List Nat) (hs : ∀ k, k < ls.length → ls.getD k 0 ≤ 50) (w0 : World) (hn : (ofN ls).length = n) (h1 : bk ≠ g) (h2 : bl ≠ g) (ck : w0.cell? ⟨bk, 0, none⟩ = some (.func (.func 113) #[] #[.pointer (some ⟨bl, 0, none⟩)])) (cb : w0.cell? ⟨bl, 0, none⟩ = some (.slice a n cap)) (hr : ∀ w, But (fun k => k = g) w0 w → KReads w (.slice a n cap) (ofN ls)) :
    KeyIn g w0 bk n (keyL ls) := fun w hb i j hi hj =>
  cmpC_any bk bl a n cap ls hs i j w hn hi hj ((hb.cell (p := ⟨bk, 0, none⟩) h1 (lt_of_cell ck)).trans ck) ((hb.cell (p := ⟨bl, 0, none⟩) h2 (lt_of_cell cb)).trans cb) (hr w hb)
end Go.Proofs.Ytflhlinkolbbiae
