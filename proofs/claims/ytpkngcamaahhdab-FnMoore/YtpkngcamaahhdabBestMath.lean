/-
  The most in time, set by set: each of a set may be its last. Plain arithmetic, no program.
-/
import Derived.Test.YtpkngcamaahhdabDoneMath
import Derived.Test.YtpkngcamaahhdabBits
namespace Go.Proofs.Ytpkngcamaahhdab

/-- The numbers below n of a set. -/
def memb (n m : Nat) : List Nat := (List.range n).filter m.testBit
theorem memb_nodup (n m : Nat) : (memb n m).Nodup := List.nodup_range.filter _
theorem memb_mem {n m k : Nat} : k ∈ memb n m ↔ k < n ∧ m.testBit k = true := by simp [memb, List.mem_filter]
/-- How many of an order are in time. -/
def cntT (p e : Nat → Int) (o : List Nat) : Nat := (o.filter fun k => decide (doneAt p 0 o k ≤ e k)).length
structure IsBest (p e : Nat → Int) (n m v : Nat) : Prop where
  one : ∃ o, o.Perm (memb n m) ∧ cntT p e o = v
  all : ∀ o, o.Perm (memb n m) → cntT p e o ≤ v
theorem cnt_snoc {p e : Nat → Int} {o : List Nat} {k : Nat} (h : k ∉ o) : cntT p e (o ++ [k]) = cntT p e o + if sumL p o + p k ≤ e k then 1 else 0 := by
  unfold cntT
  rw [List.filter_append, List.length_append]
  have e1 : o.filter (fun x => decide (doneAt p 0 (o ++ [k]) x ≤ e x)) = o.filter (fun x => decide (doneAt p 0 o x ≤ e x)) := by
    refine List.filter_congr fun x hx => ?_
    rw [doneAt_snoc 0 h, if_neg (fun e => h (by rw [e]; exact hx))]
  rw [e1]
  congr 1
  by_cases hc : sumL p o + p k ≤ e k
  · rw [if_pos hc, List.filter_cons_of_pos (by rw [decide_eq_true_eq, doneAt_snoc 0 h, if_pos rfl]; omega)]
    rfl
  · rw [if_neg hc, List.filter_cons_of_neg (by rw [decide_eq_true_eq, doneAt_snoc 0 h, if_pos rfl]; omega)]
    rfl
/-- A set without one of it. -/
def clr (m k : Nat) : Nat := m ^^^ 2 ^ k
theorem clr_bit (m k i : Nat) : (clr m k).testBit i = (m.testBit i ^^ decide (k = i)) := by simp [clr, Nat.testBit_xor, Nat.testBit_two_pow]
theorem clr_lt {m k : Nat} (h : m.testBit k = true) : clr m k < m := by
  have h1 : clr m k &&& m = clr m k := by
    apply Nat.eq_of_testBit_eq
    intro i
    rw [Nat.testBit_and, clr_bit]
    by_cases e : k = i
    · subst e; simp [h]
    · simp [e]
  have h2 : clr m k ≤ m := by rw [← h1]; exact Nat.and_le_right
  have h3 : clr m k ≠ m := fun e => by
    have := clr_bit m k k
    rw [e, h] at this
    simp at this
  omega
theorem memb_clr {n m k : Nat} (hk : k < n) (hb : m.testBit k = true) : (memb n (clr m k) ++ [k]).Perm (memb n m) := by
  have hno : k ∉ memb n (clr m k) := fun h => by
    have := (memb_mem.1 h).2
    rw [clr_bit, hb] at this
    simp at this
  refine (List.perm_ext_iff_of_nodup ?_ (memb_nodup n m)).2 fun i => ?_
  · rw [List.nodup_append]
    refine ⟨memb_nodup _ _, by simp, fun a ha b hb' e => hno ?_⟩
    rw [List.mem_singleton] at hb'
    have e' : a = k := e.trans hb'
    exact e' ▸ ha
  · rw [List.mem_append, memb_mem, memb_mem, List.mem_singleton, clr_bit]
    by_cases e : i = k
    · subst e
      simp [hk, hb]
    · rw [decide_eq_false (fun h => e h.symm), Bool.xor_false]
      simp [e]
theorem best_step {p e : Nat → Int} {n m : Nat} (vs : Nat → Nat) (hv : ∀ k, k ∈ memb n m → IsBest p e n (clr m k) (vs k)) {r : Nat}
    (h1 : ∃ k, k ∈ memb n m ∧ vs k + (if sumL p (memb n m) ≤ e k then 1 else 0) = r) (h2 : ∀ k, k ∈ memb n m → vs k + (if sumL p (memb n m) ≤ e k then 1 else 0) ≤ r) : IsBest p e n m r := by
  constructor
  · obtain ⟨k, hk, hr⟩ := h1
    obtain ⟨o, ho, hc⟩ := (hv k hk).one
    have hp := memb_clr (memb_mem.1 hk).1 (memb_mem.1 hk).2
    have hp2 : (o ++ [k]).Perm (memb n m) := (ho.append_right [k]).trans hp
    have hno : k ∉ o := fun h => by
      have := memb_mem.1 (ho.mem_iff.1 h)
      rw [clr_bit, (memb_mem.1 hk).2] at this
      simp at this
    refine ⟨o ++ [k], hp2, ?_⟩
    have hs : sumL p o + p k = sumL p (memb n m) := by
      have := sumL_perm (p := p) hp2
      rw [sumL_app] at this
      simp only [sumL] at this
      omega
    rw [cnt_snoc hno, hc, hs]
    exact hr
  · intro o ho
    have hne : o ≠ [] := by
      rintro rfl
      obtain ⟨k, hk, _⟩ := h1
      have := ho.length_eq
      rw [List.length_nil] at this
      rw [List.eq_nil_of_length_eq_zero this.symm] at hk
      cases hk
    have hcut := List.dropLast_concat_getLast hne
    obtain ⟨o', ho'⟩ : ∃ o', o' = o.dropLast := ⟨_, rfl⟩
    obtain ⟨k, hk⟩ : ∃ k, k = o.getLast hne := ⟨_, rfl⟩
    rw [← ho', ← hk] at hcut
    rw [← hcut] at ho ⊢
    have hkm : k ∈ memb n m := ho.mem_iff.1 (by simp)
    have hnd : (o' ++ [k]).Nodup := ho.nodup_iff.2 (memb_nodup n m)
    have hno : k ∉ o' := fun h => (List.nodup_append.1 hnd).2.2 k h k (by simp) rfl
    have hp := memb_clr (memb_mem.1 hkm).1 (memb_mem.1 hkm).2
    have hpp : o'.Perm (memb n (clr m k)) := (List.perm_append_right_iff [k]).1 (ho.trans hp.symm)
    have hs : sumL p o' + p k = sumL p (memb n m) := by
      have := sumL_perm (p := p) ho
      rw [sumL_app] at this
      simp only [sumL] at this
      omega
    rw [cnt_snoc hno, hs]
    have := (hv k hkm).all o' hpp
    have := h2 k hkm
    omega
theorem best_zero (p e : Nat → Int) (n : Nat) : IsBest p e n 0 0 := by
  have hm : memb n 0 = [] := by simp [memb]
  constructor
  · exact ⟨[], by rw [hm], rfl⟩
  · intro o ho
    rw [hm] at ho
    rw [ho.eq_nil]
    exact Nat.le_refl _
theorem memb_full (n : Nat) : memb n (2 ^ n - 1) = List.range n := by
  unfold memb
  rw [List.filter_eq_self]
  intro k hk
  rw [Nat.testBit_two_pow_sub_one, decide_eq_true_eq]
  exact List.mem_range.1 hk
theorem cnt_late {p e : Nat → Int} {n : Nat} {o : List Nat} (ho : o.Perm (List.range n)) : cntT p e o + lateT p e n o = n := by
  have h1 : cntT p e o = ((List.range n).filter fun k => decide (doneAt p 0 o k ≤ e k)).length := (ho.filter _).length_eq
  have h2 := filter_both (fun k => decide (doneAt p 0 o k ≤ e k)) (List.range n)
  have h3 : (List.range n).filter (fun k => !decide (doneAt p 0 o k ≤ e k)) = (List.range n).filter (fun k => decide (e k < doneAt p 0 o k)) := by
    refine List.filter_congr fun k _ => ?_
    rw [Bool.eq_iff_iff]
    simp only [Bool.not_eq_true', decide_eq_false_iff_not, decide_eq_true_eq]
    omega
  rw [h3, List.length_range] at h2
  unfold lateT
  omega
theorem best_full {xs : List TkEl} (hg : goodT xs = true) {v : Nat} (h : IsBest (needT xs) (endT xs) xs.length (2 ^ xs.length - 1) v) : v = (mooreL xs).1.length := by
  have h1 := h.one
  have h2 := h.all
  rw [memb_full] at h1 h2
  obtain ⟨o, ho, hc⟩ := h1
  have h3 := cnt_late (p := needT xs) (e := endT xs) ho
  have h4 := mooreL_ge hg ho
  have h5 := h2 _ (mooreL_perm hg)
  have h6 := cnt_late (p := needT xs) (e := endT xs) (mooreL_perm hg)
  have h7 := mooreL_late hg
  omega
theorem best_le {p e : Nat → Int} {n m v : Nat} (h : IsBest p e n m v) : v ≤ n := by
  obtain ⟨o, ho, hc⟩ := h.one
  have h1 : cntT p e o ≤ o.length := List.length_filter_le _ _
  have h2 := ho.length_eq
  have h3 : (memb n m).length ≤ (List.range n).length := List.length_filter_le _ _
  rw [List.length_range] at h3
  omega
theorem bit_no (m x : Nat) (hm : m ≤ 1024) : (bits .and .i64 ((m : Int) / 2 ^ x) 1 == 0) = !m.testBit x := by
  have e : ((m : Int) / 2 ^ x) = ((m / 2 ^ x : Nat) : Int) := by simp
  have hlt : m / 2 ^ x < 9223372036854775808 := Nat.lt_of_le_of_lt (Nat.div_le_self _ _) (by omega)
  rw [e, show (1 : Int) = ((1 : Nat) : Int) from rfl, bits_and_i64 _ _ hlt (by omega), Nat.and_one_is_mod, Nat.testBit_eq_decide_div_mod_eq, Bool.eq_iff_iff]
  simp only [beq_iff_eq, Bool.not_eq_true', decide_eq_false_iff_not]
  omega
theorem bits_clr (m k : Nat) (hm : m < 1024) (h : m.testBit k = true) : bits .andNot .i64 (m : Int) ((2 ^ k : Nat) : Int) = ((clr m k : Nat) : Int) := by
  have hlt := clr_lt h
  have hk : k < 10 := by
    rcases Nat.lt_or_ge k 10 with h' | h'
    · exact h'
    · have : m < 2 ^ k := Nat.lt_of_lt_of_le hm (Nat.le_trans (by decide : 1024 ≤ 2 ^ 10) (Nat.pow_le_pow_right (by omega) h'))
      rw [Nat.testBit_lt_two_pow this] at h
      cases h
  have e : (BitVec.ofInt 64 (m : Int) &&& ~~~ BitVec.ofInt 64 ((2 ^ k : Nat) : Int)).toNat = clr m k := by
    apply Nat.eq_of_testBit_eq
    intro i
    rw [BitVec.testBit_toNat, BitVec.getLsbD_and, BitVec.getLsbD_not, BitVec.ofInt_natCast, BitVec.ofInt_natCast, BitVec.getLsbD_ofNat, BitVec.getLsbD_ofNat, Nat.testBit_two_pow, clr_bit]
    by_cases hi : i < 64
    · by_cases hik : k = i
      · subst hik
        simp [h]
      · simp [hi, hik]
    · have : m.testBit i = false := Nat.testBit_lt_two_pow (Nat.lt_of_lt_of_le (by omega : m < 2 ^ 64) (Nat.pow_le_pow_right (by omega) (by omega)))
      have h2 : ¬ k = i := by omega
      simp [hi, this, h2]
  show IntKind.i64.wrap (((BitVec.ofInt 64 (m : Int) &&& ~~~ BitVec.ofInt 64 ((2 ^ k : Nat) : Int)).toNat : Nat) : Int) = _
  rw [e, IntKind.wrap_i64]
  omega
end Go.Proofs.Ytpkngcamaahhdab
