/-
  Bursts: which bytes turn, and which rows they are of. Plain arithmetic.
-/
import Derived.Test.YthmkeinhjlmgmadPcMath
import Derived.Test.YthmkeinhjlmgmadHitMath
namespace Go.Proofs.Ythmkeinhjlmgmad

/-- The bytes with k of them from f on turned. -/
def buL (s : ByteArray) (f k : Nat) : List UInt8 := (List.range s.size).map fun j => if f ≤ j ∧ j < f + k then bt s j ^^^ 255 else bt s j
theorem length_buL (s : ByteArray) (f k : Nat) : (buL s f k).length = s.size := by simp [buL]
theorem buL_get (s : ByteArray) (f k j : Nat) (h : j < s.size) : (buL s f k).getD j 0 = if f ≤ j ∧ j < f + k then bt s j ^^^ 255 else bt s j := by simp [buL, List.getD_eq_getElem?_getD, h]
def buB (s : ByteArray) (frm long : Int) : Bool := withB s.size frm long
def buT (s : ByteArray) (frm long : Int) : ByteArray := if buB s frm long then ⟨(buL s frm.toNat long.toNat).toArray⟩ else ByteArray.empty
theorem buT_size (s : ByteArray) (f k : Nat) : (⟨(buL s f k).toArray⟩ : ByteArray).size = s.size := by show (buL s f k).toArray.size = _; simp [length_buL]
theorem flip_ne (x : UInt8) : x ^^^ 255 ≠ x := by
  intro h
  have := congrArg UInt8.toNat h
  rw [UInt8.toNat_xor] at this
  have h2 : x.toNat ^^^ (255 : UInt8).toNat ^^^ x.toNat = x.toNat ^^^ x.toNat := by rw [this]
  rw [Nat.xor_self, Nat.xor_comm, ← Nat.xor_assoc, Nat.xor_self, Nat.zero_xor] at h2
  exact absurd h2 (by decide)
/-- What is written back differs just where the burst was. -/
theorem back_differs (s : ByteArray) (d w f k j : Nat) (hj : j < w * d) :
    (bt ⟨(colsL ⟨(buL ⟨(colsL s d w).toArray⟩ f k).toArray⟩ w d).toArray⟩ j ≠ bt s j) ↔ f ≤ j % w * d + j / w ∧ j % w * d + j / w < f + k := by
  have hj' : j < d * w := by rw [Nat.mul_comm]; exact hj
  have hi := fwd_lt j w d hj'
  have hsz : (⟨(colsL s d w).toArray⟩ : ByteArray).size = w * d := by show (colsL s d w).toArray.size = _; simp [length_colsL]
  have hi2 : j % w * d + j / w < w * d := by rw [Nat.mul_comm w d]; exact hi
  have e1 : bt ⟨(colsL s d w).toArray⟩ (j % w * d + j / w) = bt s j := by rw [bt_list, colsL_get s d w _ hi2, fwd_back j w d hj']
  rw [bt_list, colsL_get _ w d j hj', bt_list, buL_get _ f k _ (by rw [hsz]; exact hi2), e1]
  by_cases hc : f ≤ j % w * d + j / w ∧ j % w * d + j / w < f + k
  · rw [if_pos hc]; exact ⟨fun _ => hc, fun _ => flip_ne _⟩
  · rw [if_neg hc]; exact ⟨fun h => absurd rfl h, fun h => absurd h hc⟩
/-- How many of the first c of a row are hit. -/
def cntR (d f k r : Nat) : Nat → Nat
  | 0 => 0
  | c + 1 => cntR d f k r c + (if f ≤ c * d + r ∧ c * d + r < f + k then 1 else 0)
theorem cntR_none (d f k r : Nat) : ∀ c, (∀ i, i < c → ¬ (f ≤ i * d + r ∧ i * d + r < f + k)) → cntR d f k r c = 0
  | 0, _ => rfl
  | c + 1, h => by rw [cntR, cntR_none d f k r c (fun i hi => h i (by omega)), if_neg (h c (by omega))]
theorem cntR_le (d f k r : Nat) (hk : k ≤ d) : ∀ c, cntR d f k r c ≤ 1
  | 0 => by simp [cntR]
  | c + 1 => by
    rw [cntR]
    by_cases hc : f ≤ c * d + r ∧ c * d + r < f + k
    · rw [if_pos hc, cntR_none d f k r c fun i hi hcon => by
        have h1 : (i + 1) * d ≤ c * d := Nat.mul_le_mul_right d hi
        rw [Nat.add_mul, Nat.one_mul] at h1
        omega]
      exact Nat.le_refl _
    · rw [if_neg hc]
      exact cntR_le d f k r hk c
theorem cntR_pos (d f k r : Nat) : ∀ c, 0 < cntR d f k r c ↔ ∃ i, i < c ∧ f ≤ i * d + r ∧ i * d + r < f + k
  | 0 => by simp [cntR]
  | c + 1 => by
    rw [cntR]
    have ih := cntR_pos d f k r c
    by_cases hc : f ≤ c * d + r ∧ c * d + r < f + k
    · rw [if_pos hc]
      exact ⟨fun _ => ⟨c, by omega, hc⟩, fun _ => by omega⟩
    · rw [if_neg hc, Nat.add_zero, ih]
      constructor
      · rintro ⟨i, hi, h⟩; exact ⟨i, by omega, h⟩
      · rintro ⟨i, hi, h⟩
        refine ⟨i, ?_, h⟩
        rcases Nat.lt_or_ge i c with h' | h'
        · exact h'
        · exact absurd (by rw [show i = c by omega] at h; exact h) hc
/-- A row is hit just where one of its bytes is. -/
theorem cntR_hit (d f k r w : Nat) (hr : r < d) (hfk : f + k ≤ w * d) : 0 < cntR d f k r w ↔ hitU d f k r = true := by
  rw [cntR_pos, hitU_iff]
  have hd : 0 < d := Nat.lt_of_le_of_lt (Nat.zero_le _) hr
  constructor
  · rintro ⟨c, hc, h1, h2⟩
    refine ⟨c * d + r - f, by omega, ?_⟩
    rw [show f + (c * d + r - f) = d * c + r by rw [Nat.mul_comm d c]; omega, Nat.mul_add_mod, Nat.mod_eq_of_lt hr]
  · rintro ⟨i, hi, h⟩
    refine ⟨(f + i) / d, ?_, ?_⟩
    · rw [Nat.div_lt_iff_lt_mul hd]; omega
    · have := Nat.div_add_mod (f + i) d
      rw [h, Nat.mul_comm] at this
      omega
/-- A burst no longer than rows are many hits no row twice. -/
theorem rows_many (d f l : Nat) (hl : l ≤ d) (hd : 0 < d) : (rowsU d f l d).length = l := by
  have hnd : (List.map (fun i => (((f + i) % d : Nat) : Int)) (List.range l)).Nodup := by
    rw [List.nodup_iff_pairwise_ne, List.pairwise_map]
    refine List.Pairwise.imp_of_mem ?_ List.pairwise_lt_range
    intro a b ha hb hab he
    have ha := List.mem_range.1 ha
    have hb := List.mem_range.1 hb
    have he' : (f + a) % d = (f + b) % d := by omega
    have h1 := Nat.div_add_mod (f + a) d
    have h2 := Nat.div_add_mod (f + b) d
    rw [he'] at h1
    have h3 : d * ((f + a) / d) < d * ((f + b) / d) := by omega
    have h4 : (f + a) / d < (f + b) / d := Nat.lt_of_mul_lt_mul_left h3
    have h5 : d * ((f + a) / d + 1) ≤ d * ((f + b) / d) := Nat.mul_le_mul_left d h4
    rw [Nat.mul_add, Nat.mul_one] at h5
    omega
  have hnr : (rowsU d f l d).Nodup := by
    rw [List.nodup_iff_pairwise_ne]
    exact (rowsU_rising d f l d).imp fun h => by omega
  have hp : (rowsU d f l d).Perm (List.map (fun i => (((f + i) % d : Nat) : Int)) (List.range l)) := by
    rw [List.perm_ext_iff_of_nodup hnr hnd]
    intro x
    rw [rowsU_mem, List.mem_map]
    constructor
    · rintro ⟨k, rfl, hk, h⟩
      obtain ⟨i, hi, e⟩ := (hitU_iff d f l k).1 h
      exact ⟨i, List.mem_range.2 hi, by rw [e]⟩
    · rintro ⟨i, hi, rfl⟩
      exact ⟨(f + i) % d, rfl, Nat.mod_lt _ hd, (hitU_iff d f l _).2 ⟨i, List.mem_range.1 hi, rfl⟩⟩
  rw [hp.length_eq]
  simp
theorem rows_has (d f l r : Nat) (hr : r < d) : (rowsU d f l d).contains (r : Int) = hitU d f l r := by
  rw [Bool.eq_iff_iff, List.contains_iff_mem, rowsU_mem]
  constructor
  · rintro ⟨k, e, _, h⟩
    rw [show r = k by omega]
    exact h
  · intro h
    exact ⟨r, rfl, hr, h⟩
end Go.Proofs.Ythmkeinhjlmgmad
