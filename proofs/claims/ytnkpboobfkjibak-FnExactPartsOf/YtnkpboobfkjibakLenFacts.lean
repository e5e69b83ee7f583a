/-
  Plain facts on good spans. No program.
  What the law of spans asks, in plain arithmetic. No program.
-/
import Derived.Test.YtnkpboobfkjibakSpanMath
import Derived.Test.YtnkpboobfkjibakCutMath
namespace Go.Proofs.Ytnkpboobfkjibak

theorem good_chain {xs : List Sp} (h : goodL xs = true) : chainB (-1) xs = true := by
  unfold goodL at h
  rw [Bool.and_eq_true] at h
  exact h.1
theorem good_len {xs : List Sp} (h : goodL xs = true) : xs.length ≤ 20 := by
  unfold goodL at h
  rw [Bool.and_eq_true] at h
  simpa using h.2
end Go.Proofs.Ytnkpboobfkjibak
namespace Go.Proofs.Ytnkpboobfkjibak

theorem good_mk {l : List Sp} (h : chainB (-1) l = true) (hl : l.length ≤ 20) : goodL l = true := by
  unfold goodL
  rw [h, Bool.true_and]
  simpa using hl
theorem len_sum {a b : List Sp} (ha : chainB (-1) a = true) (hb : chainB (-1) b = true) : lenL (joinL a b) + lenL (meetL a b) = lenL a + lenL b := by
  rw [← len_cnt (joinL_chain ha hb) (by omega), ← len_cnt (meetL_chain ha hb) (by omega), ← len_cnt ha (by omega), ← len_cnt hb (by omega)]
  rw [cnt_congr (hasL (joinL a b)) (fun n => hasL a n || hasL b n) _ _ (fun n _ _ => joinL_has ha hb n), cnt_congr (hasL (meetL a b)) (fun n => hasL a n && hasL b n) _ _ (fun n _ _ => meetL_has a b n)]
  exact cnt_both _ _ _ _
theorem cut_add {t : List Sp} {s : Sp} (ht : chainB (-1) t = true) (hs : spB s = true) : cutF (addL t s) s = cutF t s := by
  have hs' := (spB_iff s).1 hs
  have ha := addL_chain ht hs (by omega)
  refine canon (cutF_chain ha hs'.2.1) (cutF_chain ht hs'.2.1) fun n => ?_
  rw [cutF_has _ _ hs'.2.1, cutF_has _ _ hs'.2.1, addL_has ht hs'.2.1]
  cases hasL t n <;> cases inB s n <;> rfl
end Go.Proofs.Ytnkpboobfkjibak
