/-
  Turns as plain words: whether they are good, what a turn does. No program.
  What was sent and what waits, added up: plain words. No program.
  impl.wrongQuantum, slices.ContainsFunc with it, impl.goodQuanta: whether quanta are as the document says. Nothing is written.
  impl.wrongPacket: whether a packet is as the document says. Nothing is written.
-/
import Derived.Test.YtepnhbicmlfnhacBoxL
import Derived.Test.YtepnhbicmlfnhacFlowFns
import Derived.Test.YtepnhbicmlfnhacKIntRows
namespace Go.Proofs.Ytepnhbicmlfnhac

def newOk (xs : List Int) : Bool := decide (1 ≤ (xs.length : Int) ∧ (xs.length : Int) ≤ 4) && xs.all fun x => decide (20 ≤ x ∧ x ≤ 100)
def gt1 (D : TuD) : Bool := decide (1 ≤ (D.f0.length : Int) ∧ (D.f0.length : Int) ≤ 4)
def gt2 (D : TuD) : Bool := D.f0.all fun x => decide (20 ≤ x ∧ x ≤ 100)
def gt3 (D : TuD) : Bool := decide (D.f1.length = D.f0.length)
def gt4 (D : TuD) : Bool := decide (D.f2.length = D.f0.length)
def gt5 (D : TuD) : Bool := decide (D.f3.length = D.f0.length)
def gt6 (D : TuD) : Bool := D.f2.all fun x => decide (0 ≤ x ∧ x ≤ 19)
def gt7 (D : TuD) : Bool := D.f3.all fun x => decide (0 ≤ x ∧ x ≤ 1000000)
def gt8 (D : TuD) : Bool := decide (0 ≤ D.f4 ∧ D.f4 ≤ (D.f0.length : Int) - 1)
/-- A queue is as said, and has no credit where nothing waits. -/
def qokT (D : TuD) (k : Nat) : Bool := decide ((D.f1.getD k []).length ≤ 30) && ((D.f1.getD k []).all (fun x => decide (1 ≤ x ∧ x ≤ 20)) && (decide (0 < (D.f1.getD k []).length) || decide (D.f2.getD k 0 = 0)))
def gt9 (D : TuD) : Bool := (List.range D.f1.length).all (qokT D)
def goodTu (D : TuD) : Bool := gt1 D && (gt2 D && (gt3 D && (gt4 D && (gt5 D && (gt6 D && (gt7 D && (gt8 D && gt9 D)))))))
theorem gt9_no {D : TuD} {k : Nat} (hk : k < D.f1.length) (h : qokT D k = false) : gt9 D = false := by
  cases e : gt9 D with
  | false => rfl
  | true =>
    unfold gt9 at e
    rw [List.all_eq_true] at e
    have := e k (List.mem_range.2 hk)
    rw [h] at this
    cases this
theorem gt9_yes {D : TuD} (h : ∀ k, k < D.f1.length → qokT D k = true) : gt9 D = true := by
  unfold gt9
  rw [List.all_eq_true]
  exact fun k hk => h k (List.mem_range.1 hk)
end Go.Proofs.Ytepnhbicmlfnhac
namespace Go.Proofs.Ytepnhbicmlfnhac

def totT (D : TuD) : Int := psum (fl D.f3) D.f3.length
def rowT (D : TuD) (i : Nat) : Int := psum (fl (D.f1.getD i [])) (D.f1.getD i []).length
def waitT (D : TuD) : Int := psum (rowT D) D.f1.length
structure GoodT (D : TuD) : Prop where
  n : 1 ≤ D.f0.length ∧ D.f0.length ≤ 4
  q : ∀ i, i < D.f0.length → 20 ≤ fl D.f0 i ∧ fl D.f0 i ≤ 100
  l1 : D.f1.length = D.f0.length
  l2 : D.f2.length = D.f0.length
  l3 : D.f3.length = D.f0.length
  c : ∀ i, 0 ≤ fl D.f2 i ∧ fl D.f2 i ≤ 19
  s : ∀ i, 0 ≤ fl D.f3 i ∧ fl D.f3 i ≤ 1000000
  at_ : 0 ≤ D.f4 ∧ D.f4 ≤ (D.f0.length : Int) - 1
  k : ∀ i, i < D.f1.length → (D.f1.getD i []).length ≤ 30 ∧ (∀ j, j < (D.f1.getD i []).length → 1 ≤ fl (D.f1.getD i []) j ∧ fl (D.f1.getD i []) j ≤ 20) ∧ ((D.f1.getD i []).length = 0 → fl D.f2 i = 0)
theorem all_fl {xs : List Int} {lo hi : Int} (h : (xs.all fun x => decide (lo ≤ x ∧ x ≤ hi)) = true) (i : Nat) (hi' : i < xs.length) : lo ≤ fl xs i ∧ fl xs i ≤ hi := by
  rw [List.all_eq_true] at h
  have := h (xs.getD i 0) (by rw [List.getD_eq_getElem?_getD, List.getElem?_eq_getElem hi']; exact List.getElem_mem _)
  rw [decide_eq_true_eq] at this
  exact this
theorem fl_out {xs : List Int} {i : Nat} (h : ¬ i < xs.length) : fl xs i = 0 := by
  unfold fl
  rw [List.getD_eq_getElem?_getD, List.getElem?_eq_none (by omega)]
  rfl
theorem goodT_of {D : TuD} (h : goodTu D = true) : GoodT D := by
  unfold goodTu at h
  simp only [Bool.and_eq_true] at h
  obtain ⟨h1, h2, h3, h4, h5, h6, h7, h8, h9⟩ := h
  unfold gt1 at h1
  unfold gt3 at h3
  unfold gt4 at h4
  unfold gt5 at h5
  unfold gt8 at h8
  rw [decide_eq_true_eq] at h1 h3 h4 h5 h8
  refine ⟨by omega, all_fl h2, h3, h4, h5, fun i => ?_, fun i => ?_, h8, fun i hi => ?_⟩
  · by_cases hi : i < D.f2.length
    · exact all_fl h6 i hi
    · rw [fl_out hi]; omega
  · by_cases hi : i < D.f3.length
    · exact all_fl h7 i hi
    · rw [fl_out hi]; omega
  · unfold gt9 at h9
    rw [List.all_eq_true] at h9
    have := h9 i (List.mem_range.2 hi)
    unfold qokT at this
    simp only [Bool.and_eq_true, Bool.or_eq_true, decide_eq_true_eq] at this
    exact ⟨this.1, all_fl this.2.1, fun e => this.2.2.elim (fun h => by omega) (fun h => h)⟩
theorem row_in {D : TuD} (h : GoodT D) (i : Nat) (k : Nat) : 0 ≤ psum (fl (D.f1.getD i [])) k ∧ psum (fl (D.f1.getD i [])) k ≤ 600 := by
  by_cases hi : i < D.f1.length
  · obtain ⟨h1, h2, _⟩ := h.k i hi
    have key : ∀ m, 0 ≤ psum (fl (D.f1.getD i [])) m ∧ psum (fl (D.f1.getD i [])) m ≤ 20 * (min m (D.f1.getD i []).length : Nat) := by
      intro m
      induction m with
      | zero => simp [psum]
      | succ m ih =>
        have e : psum (fl (D.f1.getD i [])) (m + 1) = psum (fl (D.f1.getD i [])) m + fl (D.f1.getD i []) m := rfl
        by_cases hm : m < (D.f1.getD i []).length
        · have := h2 m hm
          rw [e]
          omega
        · rw [e, fl_out hm]
          omega
    have := key k
    omega
  · have e : D.f1.getD i [] = [] := by rw [List.getD_eq_getElem?_getD, List.getElem?_eq_none (by omega)]; rfl
    rw [e]
    have key : ∀ m, psum (fl []) m = 0 := by
      intro m
      induction m with
      | zero => rfl
      | succ m ih => show psum (fl []) m + fl [] m = 0; rw [ih, fl_out (by simp)]; rfl
    rw [key]
    omega
theorem wait_inT {D : TuD} (h : GoodT D) (k : Nat) : 0 ≤ psum (rowT D) k ∧ psum (rowT D) k ≤ 600 * k := psum_in (f := rowT D) (b := 600) (fun i => row_in h i _) k
theorem sent_inT {D : TuD} (h : GoodT D) (k : Nat) : 0 ≤ psum (fl D.f3) k ∧ psum (fl D.f3) k ≤ 1000000 * k := psum_in (f := fl D.f3) (b := 1000000) h.s k
/-- What TotalSent tells. -/
def totV (D : TuD) : Int := bif goodTu D then totT D else 0
/-- What WaitingIn tells. -/
def waitV (D : TuD) : Int := bif goodTu D then waitT D else 0
end Go.Proofs.Ytepnhbicmlfnhac
namespace Go.Proofs.Ytepnhbicmlfnhac
open Go.RowKit

def qnB (k : Int) : Bool := decide (20 ≤ k ∧ k ≤ 100)
abbrev qnV : Value := .func (.func 115) #[] #[]
theorem qn_take (l : List Int) (k : Nat) (hk : k < l.length) : (l.take (k + 1)).all qnB = ((l.take k).all qnB && qnB (l.getD k 0)) := by
  rw [List.take_succ_eq_append_getElem hk, List.all_append]
  simp [List.getD_eq_getElem?_getD, hk]
theorem qn_false {l : List Int} (k : Nat) (hk : k < l.length) (h : qnB (l.getD k 0) = false) : l.all qnB = false := by
  rw [← Bool.not_eq_true, List.all_eq_true]
  intro hh
  have := hh (l.getD k 0) (by simp [List.getD_eq_getElem?_getD, hk])
  rw [h] at this
  cases this
set_option maxHeartbeats 2000000 in
theorem qnwrong_eq (x : Int) (t : Bool) (h : qnB x = t) (w : World) : Calls Try.prog 115 #[.int .i64 x] w fun e w' => e = .returned (.bool (!t)) ∧ w' = w := by
  have HT : Hid (decide (20 ≤ x ∧ x ≤ 100) = t) := h
  clear h
  by_cases h1 : x < 20
  · have HV : Hid (t = false) := by show _ = _; rw [← HT.out, decide_eq_false (by omega)]
    have d1 : decide (x < 20) = true := by simpa using h1
    clear HT
    go_enter Try.func115, Try.ntmps115
    go_wp2
    go_ret
    exact ⟨by rw [HV.out]; rfl, rfl⟩
  have d1 : decide (x < 20) = false := by simpa using h1
  by_cases h2 : 100 < x
  · have HV : Hid (t = false) := by show _ = _; rw [← HT.out, decide_eq_false (by omega)]
    have d2 : decide (100 < x) = true := by simpa using h2
    clear HT
    go_enter Try.func115, Try.ntmps115
    go_wp2
    go_ret
    exact ⟨by rw [HV.out]; rfl, rfl⟩
  have d2 : decide (100 < x) = false := by simpa using h2
  have HV : Hid (t = true) := by show _ = _; rw [← HT.out, decide_eq_true (by omega)]
  clear HT
  go_enter Try.func115, Try.ntmps115
  go_wp2
  go_ret
  exact ⟨by rw [HV.out]; rfl, rfl⟩
/-- slices.IndexFunc with wrongQuantum: below 0 just where all are good. -/
theorem qnindex_any (v : Value) (xs : List Int) (w : World) (hr : KReads w v xs) :
    Calls Try.prog 120 #[v, qnV] w fun e w' => ∃ r : Int, e = .returned (.int .i64 r) ∧ decide (0 ≤ r) = !(xs.all qnB) ∧ w' = w := by
  have HR := hid hr
  obtain ⟨a, cap, rfl, hl, _⟩ := hr
  go_enter Try.func120, Try.ntmps120
  go_wp2
  go_loopw [8] (fun i wr => ∃ k : Nat, k ≤ xs.length ∧ i = .int .i64 k ∧ (xs.take k).all qnB = true ∧ w = wr) (fun i _ => xs.length - (intOf i).toNat)
  case atStart => exact ⟨0, Nat.zero_le _, rfl, rfl, rfl⟩
  case round =>
    obtain ⟨k, hk, rfl, hall, rfl⟩ := hrel
    have HL := hid hall
    clear hall
    by_cases hlt : k < xs.length
    · obtain ⟨g, o, cap', e, hc⟩ := HR.out.cells k hlt
      cases e
      obtain ⟨x, hx0⟩ : ∃ x, x = xs.getD k 0 := ⟨_, rfl⟩
      have hck : w.cell? ⟨g, o + k, none⟩ = some (.int .i64 x) := by rw [hx0]; exact hc k hlt
      obtain ⟨b, hb⟩ : ∃ b, qnB (xs.getD k 0) = b := ⟨_, rfl⟩
      have HK := hid hb
      have HKX : Hid (qnB x = b) := by rw [hx0]; exact hb
      have HS : Hid ((xs.take (k + 1)).all qnB = b) := by show _ = _; rw [qn_take xs k hlt, HL.out, hb, Bool.true_and]
      clear hc hb hx0
      go_wp2_with fail
      refine (qnwrong_eq x b HKX.out _).mono ?_
      rintro e w' ⟨rfl, hw⟩; obtain rfl := hw.symm
      cases b
      · have hv : Hid (xs.all qnB = false) := qn_false k hlt HK.out
        go_wp2
        go_ret
        exact ⟨_, rfl, by rw [hv.out]; simp, rfl⟩
      · go_wp2
        go_roundw
        case rel => exact ⟨k + 1, by omega, by go_num, HS.out, by first | rfl | trivial⟩
        case measure => simp [intOf]; omega
    · have hv : Hid (xs.all qnB = true) := by show _ = _; have := HL.out; rw [List.take_of_length_le (by omega)] at this; exact this
      go_wp2
      go_ret
      exact ⟨_, rfl, by rw [hv.out]; rfl, rfl⟩
theorem qncontains_any (v : Value) (xs : List Int) (t : Bool) (ht : xs.all qnB = t) (w : World) (hr : KReads w v xs) :
    Calls Try.prog 109 #[v, qnV] w fun e w' => e = .returned (.bool (!t)) ∧ w' = w := by
  have HR := hid hr
  have HT := hid ht
  clear hr ht
  go_enter Try.func109, Try.ntmps109
  go_wp2_with fail
  refine (qnindex_any v xs _ HR.out).mono ?_
  rintro e w' ⟨r, rfl, hd, hw⟩; obtain rfl := hw.symm
  rw [HT.out] at hd
  go_wp2
  go_ret
  exact ⟨by rw [← hd]; rfl, rfl⟩
set_option maxHeartbeats 1000000 in
theorem iquanta_eq (v : Value) (xs : List Int) (t : Bool) (h : newOk xs = t) (w : World) (hr : KReads w v xs) :
    Calls Try.prog 93 #[v] w fun e w' => e = .returned (.bool t) ∧ w' = w := by
  have HT : Hid ((decide (1 ≤ (xs.length : Int) ∧ (xs.length : Int) ≤ 4) && xs.all qnB) = t) := h
  clear h
  have HR := hid hr
  obtain ⟨a, cap, rfl, _, _⟩ := hr
  by_cases h1 : 1 ≤ xs.length
  · have d1 : decide (1 ≤ (xs.length : Int)) = true := by simp; omega
    by_cases h8 : xs.length ≤ 4
    · obtain ⟨b, hb⟩ : ∃ b, xs.all qnB = b := ⟨_, rfl⟩
      have HA : Hid (t = b) := by show _ = _; rw [← HT.out, hb, decide_eq_true (by omega)]; rfl
      have hd : decide ((xs.length : Int) ≤ 4) = true := by simp; omega
      have HB := hid hb
      clear hb
      go_enter Try.func93, Try.ntmps93
      go_wp2_with fail
      refine (qncontains_any _ xs b HB.out _ HR.out).mono ?_
      rintro e w' ⟨rfl, hw⟩; obtain rfl := hw.symm
      go_wp2
      go_ret
      exact ⟨by rw [HA.out]; simp, rfl⟩
    · have hv : Hid (t = false) := by show _ = _; rw [← HT.out, decide_eq_false (by omega)]; rfl
      have hd : decide ((xs.length : Int) ≤ 4) = false := by simp; omega
      go_enter Try.func93, Try.ntmps93
      go_wp2
      go_ret
      exact ⟨by rw [hv.out]; rfl, rfl⟩
  · have hv : Hid (t = false) := by show _ = _; rw [← HT.out, decide_eq_false (by omega)]; rfl
    have hd : decide (1 ≤ (xs.length : Int)) = false := by simp; omega
    go_enter Try.func93, Try.ntmps93
    go_wp2
    go_ret
    exact ⟨by rw [hv.out]; rfl, rfl⟩
end Go.Proofs.Ytepnhbicmlfnhac
namespace Go.Proofs.Ytepnhbicmlfnhac
open Go.RowKit

def pkB (k : Int) : Bool := decide (1 ≤ k ∧ k ≤ 20)
abbrev pkV : Value := .func (.func 97) #[] #[]
theorem pk_take (l : List Int) (k : Nat) (hk : k < l.length) : (l.take (k + 1)).all pkB = ((l.take k).all pkB && pkB (l.getD k 0)) := by
  rw [List.take_succ_eq_append_getElem hk, List.all_append]
  simp [List.getD_eq_getElem?_getD, hk]
theorem pk_false {l : List Int} (k : Nat) (hk : k < l.length) (h : pkB (l.getD k 0) = false) : l.all pkB = false := by
  rw [← Bool.not_eq_true, List.all_eq_true]
  intro hh
  have := hh (l.getD k 0) (by simp [List.getD_eq_getElem?_getD, hk])
  rw [h] at this
  cases this
set_option maxHeartbeats 2000000 in
theorem pkwrong_eq (x : Int) (t : Bool) (h : pkB x = t) (w : World) : Calls Try.prog 97 #[.int .i64 x] w fun e w' => e = .returned (.bool (!t)) ∧ w' = w := by
  have HT : Hid (decide (1 ≤ x ∧ x ≤ 20) = t) := h
  clear h
  by_cases h1 : x < 1
  · have HV : Hid (t = false) := by show _ = _; rw [← HT.out, decide_eq_false (by omega)]
    have d1 : decide (x < 1) = true := by simpa using h1
    clear HT
    go_enter Try.func97, Try.ntmps97
    go_wp2
    go_ret
    exact ⟨by rw [HV.out]; rfl, rfl⟩
  have d1 : decide (x < 1) = false := by simpa using h1
  by_cases h2 : 20 < x
  · have HV : Hid (t = false) := by show _ = _; rw [← HT.out, decide_eq_false (by omega)]
    have d2 : decide (20 < x) = true := by simpa using h2
    clear HT
    go_enter Try.func97, Try.ntmps97
    go_wp2
    go_ret
    exact ⟨by rw [HV.out]; rfl, rfl⟩
  have d2 : decide (20 < x) = false := by simpa using h2
  have HV : Hid (t = true) := by show _ = _; rw [← HT.out, decide_eq_true (by omega)]
  clear HT
  go_enter Try.func97, Try.ntmps97
  go_wp2
  go_ret
  exact ⟨by rw [HV.out]; rfl, rfl⟩
end Go.Proofs.Ytepnhbicmlfnhac
