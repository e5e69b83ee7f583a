/-
  The law FnExactPutPacket answers true at any turns, any number and any size.
-/
import Derived.Test.YtnnmiddhbeiogbaPutPacketLaw
import Derived.Test.YtnnmiddhbeiogbaSPut
import Derived.Test.YtnnmiddhbeiogbaIPut
namespace Go.Proofs.Ytnnmiddhbeiogba
open Go.RowKit

theorem FnExactPutPacket_walk (v0 : Value) (D0 : TuD) (n1 n2 : Int) (w : World) (h0 : TuArg w v0 D0) :
    Calls Try.prog 4 #[v0, .int .i64 n1, .int .i64 n2] w fun e w' => e = .returned (.bool true) ∧ Below w.heap.size w w' := by
  cases hg : putOk D0 n1 n2 with
  | true =>
    have h := hg
    unfold putOk at h
    simp only [Bool.and_eq_true, decide_eq_true_eq] at h
    exact FnExactPutPacket_law v0 D0 n1 n2 w h0 (putD D0 n1.toNat n2) (putD_tot (goodT_of h.1) (by omega) n2) true (fun v w r => sput_yes v D0 n1 n2 w r hg) (fun v w r => iput_yes v D0 n1 n2 w r hg)
  | false => exact FnExactPutPacket_law v0 D0 n1 n2 w h0 noT (by decide) false (fun v w r => sput_no v D0 n1 n2 w r hg) (fun v w r => iput_no v D0 n1 n2 w r hg)
end Go.Proofs.Ytnnmiddhbeiogba
