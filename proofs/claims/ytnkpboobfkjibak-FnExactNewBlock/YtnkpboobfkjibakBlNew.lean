/-
  A block that has nothing: plain words, and what a text of noughts is made of.
-/
import Derived.Test.YtnkpboobfkjibakKBlockRows
import Derived.Test.YtnkpboobfkjibakPcRow
import Derived.Test.YtnkpboobfkjibakBlMath
namespace Go.Proofs.Ytnkpboobfkjibak
open Go.RowKit

def zTxt (n : Nat) : ByteArray := ⟨(List.replicate n (0 : UInt8)).toArray⟩
theorem size_zTxt (n : Nat) : (zTxt n).size = n := by simp [zTxt, ByteArray.size]
theorem bt_zTxt (n i : Nat) : bt (zTxt n) i = 0 := by unfold zTxt; rw [bt_list]; exact zrow_get n i
def zeroBl : BlD := ⟨0, 0, ⟨#[]⟩, []⟩
def newBl (z l : Int) : BlD := bif idB z l then ⟨z, l, zTxt l.toNat, []⟩ else zeroBl
/-- A block that has nothing owns nothing. -/
theorem BlOwn.empty (S : Nat → Prop) (w : World) (z l : Int) (s : ByteArray) : BlOwn S w (.agg #[.int .i64 z, .int .i64 l, .string s, .slice none 0 0]) ⟨z, l, s, []⟩ := by
  refine ⟨.slice none 0 0, (0, 0), rfl, ⟨fun i hi => ?_, fun i j hi hj hne => by omega⟩, spown_nil _ _ _ _ _⟩
  obtain rfl : i = 0 := by omega
  exact ⟨Nat.le_refl _, fun g _ h => absurd h (Nat.not_lt_zero g)⟩
theorem conv_zeros (V : World) (b n : Nat) (h : ∀ j, j < n → V.cell? ⟨b, j, none⟩ = some (.int .u8 0)) : (convert 87 9 (.slice (some ⟨b, 0, none⟩) n n)).run Try.prog V = .ok (.string (zTxt n)) V := by
  have h := conv_row V b n (List.replicate n 0) (fun j hj => ?_)
  · rw [List.length_replicate] at h
    exact h
  · rw [List.length_replicate] at hj
    rw [h j hj, zrow_get]
    rfl
theorem made_u8 (n j : Nat) (h : j < n) : (madeCells #[Value.int .u8 0] n)[j]? = some (.int .u8 0) := by simp [madeCells, h, Nat.mod_one]
end Go.Proofs.Ytnkpboobfkjibak
