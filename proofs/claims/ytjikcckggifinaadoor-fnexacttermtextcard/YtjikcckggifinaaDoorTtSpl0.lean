/-
  What the model's 'l1Split' comes to: the tokens of a text.
-/
import Derived.Test.YtjikcckggifinaaDoorTtZ5
import Derived.Test.YtjikcckggifinaaDoorTtOw
namespace Go.Proofs.YtjikcckggifinaaDoor
open Go.RowKit
set_option linter.unusedVariables false
set_option linter.unusedSimpArgs false

/-- The tokens of what is left, 'cur' being what the first one has already. -/
def splAcc : List UInt8 → List UInt8 → List (List UInt8)
  | cur, [] => [cur]
  | cur, b :: rest => if b = 32 then cur :: splAcc [] rest else splAcc (cur ++ [b]) rest
def spl (s : List UInt8) : List (List UInt8) := splAcc [] s

theorem splAcc_space {cur rest : List UInt8} : splAcc cur (32 :: rest) = cur :: splAcc [] rest := by simp [splAcc]
theorem splAcc_more {cur rest : List UInt8} {b : UInt8} (h : b ≠ 32) : splAcc cur (b :: rest) = splAcc (cur ++ [b]) rest := by simp [splAcc, h]

/-- The bytes from f on and below i. -/
def sub (s : ByteArray) (f i : Nat) : List UInt8 := (s.data.toList.take i).drop f
theorem extract_sub (s : ByteArray) (f i : Nat) : s.extract f i = ⟨(sub s f i).toArray⟩ := by
  apply ByteArray.ext
  rw [ByteArray.data_extract]
  apply Array.toList_inj.1
  rw [Array.toList_extract]
  simp [sub, List.extract_eq_take_drop, List.drop_take]

theorem sub_nil (s : ByteArray) (f : Nat) : sub s f f = [] := by
  unfold sub
  exact List.drop_eq_nil_of_le (by simp; omega)
theorem sub_more (s : ByteArray) (f i : Nat) (hf : f ≤ i) (hi : i < s.data.toList.length) : sub s f (i + 1) = sub s f i ++ [s.data.toList[i]] := by
  unfold sub
  rw [List.take_succ_eq_append_getElem hi, List.drop_append_of_le_length (by rw [List.length_take]; omega)]

end Go.Proofs.YtjikcckggifinaaDoor
