/-
  What numbers and truths write into a 'shower'.
-/
import Derived.Test.YtaljpbgggembmaaDoorShxBy3
import Derived.Deep.RegionLaw
namespace Go.Proofs.YtaljpbgggembmaaDoor
open Go.RowKit
set_option linter.unusedVariables false
set_option linter.unusedSimpArgs false

set_option maxRecDepth 100000 in
set_option maxHeartbeats 1000000 in
theorem numWrite_any {B : Nat} {w : World} {S : Nat} {ao : Option Addr} {len cap : Nat} {n : Int} {T : List UInt8} (x : Int) (h0 : -1000000 ≤ x) (h1 : x ≤ 1000000) (h : Shw w S ao len cap n T) (hT : TabB B w) (hl : T.length ≤ 1000000) :
    Calls Tryd.prog 25 #[.int .i64 x, .pointer (some ⟨S, 2, none⟩)] w fun e w' => e = .returned (.tuple #[]) ∧ Sg S w w' ∧ Shw w' S ao len cap n (T ++ Lib.itoa x) := by
  have hlen := Lib.itoa_length_le x (by omega) (by omega)
  go_enter Tryd.func25, Tryd.ntmps25
  go_wp2_with fail
  refine (itoa_any x h0 h1 w hT).mono ?_
  rintro e w1 ⟨rfl, hb1⟩
  go_wp2_with fail
  refine (writeString_any (Lib.itoa x) (h.below hb1) (by omega)).mono ?_
  rintro e w2 ⟨⟨r, rfl⟩, hg, hS⟩
  have hg2 := (Sg.below hb1 (Nat.le_of_lt h.lt)).trans hg
  go_wp2_with fail
  go_end0
  exact ⟨rfl, hg2, hS⟩

set_option maxRecDepth 100000 in
set_option maxHeartbeats 1000000 in
theorem truthWrite_any {w : World} {S : Nat} {ao : Option Addr} {len cap : Nat} {n : Int} {T : List UInt8} (b : Bool) (h : Shw w S ao len cap n T) (hl : T.length ≤ 1000000) :
    Calls Tryd.prog 26 #[.bool b, .pointer (some ⟨S, 2, none⟩)] w fun e w' => e = .returned (.tuple #[]) ∧ Sg S w w' ∧ Shw w' S ao len cap n (T ++ (if b = true then [116] else [117])) := by
  cases b with
  | true =>
    go_enter Tryd.func26, Tryd.ntmps26
    go_wp2_with fail
    refine (writeByte_any 116 116 (by rfl) h (by omega)).mono ?_
    rintro e w2 ⟨⟨r, rfl⟩, hg, hS⟩
    go_wp2_with fail
    go_end0
    exact ⟨rfl, hg, hS⟩
  | false =>
    go_enter Tryd.func26, Tryd.ntmps26
    go_wp2_with fail
    refine (writeByte_any 117 117 (by rfl) h (by omega)).mono ?_
    rintro e w2 ⟨⟨r, rfl⟩, hg, hS⟩
    go_wp2_with fail
    go_end0
    exact ⟨rfl, hg, hS⟩

end Go.Proofs.YtaljpbgggembmaaDoor
