/-
  'looks' of a 'shower', and what numbers and truths write into it.
-/
import Derived.Test.YtaljpbgggembmaaDoorShxBy2
import Derived.Test.YtaljpbgggembmaaDoorShxShL
import Derived.Test.YtaljpbgggembmaaDoorShxIo20
namespace Go.Proofs.YtaljpbgggembmaaDoor
open Go.RowKit
set_option linter.unusedVariables false
set_option linter.unusedSimpArgs false

theorem Shw.setN {w : World} {S : Nat} {ao : Option Addr} {len cap : Nat} {n : Int} {T : List UInt8} (h : Shw w S ao len cap n T) (m : Int) : Shw (w.setCell ⟨S, 1, none⟩ (.int .i64 m)) S ao len cap m T ∧ Sg S w (w.setCell ⟨S, 1, none⟩ (.int .i64 m)) := by
  obtain ⟨p, v, hb, hp, hr⟩ := h.at_
  refine ⟨⟨p, v, row4_set1 hb, hp, byr_keep hr fun g hg => ?_⟩, (Sg.refl S w).set 1 _⟩
  have := (byr_own hr hg).1
  exact row_other _ _ _ (by show g ≠ S; omega)

set_option maxRecDepth 100000 in
set_option maxHeartbeats 1000000 in
theorem looks_none {w : World} {S : Nat} {ao : Option Addr} {len cap : Nat} {T : List UInt8} (h : Shw w S ao len cap 0 T) (hl : T.length ≤ 1000000) :
    Calls Tryd.prog 24 #[.pointer (some ⟨S, 0, none⟩)] w fun e w' => e = .returned (.bool false) ∧ Sg S w w' ∧ Shw w' S ao len cap 0 (T ++ [46]) := by
  obtain ⟨p, v, hb, _⟩ := h.at_
  obtain ⟨c0, c1, c2, c3⟩ := cells4b hb
  clear hb
  go_enter Tryd.func24, Tryd.ntmps24
  go_wp2_with fail
  refine (writeString_any [46] h (by simp; omega)).mono ?_
  rintro e w1 ⟨⟨r, rfl⟩, hg, hS⟩
  go_wp2_with fail
  go_ret
  exact ⟨rfl, hg, hS⟩

set_option maxRecDepth 100000 in
set_option maxHeartbeats 1000000 in
theorem looks_some {w : World} {S : Nat} {ao : Option Addr} {len cap : Nat} {n : Nat} {T : List UInt8} (h : Shw w S ao len cap ((n + 1 : Nat) : Int) T) (hn : n ≤ 1000000) :
    Calls Tryd.prog 24 #[.pointer (some ⟨S, 0, none⟩)] w fun e w' => e = .returned (.bool true) ∧ Sg S w w' ∧ Shw w' S ao len cap (n : Int) T := by
  obtain ⟨p, v, hb, _⟩ := h.at_
  obtain ⟨c0, c1, c2, c3⟩ := cells4b hb
  have f1 := row_free hb 1
  obtain ⟨k1, k2⟩ := h.setN (n : Int)
  have hne : ¬ ((n + 1 : Nat) : Int) = 0 := by omega
  have hsub : ((n + 1 : Nat) : Int) - 1 = (n : Int) := by omega
  generalize ((n + 1 : Nat) : Int) = m at *
  clear hb h
  go_enter Tryd.func24, Tryd.ntmps24
  go_wp2_with fail
  go_ret
  exact ⟨rfl, k2, k1⟩

end Go.Proofs.YtaljpbgggembmaaDoor
