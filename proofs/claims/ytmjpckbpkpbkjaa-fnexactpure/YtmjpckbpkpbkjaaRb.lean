/-
  A region that draws its order, walked in one way where its calls make new memory alone.
-/
import Derived.Test.YtmjpckbpkpbkjaaTr
import Derived.Deep.QuietTactic
import Derived.BigQuiet
namespace Go.Proofs.Ytmjpckbpkpbkjaa
open Go.RowKit
set_option linter.unusedVariables false
set_option linter.unusedSimpArgs false

theorem wp_region_below {P : Program} {id : Nat} {Q : Exit → Act → World → Prop} {a : Act} {X : World} {l : List Oper} (hm : P.follows .mixedOrders = true) (hB : Region.lexB .any l.toArray = true)
    (h : wpQuiet P l.toArray (fun w' => Below X.heap.size X w') (fun a' => ∀ w', Below X.heap.size X w' → Q .normal a' w') l a) : (Code.region id l.toArray true).wp P Q a X :=
  wp_region_quiet (C := fun w' => Below X.heap.size X w') hm hB ((Below.refl _ _).drew) (by simpa using h)

end Go.Proofs.Ytmjpckbpkpbkjaa
