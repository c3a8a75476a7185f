/-
  What 'sameTyNode' comes to, and the two plain ways to hold one type against another: the model's 'SameTy' and the program's 'sameRightTy'.
-/
import Derived.Test.YtkbccogjckiabaaNw
import Derived.BigQuiet
import Derived.Deep.RegionWith
namespace Go.Proofs.Ytkbccogjckiabaa
open Go.RowKit
set_option linter.unusedVariables false
set_option linter.unusedSimpArgs false

/-- Two nodes are alike, but for their parts. -/
def likeN (x y : Tr) : Bool := (x.K == y.K) && (x.N == y.N) && ((x.A.length : Int) == (y.A.length : Int))

set_option maxHeartbeats 1000000 in
theorem sameTyNode_any (k n k' n' : Int) (ao : Option Addr) (len cap : Nat) (ao' : Option Addr) (len' cap' : Nat) (w : World) (hl : len ≤ 9223372036854775807) (hl' : len' ≤ 9223372036854775807) :
    Calls Try.prog 130 #[.agg #[.int .i64 k, .int .i64 n, .slice ao len cap], .agg #[.int .i64 k', .int .i64 n', .slice ao' len' cap']] w fun e w' => e = .returned (.bool ((k == k') && (n == n') && ((len : Int) == (len' : Int)))) ∧ Below w.heap.size w w' := by
  have hbel : Below w.heap.size w ((w.alloc (.cells #[.int .i64 k, .int .i64 n, .slice ao len cap] 32)).alloc (.cells #[.int .i64 k', .int .i64 n', .slice ao' len' cap'] 32)) := ((Below.refl _ _).alloc (Nat.le_refl _) _).alloc (by simp) _
  cases h1 : (k == k')
  all_goals cases h2 : (n == n')
  all_goals cases h3 : ((len : Int) == (len' : Int))
  all_goals
    go_enter Try.func130, Try.ntmps130
    go_wp2_with fail
    go_ret
    exact ⟨rfl, hbel⟩

theorem wp_region_below {P : Program} {id : Nat} {Q : Exit → Act → World → Prop} {a : Act} {X : World} {l : List Oper} (hm : P.follows .mixedOrders = true) (hB : Region.lexB .any l.toArray = true)
    (h : wpQuiet P l.toArray (fun w' => Below X.heap.size X w') (fun a' => ∀ w', Below X.heap.size X w' → Q .normal a' w') l a) : (Code.region id l.toArray true).wp P Q a X :=
  wp_region_quiet (C := fun w' => Below X.heap.size X w') hm hB ((Below.refl _ _).drew) (by simpa using h)

def likeB (l l' : List Tr) (j : Nat) : Prop := l.take j = l'.take j
theorem like_all {l l' : List Tr} {j : Nat} (h : likeB l l' j) (h1 : l.length ≤ j) (h2 : l'.length ≤ j) : l = l' := by
  unfold likeB at h; rwa [List.take_of_length_le h1, List.take_of_length_le h2] at h
theorem like_next {l l' : List Tr} {j : Nat} (h : likeB l l' j) (h1 : j < l.length) (h2 : j < l'.length) (he : l[j] = l'[j]) : likeB l l' (j + 1) := by
  unfold likeB at *
  rw [List.take_succ_eq_append_getElem h1, List.take_succ_eq_append_getElem h2, h, he]
theorem unlike_at {l l' : List Tr} {j : Nat} (h1 : j < l.length) (h2 : j < l'.length) (he : ¬ l[j] = l'[j]) : ¬ l = l' := by
  intro h; subst h; exact he rfl
theorem tr_ext {x y : Tr} (h1 : x.K = y.K) (h2 : x.N = y.N) (h3 : x.A = y.A) : x = y := by cases x; cases y; simp_all

end Go.Proofs.Ytkbccogjckiabaa
