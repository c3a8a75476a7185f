/-
  NARROWER THAN 'FOR EVERY INPUT', by the rows' own cells (each row's printed sentence says how): FnExactBeta: loops · FnExactBetaAll: loops.
  DERIVED. THE GIVEN ROWS OF THIS SEAT. 2 by the template 'for every input the law returns true; each argument reads behind the call as it read before'; 0 by the template 'total and deterministic' (their statements: YtcepgedbmffkdaaGreatTotals.lean).
  GIVEN WITH THE SEED: the statements are not yours to turn. If you find one false, say at which input.
  Laid BY PROGRAM, IN A SANDBOX (cutbox-rows.mjs): the forced cells as the released guide's own fill.sh prints them over the translation 2bb17a7064ae0d3f… (all of the seat's roots in one cut). By AI agents, Wed Nov 11 2026. No macro, syntax, notation, axiom, sorry.
-/
import Derived.Test.YtcepgedbmffkdaaGreatChecked
import GoSem.Claim
import GoSem.ClaimJoined
import GoSem.ClaimMapViews
import Derived.JoinedTies
import Derived.KernelRfl
namespace Go.Proofs.YtcepgedbmffkdaaGreat
/- THE CELL 'sum', in the pinned program and in every row, IS THE sha256 OF THE DUMP (.gsa) THAT YtcepgedbmffkdaaGreatProg.lean LOADS. Nothing in Lean hashes anything: it is a label: what it is worth is what the hold of that sum in a sandbox is worth. -/
noncomputable def Tryz.pinned : Pinned := { name := "ytcepgedbmffkdaagreat", sum := "2bb17a7064ae0d3fd60a2b08308683fa33d886d379d99702e06a58f154539ed4", checked := Tryz.checked }
namespace Rows
def none {H : Type} : Left H := { results := [], args := [] }

/-- 'laws.FnExactBeta': WHATEVER THE INPUT: true; the input reads as it did. -/
def fnExactBetaSpec : ChangeSpec := { name := "fnExactBeta", fn := fun _ => fun
  | [d] => { results := [.lit (.bool true)], args := [d] }
  | _ => none }
def fnExactBetaRow : OpenClaim := { program := "ytcepgedbmffkdaagreat", sum := "2bb17a7064ae0d3fd60a2b08308683fa33d886d379d99702e06a58f154539ed4", func := "loop.example/g00187/laws.FnExactBeta", spec := "fnExactBeta", unfollowed := true, recurses := true, loops := true, plainKeys := false, apart := false }
def FnExactBetaSaid : Prop := fnExactBetaRow.holds Tryz.pinned (OpenSpec.ofChange fnExactBetaSpec)

/-- ITS FALSE NEIGHBOUR: 'it returns false'. Refute it at one input. -/
def fnExactBetaWrong : ChangeSpec := { name := "fnExactBeta", fn := fun _ => fun
  | [d] => { results := [.lit (.bool false)], args := [d] }
  | _ => none }
def FnExactBetaWrongFalsely : Prop := fnExactBetaRow.holds Tryz.pinned (OpenSpec.ofChange fnExactBetaWrong)

/-- 'laws.FnExactBetaAll': WHATEVER THE INPUT: true; the input reads as it did. -/
def fnExactBetaAllSpec : ChangeSpec := { name := "fnExactBetaAll", fn := fun _ => fun
  | [d] => { results := [.lit (.bool true)], args := [d] }
  | _ => none }
def fnExactBetaAllRow : OpenClaim := { program := "ytcepgedbmffkdaagreat", sum := "2bb17a7064ae0d3fd60a2b08308683fa33d886d379d99702e06a58f154539ed4", func := "loop.example/g00187/laws.FnExactBetaAll", spec := "fnExactBetaAll", unfollowed := true, recurses := true, loops := true, plainKeys := false, apart := false }
def FnExactBetaAllSaid : Prop := fnExactBetaAllRow.holds Tryz.pinned (OpenSpec.ofChange fnExactBetaAllSpec)

/-- ITS FALSE NEIGHBOUR: 'it returns false'. Refute it at one input. -/
def fnExactBetaAllWrong : ChangeSpec := { name := "fnExactBetaAll", fn := fun _ => fun
  | [d] => { results := [.lit (.bool false)], args := [d] }
  | _ => none }
def FnExactBetaAllWrongFalsely : Prop := fnExactBetaAllRow.holds Tryz.pinned (OpenSpec.ofChange fnExactBetaAllWrong)

/- THE SECOND FORM. 'bulk': how many values and letters a reading holds, each counted each time it is reached (what is shared counts as often as it is met; a slice's spare places count too). A statement '..UptoSaid' is the law's where the arguments, and the package variables that the reading takes, are together of bulk at most 1048576: NARROWER than '..Said'. Prove '..Said' where nothing that the law and all that it calls make is longer than what came in: it says more and counts as full. Else prove '..UptoSaid'. A law counts once. -/
mutual
def uptoBulk {H : Type} : DataW H → Nat
  | .lit (.string bytes) => bytes.length + 1
  | .lit _ => 1
  | .nil => 1
  | .ptr d => uptoBulk d + 1
  | .slice elems spare => uptoBulkAll elems + uptoBulkAll spare + 1
  | .agg parts => uptoBulkAll parts + 1
  | .iface _ d => uptoBulk d + 1
  | .map entries => uptoBulkEntries entries + 1
  | .held _ => 1
def uptoBulkAll {H : Type} : List (DataW H) → Nat
  | [] => 0
  | d :: r => uptoBulk d + uptoBulkAll r
def uptoBulkEntries {H : Type} : List (Lit × DataW H) → Nat
  | [] => 0
  | x :: r => uptoBulkEntry x + uptoBulkEntries r
def uptoBulkEntry {H : Type} : Lit × DataW H → Nat
  | (.string bytes, d) => bytes.length + uptoBulk d + 1
  | (_, d) => uptoBulk d + 1
 end
def uptoSmall : (H : Type) → List (DataW H) → Bool := fun _ ds => decide (uptoBulkAll ds ≤ 1048576)
def OpenSpec.upto (s : _root_.Go.ChangeSpec) : _root_.Go.OpenSpec := { _root_.Go.OpenSpec.ofChange s with cond := some uptoSmall }

/-- 'laws.FnExactBeta', WHERE WHAT IT READS IS OF BULK AT MOST 1048576: true; the input reads as it did. -/
def fnExactBetaUptoRow : OpenClaim := { program := "ytcepgedbmffkdaagreat", sum := "2bb17a7064ae0d3fd60a2b08308683fa33d886d379d99702e06a58f154539ed4", func := "loop.example/g00187/laws.FnExactBeta", spec := "fnExactBeta", unfollowed := true, recurses := true, loops := true, plainKeys := false, apart := false, narrowed := true }
def FnExactBetaUptoSaid : Prop := fnExactBetaUptoRow.holds Tryz.pinned (OpenSpec.upto fnExactBetaSpec)

/-- 'laws.FnExactBetaAll', WHERE WHAT IT READS IS OF BULK AT MOST 1048576: true; the input reads as it did. -/
def fnExactBetaAllUptoRow : OpenClaim := { program := "ytcepgedbmffkdaagreat", sum := "2bb17a7064ae0d3fd60a2b08308683fa33d886d379d99702e06a58f154539ed4", func := "loop.example/g00187/laws.FnExactBetaAll", spec := "fnExactBetaAll", unfollowed := true, recurses := true, loops := true, plainKeys := false, apart := false, narrowed := true }
def FnExactBetaAllUptoSaid : Prop := fnExactBetaAllUptoRow.holds Tryz.pinned (OpenSpec.upto fnExactBetaAllSpec)

end Rows
end Go.Proofs.YtcepgedbmffkdaaGreat
