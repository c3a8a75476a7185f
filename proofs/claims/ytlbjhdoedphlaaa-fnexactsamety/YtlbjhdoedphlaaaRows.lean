/-
  NARROWER THAN 'FOR EVERY INPUT', by the rows' own cells (each row's printed sentence says how): FnExactTyOk: loops · FnExactSameTy: loops · FnExactTyNodes: loops · FnExactGround: loops · FnExactSubstTy: loops · FnExactVarsOf: loops.
  DERIVED. THE GIVEN ROWS OF THIS SEAT. 8 by the template 'for every input the law returns true; each argument reads behind the call as it read before'; 0 by the template 'total and deterministic' (their statements: YtlbjhdoedphlaaaTotals.lean).
  GIVEN WITH THE SEED: the statements are not yours to turn. If you find one false, say at which input.
  Laid BY PROGRAM, IN A SANDBOX (cutbox-rows.mjs): the forced cells as the released guide's own fill.sh prints them over the translation 4040de821b9400f5… (all of the seat's roots in one cut). By AI agents, Wed Nov 11 2026. No macro, syntax, notation, axiom, sorry.
-/
import Derived.Test.YtlbjhdoedphlaaaChecked
import GoSem.Claim
import GoSem.ClaimJoined
import GoSem.ClaimMapViews
import Derived.JoinedTies
import Derived.KernelRfl
namespace Go.Proofs.Ytlbjhdoedphlaaa
/- THE CELL 'sum', in the pinned program and in every row, IS THE sha256 OF THE DUMP (.gsa) THAT YtlbjhdoedphlaaaProg.lean LOADS. Nothing in Lean hashes anything: it is a label: what it is worth is what the hold of that sum in a sandbox is worth. -/
noncomputable def Try.pinned : Pinned := { name := "ytlbjhdoedphlaaa", sum := "4040de821b9400f539d4a7260d0b8763c38df1c51208b06578c9e688b58ba130", checked := Try.checked }
namespace Rows
def none {H : Type} : Left H := { results := [], args := [] }

/-- 'laws.FnSubst': WHATEVER THE INPUT: true; the input reads as it did. -/
def fnSubstSpec : ChangeSpec := { name := "fnSubst", fn := fun _ => fun
  | [d] => { results := [.lit (.bool true)], args := [d] }
  | _ => none }
def fnSubstRow : OpenClaim := { program := "ytlbjhdoedphlaaa", sum := "4040de821b9400f539d4a7260d0b8763c38df1c51208b06578c9e688b58ba130", func := "loop.example/g00187/laws.FnSubst", spec := "fnSubst", unfollowed := true, recurses := true, plainKeys := false, apart := false }
def FnSubstSaid : Prop := fnSubstRow.holds Try.pinned (OpenSpec.ofChange fnSubstSpec)

/-- ITS FALSE NEIGHBOUR: 'it returns false'. Refute it at one input. -/
def fnSubstWrong : ChangeSpec := { name := "fnSubst", fn := fun _ => fun
  | [d] => { results := [.lit (.bool false)], args := [d] }
  | _ => none }
def FnSubstWrongFalsely : Prop := fnSubstRow.holds Try.pinned (OpenSpec.ofChange fnSubstWrong)

/-- 'laws.FnExactTyOk': WHATEVER THE INPUT: true; the input reads as it did. -/
def fnExactTyOkSpec : ChangeSpec := { name := "fnExactTyOk", fn := fun _ => fun
  | [d] => { results := [.lit (.bool true)], args := [d] }
  | _ => none }
def fnExactTyOkRow : OpenClaim := { program := "ytlbjhdoedphlaaa", sum := "4040de821b9400f539d4a7260d0b8763c38df1c51208b06578c9e688b58ba130", func := "loop.example/g00187/laws.FnExactTyOk", spec := "fnExactTyOk", recurses := true, loops := true, plainKeys := false, apart := false }
def FnExactTyOkSaid : Prop := fnExactTyOkRow.holds Try.pinned (OpenSpec.ofChange fnExactTyOkSpec)

/-- ITS FALSE NEIGHBOUR: 'it returns false'. Refute it at one input. -/
def fnExactTyOkWrong : ChangeSpec := { name := "fnExactTyOk", fn := fun _ => fun
  | [d] => { results := [.lit (.bool false)], args := [d] }
  | _ => none }
def FnExactTyOkWrongFalsely : Prop := fnExactTyOkRow.holds Try.pinned (OpenSpec.ofChange fnExactTyOkWrong)

/-- 'laws.FnExactParseTy': WHATEVER THE INPUT: true; the input reads as it did. -/
def fnExactParseTySpec : ChangeSpec := { name := "fnExactParseTy", fn := fun _ => fun
  | [d] => { results := [.lit (.bool true)], args := [d] }
  | _ => none }
def fnExactParseTyRow : OpenClaim := { program := "ytlbjhdoedphlaaa", sum := "4040de821b9400f539d4a7260d0b8763c38df1c51208b06578c9e688b58ba130", func := "loop.example/g00187/laws.FnExactParseTy", spec := "fnExactParseTy", recurses := true, plainKeys := false, apart := false }
def FnExactParseTySaid : Prop := fnExactParseTyRow.holds Try.pinned (OpenSpec.ofChange fnExactParseTySpec)

/-- ITS FALSE NEIGHBOUR: 'it returns false'. Refute it at one input. -/
def fnExactParseTyWrong : ChangeSpec := { name := "fnExactParseTy", fn := fun _ => fun
  | [d] => { results := [.lit (.bool false)], args := [d] }
  | _ => none }
def FnExactParseTyWrongFalsely : Prop := fnExactParseTyRow.holds Try.pinned (OpenSpec.ofChange fnExactParseTyWrong)

/-- 'laws.FnExactSameTy': WHATEVER THE INPUT: true; the input reads as it did. -/
def fnExactSameTySpec : ChangeSpec := { name := "fnExactSameTy", fn := fun _ => fun
  | [d1, d2] => { results := [.lit (.bool true)], args := [d1, d2] }
  | _ => none }
def fnExactSameTyRow : OpenClaim := { program := "ytlbjhdoedphlaaa", sum := "4040de821b9400f539d4a7260d0b8763c38df1c51208b06578c9e688b58ba130", func := "loop.example/g00187/laws.FnExactSameTy", spec := "fnExactSameTy", recurses := true, loops := true, plainKeys := false, apart := false }
def FnExactSameTySaid : Prop := fnExactSameTyRow.holds Try.pinned (OpenSpec.ofChange fnExactSameTySpec)

/-- ITS FALSE NEIGHBOUR: 'it returns false'. Refute it at one input. -/
def fnExactSameTyWrong : ChangeSpec := { name := "fnExactSameTy", fn := fun _ => fun
  | [d1, d2] => { results := [.lit (.bool false)], args := [d1, d2] }
  | _ => none }
def FnExactSameTyWrongFalsely : Prop := fnExactSameTyRow.holds Try.pinned (OpenSpec.ofChange fnExactSameTyWrong)

/-- 'laws.FnExactTyNodes': WHATEVER THE INPUT: true; the input reads as it did. -/
def fnExactTyNodesSpec : ChangeSpec := { name := "fnExactTyNodes", fn := fun _ => fun
  | [d] => { results := [.lit (.bool true)], args := [d] }
  | _ => none }
def fnExactTyNodesRow : OpenClaim := { program := "ytlbjhdoedphlaaa", sum := "4040de821b9400f539d4a7260d0b8763c38df1c51208b06578c9e688b58ba130", func := "loop.example/g00187/laws.FnExactTyNodes", spec := "fnExactTyNodes", recurses := true, loops := true, plainKeys := false, apart := false }
def FnExactTyNodesSaid : Prop := fnExactTyNodesRow.holds Try.pinned (OpenSpec.ofChange fnExactTyNodesSpec)

/-- ITS FALSE NEIGHBOUR: 'it returns false'. Refute it at one input. -/
def fnExactTyNodesWrong : ChangeSpec := { name := "fnExactTyNodes", fn := fun _ => fun
  | [d] => { results := [.lit (.bool false)], args := [d] }
  | _ => none }
def FnExactTyNodesWrongFalsely : Prop := fnExactTyNodesRow.holds Try.pinned (OpenSpec.ofChange fnExactTyNodesWrong)

/-- 'laws.FnExactGround': WHATEVER THE INPUT: true; the input reads as it did. -/
def fnExactGroundSpec : ChangeSpec := { name := "fnExactGround", fn := fun _ => fun
  | [d] => { results := [.lit (.bool true)], args := [d] }
  | _ => none }
def fnExactGroundRow : OpenClaim := { program := "ytlbjhdoedphlaaa", sum := "4040de821b9400f539d4a7260d0b8763c38df1c51208b06578c9e688b58ba130", func := "loop.example/g00187/laws.FnExactGround", spec := "fnExactGround", recurses := true, loops := true, plainKeys := false, apart := false }
def FnExactGroundSaid : Prop := fnExactGroundRow.holds Try.pinned (OpenSpec.ofChange fnExactGroundSpec)

/-- ITS FALSE NEIGHBOUR: 'it returns false'. Refute it at one input. -/
def fnExactGroundWrong : ChangeSpec := { name := "fnExactGround", fn := fun _ => fun
  | [d] => { results := [.lit (.bool false)], args := [d] }
  | _ => none }
def FnExactGroundWrongFalsely : Prop := fnExactGroundRow.holds Try.pinned (OpenSpec.ofChange fnExactGroundWrong)

/-- 'laws.FnExactSubstTy': WHATEVER THE INPUT: true; the input reads as it did. -/
def fnExactSubstTySpec : ChangeSpec := { name := "fnExactSubstTy", fn := fun _ => fun
  | [d1, d2] => { results := [.lit (.bool true)], args := [d1, d2] }
  | _ => none }
def fnExactSubstTyRow : OpenClaim := { program := "ytlbjhdoedphlaaa", sum := "4040de821b9400f539d4a7260d0b8763c38df1c51208b06578c9e688b58ba130", func := "loop.example/g00187/laws.FnExactSubstTy", spec := "fnExactSubstTy", unfollowed := true, recurses := true, loops := true, plainKeys := false, apart := false }
def FnExactSubstTySaid : Prop := fnExactSubstTyRow.holds Try.pinned (OpenSpec.ofChange fnExactSubstTySpec)

/-- ITS FALSE NEIGHBOUR: 'it returns false'. Refute it at one input. -/
def fnExactSubstTyWrong : ChangeSpec := { name := "fnExactSubstTy", fn := fun _ => fun
  | [d1, d2] => { results := [.lit (.bool false)], args := [d1, d2] }
  | _ => none }
def FnExactSubstTyWrongFalsely : Prop := fnExactSubstTyRow.holds Try.pinned (OpenSpec.ofChange fnExactSubstTyWrong)

/-- 'laws.FnExactVarsOf': WHATEVER THE INPUT: true; the input reads as it did. -/
def fnExactVarsOfSpec : ChangeSpec := { name := "fnExactVarsOf", fn := fun _ => fun
  | [d] => { results := [.lit (.bool true)], args := [d] }
  | _ => none }
def fnExactVarsOfRow : OpenClaim := { program := "ytlbjhdoedphlaaa", sum := "4040de821b9400f539d4a7260d0b8763c38df1c51208b06578c9e688b58ba130", func := "loop.example/g00187/laws.FnExactVarsOf", spec := "fnExactVarsOf", recurses := true, loops := true, plainKeys := false, apart := false }
def FnExactVarsOfSaid : Prop := fnExactVarsOfRow.holds Try.pinned (OpenSpec.ofChange fnExactVarsOfSpec)

/-- ITS FALSE NEIGHBOUR: 'it returns false'. Refute it at one input. -/
def fnExactVarsOfWrong : ChangeSpec := { name := "fnExactVarsOf", fn := fun _ => fun
  | [d] => { results := [.lit (.bool false)], args := [d] }
  | _ => none }
def FnExactVarsOfWrongFalsely : Prop := fnExactVarsOfRow.holds Try.pinned (OpenSpec.ofChange fnExactVarsOfWrong)

/- THE SECOND FORM. 'bulk': how many values and letters a reading holds, each counted each time it is reached (what is shared counts as often as it is met; a slice's spare places count too). A statement '..UptoSaid' is the law's where the arguments, and the package variables that the reading takes, are together of bulk at most 1048576: NARROWER than '..Said'. Prove '..Said' where nothing that the law and all that it calls make is longer than what came in: it says more and counts as full. Else prove '..UptoSaid'. A law counts once. -/
mutual
def uptoBulk {H : Type} : DataW H → Nat
  | .lit (.string bytes) => bytes.length + 1
  | .lit _ => 1
  | .nil => 1
  | .ptr d => uptoBulk d + 1
  | .slice elems spare => uptoBulkAll elems + uptoBulkAll spare + 1
  | .agg parts => uptoBulkAll parts + 1
  | .iface _ d => uptoBulk d + 1
  | .map entries => uptoBulkEntries entries + 1
  | .held _ => 1
def uptoBulkAll {H : Type} : List (DataW H) → Nat
  | [] => 0
  | d :: r => uptoBulk d + uptoBulkAll r
def uptoBulkEntries {H : Type} : List (Lit × DataW H) → Nat
  | [] => 0
  | x :: r => uptoBulkEntry x + uptoBulkEntries r
def uptoBulkEntry {H : Type} : Lit × DataW H → Nat
  | (.string bytes, d) => bytes.length + uptoBulk d + 1
  | (_, d) => uptoBulk d + 1
 end
def uptoSmall : (H : Type) → List (DataW H) → Bool := fun _ ds => decide (uptoBulkAll ds ≤ 1048576)
def OpenSpec.upto (s : _root_.Go.ChangeSpec) : _root_.Go.OpenSpec := { _root_.Go.OpenSpec.ofChange s with cond := some uptoSmall }

/-- 'laws.FnSubst', WHERE WHAT IT READS IS OF BULK AT MOST 1048576: true; the input reads as it did. -/
def fnSubstUptoRow : OpenClaim := { program := "ytlbjhdoedphlaaa", sum := "4040de821b9400f539d4a7260d0b8763c38df1c51208b06578c9e688b58ba130", func := "loop.example/g00187/laws.FnSubst", spec := "fnSubst", unfollowed := true, recurses := true, plainKeys := false, apart := false, narrowed := true }
def FnSubstUptoSaid : Prop := fnSubstUptoRow.holds Try.pinned (OpenSpec.upto fnSubstSpec)

/-- 'laws.FnExactTyOk', WHERE WHAT IT READS IS OF BULK AT MOST 1048576: true; the input reads as it did. -/
def fnExactTyOkUptoRow : OpenClaim := { program := "ytlbjhdoedphlaaa", sum := "4040de821b9400f539d4a7260d0b8763c38df1c51208b06578c9e688b58ba130", func := "loop.example/g00187/laws.FnExactTyOk", spec := "fnExactTyOk", recurses := true, loops := true, plainKeys := false, apart := false, narrowed := true }
def FnExactTyOkUptoSaid : Prop := fnExactTyOkUptoRow.holds Try.pinned (OpenSpec.upto fnExactTyOkSpec)

/-- 'laws.FnExactParseTy', WHERE WHAT IT READS IS OF BULK AT MOST 1048576: true; the input reads as it did. -/
def fnExactParseTyUptoRow : OpenClaim := { program := "ytlbjhdoedphlaaa", sum := "4040de821b9400f539d4a7260d0b8763c38df1c51208b06578c9e688b58ba130", func := "loop.example/g00187/laws.FnExactParseTy", spec := "fnExactParseTy", recurses := true, plainKeys := false, apart := false, narrowed := true }
def FnExactParseTyUptoSaid : Prop := fnExactParseTyUptoRow.holds Try.pinned (OpenSpec.upto fnExactParseTySpec)

/-- 'laws.FnExactSameTy', WHERE WHAT IT READS IS OF BULK AT MOST 1048576: true; the input reads as it did. -/
def fnExactSameTyUptoRow : OpenClaim := { program := "ytlbjhdoedphlaaa", sum := "4040de821b9400f539d4a7260d0b8763c38df1c51208b06578c9e688b58ba130", func := "loop.example/g00187/laws.FnExactSameTy", spec := "fnExactSameTy", recurses := true, loops := true, plainKeys := false, apart := false, narrowed := true }
def FnExactSameTyUptoSaid : Prop := fnExactSameTyUptoRow.holds Try.pinned (OpenSpec.upto fnExactSameTySpec)

/-- 'laws.FnExactTyNodes', WHERE WHAT IT READS IS OF BULK AT MOST 1048576: true; the input reads as it did. -/
def fnExactTyNodesUptoRow : OpenClaim := { program := "ytlbjhdoedphlaaa", sum := "4040de821b9400f539d4a7260d0b8763c38df1c51208b06578c9e688b58ba130", func := "loop.example/g00187/laws.FnExactTyNodes", spec := "fnExactTyNodes", recurses := true, loops := true, plainKeys := false, apart := false, narrowed := true }
def FnExactTyNodesUptoSaid : Prop := fnExactTyNodesUptoRow.holds Try.pinned (OpenSpec.upto fnExactTyNodesSpec)

/-- 'laws.FnExactGround', WHERE WHAT IT READS IS OF BULK AT MOST 1048576: true; the input reads as it did. -/
def fnExactGroundUptoRow : OpenClaim := { program := "ytlbjhdoedphlaaa", sum := "4040de821b9400f539d4a7260d0b8763c38df1c51208b06578c9e688b58ba130", func := "loop.example/g00187/laws.FnExactGround", spec := "fnExactGround", recurses := true, loops := true, plainKeys := false, apart := false, narrowed := true }
def FnExactGroundUptoSaid : Prop := fnExactGroundUptoRow.holds Try.pinned (OpenSpec.upto fnExactGroundSpec)

/-- 'laws.FnExactSubstTy', WHERE WHAT IT READS IS OF BULK AT MOST 1048576: true; the input reads as it did. -/
def fnExactSubstTyUptoRow : OpenClaim := { program := "ytlbjhdoedphlaaa", sum := "4040de821b9400f539d4a7260d0b8763c38df1c51208b06578c9e688b58ba130", func := "loop.example/g00187/laws.FnExactSubstTy", spec := "fnExactSubstTy", unfollowed := true, recurses := true, loops := true, plainKeys := false, apart := false, narrowed := true }
def FnExactSubstTyUptoSaid : Prop := fnExactSubstTyUptoRow.holds Try.pinned (OpenSpec.upto fnExactSubstTySpec)

/-- 'laws.FnExactVarsOf', WHERE WHAT IT READS IS OF BULK AT MOST 1048576: true; the input reads as it did. -/
def fnExactVarsOfUptoRow : OpenClaim := { program := "ytlbjhdoedphlaaa", sum := "4040de821b9400f539d4a7260d0b8763c38df1c51208b06578c9e688b58ba130", func := "loop.example/g00187/laws.FnExactVarsOf", spec := "fnExactVarsOf", recurses := true, loops := true, plainKeys := false, apart := false, narrowed := true }
def FnExactVarsOfUptoSaid : Prop := fnExactVarsOfUptoRow.holds Try.pinned (OpenSpec.upto fnExactVarsOfSpec)

end Rows
end Go.Proofs.Ytlbjhdoedphlaaa
