/-
  NARROWER THAN 'FOR EVERY INPUT', by the rows' own cells (each row's printed sentence says how): IfaceShown: loops · IfaceOrder: loops · IfaceImports: loops.
  DERIVED. THE GIVEN ROWS OF THIS SEAT. 4 by the template 'for every input the law returns true; each argument reads behind the call as it read before'; 0 by the template 'total and deterministic' (their statements: YtpjahcncknccdaaGreatTotals.lean).
  GIVEN WITH THE SEED: the statements are not yours to turn. If you find one false, say at which input.
  Laid BY PROGRAM, IN A SANDBOX (cutbox-rows.mjs): the forced cells as the released guide's own fill.sh prints them over the translation 95aafdff55275ee6… (all of the seat's roots in one cut). By AI agents, Wed Nov 11 2026. No macro, syntax, notation, axiom, sorry.
-/
import Derived.Test.YtpjahcncknccdaaGreatChecked
import GoSem.Claim
import GoSem.ClaimJoined
import GoSem.ClaimMapViews
import Derived.JoinedTies
import Derived.KernelRfl
namespace Go.Proofs.YtpjahcncknccdaaGreat
/- THE CELL 'sum', in the pinned program and in every row, IS THE sha256 OF THE DUMP (.gsa) THAT YtpjahcncknccdaaGreatProg.lean LOADS. Nothing in Lean hashes anything: it is a label: what it is worth is what the hold of that sum in a sandbox is worth. -/
noncomputable def Tryz.pinned : Pinned := { name := "ytpjahcncknccdaagreat", sum := "95aafdff55275ee6b5761fc837e5a71873d9c5f996942ca352738ddaee17ddb2", checked := Tryz.checked }
namespace Rows
def none {H : Type} : Left H := { results := [], args := [] }

/-- 'foundrylaw10.IfaceOneText': WHATEVER THE INPUT: true; the input reads as it did. -/
def ifaceOneTextSpec : ChangeSpec := { name := "ifaceOneText", fn := fun _ => fun
  | [d1, d2, d3] => { results := [.lit (.bool true)], args := [d1, d2, d3] }
  | _ => none }
def ifaceOneTextRow : OpenClaim := { program := "ytpjahcncknccdaagreat", sum := "95aafdff55275ee6b5761fc837e5a71873d9c5f996942ca352738ddaee17ddb2", func := "foundry/foundrylaw10.IfaceOneText", spec := "ifaceOneText", inPlace := ["math.Float64frombits", "math.Float64bits", "math/bits.Sub64", "math/bits.Add64", "internal/reflectlite.TypeOf"], unfollowed := true, recurses := true, apart := false }
def IfaceOneTextSaid : Prop := ifaceOneTextRow.holds Tryz.pinned (OpenSpec.ofChange ifaceOneTextSpec)

/-- ITS FALSE NEIGHBOUR: 'it returns false'. Refute it at one input. -/
def ifaceOneTextWrong : ChangeSpec := { name := "ifaceOneText", fn := fun _ => fun
  | [d1, d2, d3] => { results := [.lit (.bool false)], args := [d1, d2, d3] }
  | _ => none }
def IfaceOneTextWrongFalsely : Prop := ifaceOneTextRow.holds Tryz.pinned (OpenSpec.ofChange ifaceOneTextWrong)

/-- 'foundrylaw10.IfaceShown': WHATEVER THE INPUT: true; the input reads as it did. -/
def ifaceShownSpec : ChangeSpec := { name := "ifaceShown", fn := fun _ => fun
  | [d1, d2] => { results := [.lit (.bool true)], args := [d1, d2] }
  | _ => none }
def ifaceShownRow : OpenClaim := { program := "ytpjahcncknccdaagreat", sum := "95aafdff55275ee6b5761fc837e5a71873d9c5f996942ca352738ddaee17ddb2", func := "foundry/foundrylaw10.IfaceShown", spec := "ifaceShown", inPlace := ["math.Float64frombits", "math.Float64bits", "math/bits.Sub64", "math/bits.Add64", "internal/reflectlite.TypeOf"], unfollowed := true, recurses := true, loops := true, apart := false }
def IfaceShownSaid : Prop := ifaceShownRow.holds Tryz.pinned (OpenSpec.ofChange ifaceShownSpec)

/-- ITS FALSE NEIGHBOUR: 'it returns false'. Refute it at one input. -/
def ifaceShownWrong : ChangeSpec := { name := "ifaceShown", fn := fun _ => fun
  | [d1, d2] => { results := [.lit (.bool false)], args := [d1, d2] }
  | _ => none }
def IfaceShownWrongFalsely : Prop := ifaceShownRow.holds Tryz.pinned (OpenSpec.ofChange ifaceShownWrong)

/-- 'foundrylaw10.IfaceOrder': WHATEVER THE INPUT: true; the input reads as it did. -/
def ifaceOrderSpec : ChangeSpec := { name := "ifaceOrder", fn := fun _ => fun
  | [d1, d2, d3] => { results := [.lit (.bool true)], args := [d1, d2, d3] }
  | _ => none }
def ifaceOrderRow : OpenClaim := { program := "ytpjahcncknccdaagreat", sum := "95aafdff55275ee6b5761fc837e5a71873d9c5f996942ca352738ddaee17ddb2", func := "foundry/foundrylaw10.IfaceOrder", spec := "ifaceOrder", inPlace := ["math.Float64frombits", "math.Float64bits", "math/bits.Sub64", "math/bits.Add64", "internal/reflectlite.TypeOf"], unfollowed := true, recurses := true, loops := true, apart := false }
def IfaceOrderSaid : Prop := ifaceOrderRow.holds Tryz.pinned (OpenSpec.ofChange ifaceOrderSpec)

/-- ITS FALSE NEIGHBOUR: 'it returns false'. Refute it at one input. -/
def ifaceOrderWrong : ChangeSpec := { name := "ifaceOrder", fn := fun _ => fun
  | [d1, d2, d3] => { results := [.lit (.bool false)], args := [d1, d2, d3] }
  | _ => none }
def IfaceOrderWrongFalsely : Prop := ifaceOrderRow.holds Tryz.pinned (OpenSpec.ofChange ifaceOrderWrong)

/-- 'foundrylaw10.IfaceImports': WHATEVER THE INPUT: true; the input reads as it did. -/
def ifaceImportsSpec : ChangeSpec := { name := "ifaceImports", fn := fun _ => fun
  | [d1, d2, d3] => { results := [.lit (.bool true)], args := [d1, d2, d3] }
  | _ => none }
def ifaceImportsRow : OpenClaim := { program := "ytpjahcncknccdaagreat", sum := "95aafdff55275ee6b5761fc837e5a71873d9c5f996942ca352738ddaee17ddb2", func := "foundry/foundrylaw10.IfaceImports", spec := "ifaceImports", inPlace := ["math.Float64frombits", "math.Float64bits", "math/bits.Sub64", "math/bits.Add64", "internal/reflectlite.TypeOf"], unfollowed := true, recurses := true, loops := true, apart := false }
def IfaceImportsSaid : Prop := ifaceImportsRow.holds Tryz.pinned (OpenSpec.ofChange ifaceImportsSpec)

/-- ITS FALSE NEIGHBOUR: 'it returns false'. Refute it at one input. -/
def ifaceImportsWrong : ChangeSpec := { name := "ifaceImports", fn := fun _ => fun
  | [d1, d2, d3] => { results := [.lit (.bool false)], args := [d1, d2, d3] }
  | _ => none }
def IfaceImportsWrongFalsely : Prop := ifaceImportsRow.holds Tryz.pinned (OpenSpec.ofChange ifaceImportsWrong)

/- THE SECOND FORM. 'bulk': how many values and letters a reading holds, each counted each time it is reached (what is shared counts as often as it is met; a slice's spare places count too). A statement '..UptoSaid' is the law's where the arguments, and the package variables that the reading takes, are together of bulk at most 1048576: NARROWER than '..Said'. Prove '..Said' where nothing that the law and all that it calls make is longer than what came in: it says more and counts as full. Else prove '..UptoSaid'. A law counts once. -/
mutual
def uptoBulk {H : Type} : DataW H → Nat
  | .lit (.string bytes) => bytes.length + 1
  | .lit _ => 1
  | .nil => 1
  | .ptr d => uptoBulk d + 1
  | .slice elems spare => uptoBulkAll elems + uptoBulkAll spare + 1
  | .agg parts => uptoBulkAll parts + 1
  | .iface _ d => uptoBulk d + 1
  | .map entries => uptoBulkEntries entries + 1
  | .held _ => 1
def uptoBulkAll {H : Type} : List (DataW H) → Nat
  | [] => 0
  | d :: r => uptoBulk d + uptoBulkAll r
def uptoBulkEntries {H : Type} : List (Lit × DataW H) → Nat
  | [] => 0
  | x :: r => uptoBulkEntry x + uptoBulkEntries r
def uptoBulkEntry {H : Type} : Lit × DataW H → Nat
  | (.string bytes, d) => bytes.length + uptoBulk d + 1
  | (_, d) => uptoBulk d + 1
 end
def uptoSmall : (H : Type) → List (DataW H) → Bool := fun _ ds => decide (uptoBulkAll ds ≤ 1048576)
def OpenSpec.upto (s : _root_.Go.ChangeSpec) : _root_.Go.OpenSpec := { _root_.Go.OpenSpec.ofChange s with cond := some uptoSmall }

/-- 'foundrylaw10.IfaceOneText', WHERE WHAT IT READS IS OF BULK AT MOST 1048576: true; the input reads as it did. -/
def ifaceOneTextUptoRow : OpenClaim := { program := "ytpjahcncknccdaagreat", sum := "95aafdff55275ee6b5761fc837e5a71873d9c5f996942ca352738ddaee17ddb2", func := "foundry/foundrylaw10.IfaceOneText", spec := "ifaceOneText", inPlace := ["math.Float64frombits", "math.Float64bits", "math/bits.Sub64", "math/bits.Add64", "internal/reflectlite.TypeOf"], unfollowed := true, recurses := true, apart := false, narrowed := true }
def IfaceOneTextUptoSaid : Prop := ifaceOneTextUptoRow.holds Tryz.pinned (OpenSpec.upto ifaceOneTextSpec)

/-- 'foundrylaw10.IfaceShown', WHERE WHAT IT READS IS OF BULK AT MOST 1048576: true; the input reads as it did. -/
def ifaceShownUptoRow : OpenClaim := { program := "ytpjahcncknccdaagreat", sum := "95aafdff55275ee6b5761fc837e5a71873d9c5f996942ca352738ddaee17ddb2", func := "foundry/foundrylaw10.IfaceShown", spec := "ifaceShown", inPlace := ["math.Float64frombits", "math.Float64bits", "math/bits.Sub64", "math/bits.Add64", "internal/reflectlite.TypeOf"], unfollowed := true, recurses := true, loops := true, apart := false, narrowed := true }
def IfaceShownUptoSaid : Prop := ifaceShownUptoRow.holds Tryz.pinned (OpenSpec.upto ifaceShownSpec)

/-- 'foundrylaw10.IfaceOrder', WHERE WHAT IT READS IS OF BULK AT MOST 1048576: true; the input reads as it did. -/
def ifaceOrderUptoRow : OpenClaim := { program := "ytpjahcncknccdaagreat", sum := "95aafdff55275ee6b5761fc837e5a71873d9c5f996942ca352738ddaee17ddb2", func := "foundry/foundrylaw10.IfaceOrder", spec := "ifaceOrder", inPlace := ["math.Float64frombits", "math.Float64bits", "math/bits.Sub64", "math/bits.Add64", "internal/reflectlite.TypeOf"], unfollowed := true, recurses := true, loops := true, apart := false, narrowed := true }
def IfaceOrderUptoSaid : Prop := ifaceOrderUptoRow.holds Tryz.pinned (OpenSpec.upto ifaceOrderSpec)

/-- 'foundrylaw10.IfaceImports', WHERE WHAT IT READS IS OF BULK AT MOST 1048576: true; the input reads as it did. -/
def ifaceImportsUptoRow : OpenClaim := { program := "ytpjahcncknccdaagreat", sum := "95aafdff55275ee6b5761fc837e5a71873d9c5f996942ca352738ddaee17ddb2", func := "foundry/foundrylaw10.IfaceImports", spec := "ifaceImports", inPlace := ["math.Float64frombits", "math.Float64bits", "math/bits.Sub64", "math/bits.Add64", "internal/reflectlite.TypeOf"], unfollowed := true, recurses := true, loops := true, apart := false, narrowed := true }
def IfaceImportsUptoSaid : Prop := ifaceImportsUptoRow.holds Tryz.pinned (OpenSpec.upto ifaceImportsSpec)

end Rows
end Go.Proofs.YtpjahcncknccdaaGreat
