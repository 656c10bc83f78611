/-
  No cell of these rows narrows 'for every input' (looked for: loops, veiled, ifaces, maps, wideKeys, modest, calm, conditions, laid).
  DERIVED. THE GIVEN ROWS OF THIS SEAT. 2 by the template 'for every input the law returns true; each argument reads behind the call as it read before'; 0 by the template 'total and deterministic' (their statements: YtajefmmggefbeaaTotals.lean).
  GIVEN WITH THE SEED: the statements are not yours to turn. If you find one false, say at which input.
  Laid BY PROGRAM, IN A SANDBOX (cutbox-rows.mjs): the forced cells as the released guide's own fill.sh prints them over the translation a5dd1d4c45f0654f… (all of the seat's roots in one cut). By AI agents, Wed Nov 11 2026. No macro, syntax, notation, axiom, sorry.
-/
import Derived.Test.YtajefmmggefbeaaChecked
import GoSem.Claim
import GoSem.ClaimJoined
import GoSem.ClaimMapViews
import Derived.JoinedTies
import Derived.KernelRfl
namespace Go.Proofs.Ytajefmmggefbeaa
/- THE CELL 'sum', in the pinned program and in every row, IS THE sha256 OF THE DUMP (.gsa) THAT YtajefmmggefbeaaProg.lean LOADS. Nothing in Lean hashes anything: it is a label: what it is worth is what the hold of that sum in a sandbox is worth. -/
noncomputable def Try.pinned : Pinned := { name := "ytajefmmggefbeaa", sum := "a5dd1d4c45f0654fcb90186cc847cd0abbcf6de8091e5b146f34157ba5fffcf3", checked := Try.checked }
namespace Rows
def none {H : Type} : Left H := { results := [], args := [] }

/-- 'foundrylaw11.DepgraphLooks': WHATEVER THE INPUT: true; the input reads as it did. -/
def depgraphLooksSpec : ChangeSpec := { name := "depgraphLooks", fn := fun _ => fun
  | [d1, d2, d3] => { results := [.lit (.bool true)], args := [d1, d2, d3] }
  | _ => none }
def depgraphLooksRow : OpenClaim := { program := "ytajefmmggefbeaa", sum := "a5dd1d4c45f0654fcb90186cc847cd0abbcf6de8091e5b146f34157ba5fffcf3", func := "foundry/foundrylaw11.DepgraphLooks", spec := "depgraphLooks", unfollowed := true, recurses := true, apart := false }
def DepgraphLooksSaid : Prop := depgraphLooksRow.holds Try.pinned (OpenSpec.ofChange depgraphLooksSpec)

/-- ITS FALSE NEIGHBOUR: 'it returns false'. Refute it at one input. -/
def depgraphLooksWrong : ChangeSpec := { name := "depgraphLooks", fn := fun _ => fun
  | [d1, d2, d3] => { results := [.lit (.bool false)], args := [d1, d2, d3] }
  | _ => none }
def DepgraphLooksWrongFalsely : Prop := depgraphLooksRow.holds Try.pinned (OpenSpec.ofChange depgraphLooksWrong)

/-- 'foundrylaw11.DepgraphOrders': WHATEVER THE INPUT: true; the input reads as it did. -/
def depgraphOrdersSpec : ChangeSpec := { name := "depgraphOrders", fn := fun _ => fun
  | [d] => { results := [.lit (.bool true)], args := [d] }
  | _ => none }
def depgraphOrdersRow : OpenClaim := { program := "ytajefmmggefbeaa", sum := "a5dd1d4c45f0654fcb90186cc847cd0abbcf6de8091e5b146f34157ba5fffcf3", func := "foundry/foundrylaw11.DepgraphOrders", spec := "depgraphOrders", unfollowed := true, recurses := true, apart := false }
def DepgraphOrdersSaid : Prop := depgraphOrdersRow.holds Try.pinned (OpenSpec.ofChange depgraphOrdersSpec)

/-- ITS FALSE NEIGHBOUR: 'it returns false'. Refute it at one input. -/
def depgraphOrdersWrong : ChangeSpec := { name := "depgraphOrders", fn := fun _ => fun
  | [d] => { results := [.lit (.bool false)], args := [d] }
  | _ => none }
def DepgraphOrdersWrongFalsely : Prop := depgraphOrdersRow.holds Try.pinned (OpenSpec.ofChange depgraphOrdersWrong)

/- THE SECOND FORM. 'bulk': how many values and letters a reading holds, each counted each time it is reached (what is shared counts as often as it is met; a slice's spare places count too). A statement '..UptoSaid' is the law's where the arguments, and the package variables that the reading takes, are together of bulk at most 1048576: NARROWER than '..Said'. Prove '..Said' where nothing that the law and all that it calls make is longer than what came in: it says more and counts as full. Else prove '..UptoSaid'. A law counts once. -/
mutual
def uptoBulk {H : Type} : DataW H → Nat
  | .lit (.string bytes) => bytes.length + 1
  | .lit _ => 1
  | .nil => 1
  | .ptr d => uptoBulk d + 1
  | .slice elems spare => uptoBulkAll elems + uptoBulkAll spare + 1
  | .agg parts => uptoBulkAll parts + 1
  | .iface _ d => uptoBulk d + 1
  | .map entries => uptoBulkEntries entries + 1
  | .held _ => 1
def uptoBulkAll {H : Type} : List (DataW H) → Nat
  | [] => 0
  | d :: r => uptoBulk d + uptoBulkAll r
def uptoBulkEntries {H : Type} : List (Lit × DataW H) → Nat
  | [] => 0
  | x :: r => uptoBulkEntry x + uptoBulkEntries r
def uptoBulkEntry {H : Type} : Lit × DataW H → Nat
  | (.string bytes, d) => bytes.length + uptoBulk d + 1
  | (_, d) => uptoBulk d + 1
 end
def uptoSmall : (H : Type) → List (DataW H) → Bool := fun _ ds => decide (uptoBulkAll ds ≤ 1048576)
def OpenSpec.upto (s : _root_.Go.ChangeSpec) : _root_.Go.OpenSpec := { _root_.Go.OpenSpec.ofChange s with cond := some uptoSmall }

/-- 'foundrylaw11.DepgraphLooks', WHERE WHAT IT READS IS OF BULK AT MOST 1048576: true; the input reads as it did. -/
def depgraphLooksUptoRow : OpenClaim := { program := "ytajefmmggefbeaa", sum := "a5dd1d4c45f0654fcb90186cc847cd0abbcf6de8091e5b146f34157ba5fffcf3", func := "foundry/foundrylaw11.DepgraphLooks", spec := "depgraphLooks", unfollowed := true, recurses := true, apart := false, narrowed := true }
def DepgraphLooksUptoSaid : Prop := depgraphLooksUptoRow.holds Try.pinned (OpenSpec.upto depgraphLooksSpec)

/-- 'foundrylaw11.DepgraphOrders', WHERE WHAT IT READS IS OF BULK AT MOST 1048576: true; the input reads as it did. -/
def depgraphOrdersUptoRow : OpenClaim := { program := "ytajefmmggefbeaa", sum := "a5dd1d4c45f0654fcb90186cc847cd0abbcf6de8091e5b146f34157ba5fffcf3", func := "foundry/foundrylaw11.DepgraphOrders", spec := "depgraphOrders", unfollowed := true, recurses := true, apart := false, narrowed := true }
def DepgraphOrdersUptoSaid : Prop := depgraphOrdersUptoRow.holds Try.pinned (OpenSpec.upto depgraphOrdersSpec)

end Rows
end Go.Proofs.Ytajefmmggefbeaa
