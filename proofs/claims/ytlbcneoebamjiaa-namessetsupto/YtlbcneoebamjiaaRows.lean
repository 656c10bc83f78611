/-
  No cell of these rows narrows 'for every input' (looked for: loops, veiled, ifaces, maps, wideKeys, modest, calm, conditions, laid).
  DERIVED. THE GIVEN ROWS OF THIS SEAT. 6 by the template 'for every input the law returns true; each argument reads behind the call as it read before'; 0 by the template 'total and deterministic' (their statements: YtlbcneoebamjiaaTotals.lean).
  GIVEN WITH THE SEED: the statements are not yours to turn. If you find one false, say at which input.
  Laid BY PROGRAM, IN A SANDBOX (cutbox-rows.mjs): the forced cells as the released guide's own fill.sh prints them over the translation eb9b289505fdc2a7… (all of the seat's roots in one cut). By AI agents, Wed Nov 11 2026. No macro, syntax, notation, axiom, sorry.
-/
import Derived.Test.YtlbcneoebamjiaaChecked
import GoSem.Claim
import GoSem.ClaimJoined
import GoSem.ClaimMapViews
import Derived.JoinedTies
import Derived.KernelRfl
namespace Go.Proofs.Ytlbcneoebamjiaa
/- THE CELL 'sum', in the pinned program and in every row, IS THE sha256 OF THE DUMP (.gsa) THAT YtlbcneoebamjiaaProg.lean LOADS. Nothing in Lean hashes anything: it is a label: what it is worth is what the hold of that sum in a sandbox is worth. -/
noncomputable def Try.pinned : Pinned := { name := "ytlbcneoebamjiaa", sum := "eb9b289505fdc2a778cc9e1ea45bc9cac14225204dc79051969e072c90ca5a1a", checked := Try.checked }
namespace Rows
def none {H : Type} : Left H := { results := [], args := [] }

/-- 'foundrylaw04.NamesRights': WHATEVER THE INPUT: true; the input reads as it did. -/
def namesRightsSpec : ChangeSpec := { name := "namesRights", fn := fun _ => fun
  | [d] => { results := [.lit (.bool true)], args := [d] }
  | _ => none }
def namesRightsRow : OpenClaim := { program := "ytlbcneoebamjiaa", sum := "eb9b289505fdc2a778cc9e1ea45bc9cac14225204dc79051969e072c90ca5a1a", func := "foundry/foundrylaw04.NamesRights", spec := "namesRights", inPlace := ["internal/bytealg.IndexByteString", "internal/bytealg.IndexString"], recurses := true, named := ["internal/bytealg.MaxLen"], apart := false }
def NamesRightsSaid : Prop := namesRightsRow.holds Try.pinned (OpenSpec.ofChange namesRightsSpec)

/-- ITS FALSE NEIGHBOUR: 'it returns false'. Refute it at one input. -/
def namesRightsWrong : ChangeSpec := { name := "namesRights", fn := fun _ => fun
  | [d] => { results := [.lit (.bool false)], args := [d] }
  | _ => none }
def NamesRightsWrongFalsely : Prop := namesRightsRow.holds Try.pinned (OpenSpec.ofChange namesRightsWrong)

/-- 'foundrylaw04.NamesSets': WHATEVER THE INPUT: true; the input reads as it did. -/
def namesSetsSpec : ChangeSpec := { name := "namesSets", fn := fun _ => fun
  | [d1, d2, d3] => { results := [.lit (.bool true)], args := [d1, d2, d3] }
  | _ => none }
def namesSetsRow : OpenClaim := { program := "ytlbcneoebamjiaa", sum := "eb9b289505fdc2a778cc9e1ea45bc9cac14225204dc79051969e072c90ca5a1a", func := "foundry/foundrylaw04.NamesSets", spec := "namesSets", inPlace := ["internal/bytealg.IndexByteString", "internal/bytealg.IndexString"], unfollowed := true, recurses := true, named := ["internal/bytealg.MaxLen"], apart := false }
def NamesSetsSaid : Prop := namesSetsRow.holds Try.pinned (OpenSpec.ofChange namesSetsSpec)

/-- ITS FALSE NEIGHBOUR: 'it returns false'. Refute it at one input. -/
def namesSetsWrong : ChangeSpec := { name := "namesSets", fn := fun _ => fun
  | [d1, d2, d3] => { results := [.lit (.bool false)], args := [d1, d2, d3] }
  | _ => none }
def NamesSetsWrongFalsely : Prop := namesSetsRow.holds Try.pinned (OpenSpec.ofChange namesSetsWrong)

/-- 'foundrylaw04.NamesOrders': WHATEVER THE INPUT: true; the input reads as it did. -/
def namesOrdersSpec : ChangeSpec := { name := "namesOrders", fn := fun _ => fun
  | [d1, d2] => { results := [.lit (.bool true)], args := [d1, d2] }
  | _ => none }
def namesOrdersRow : OpenClaim := { program := "ytlbcneoebamjiaa", sum := "eb9b289505fdc2a778cc9e1ea45bc9cac14225204dc79051969e072c90ca5a1a", func := "foundry/foundrylaw04.NamesOrders", spec := "namesOrders", inPlace := ["internal/bytealg.IndexByteString", "internal/bytealg.IndexString"], recurses := true, named := ["internal/bytealg.MaxLen"], apart := false }
def NamesOrdersSaid : Prop := namesOrdersRow.holds Try.pinned (OpenSpec.ofChange namesOrdersSpec)

/-- ITS FALSE NEIGHBOUR: 'it returns false'. Refute it at one input. -/
def namesOrdersWrong : ChangeSpec := { name := "namesOrders", fn := fun _ => fun
  | [d1, d2] => { results := [.lit (.bool false)], args := [d1, d2] }
  | _ => none }
def NamesOrdersWrongFalsely : Prop := namesOrdersRow.holds Try.pinned (OpenSpec.ofChange namesOrdersWrong)

/-- 'foundrylaw04.NamesFar': WHATEVER THE INPUT: true; the input reads as it did. -/
def namesFarSpec : ChangeSpec := { name := "namesFar", fn := fun _ => fun
  | [d1, d2, d3, d4] => { results := [.lit (.bool true)], args := [d1, d2, d3, d4] }
  | _ => none }
def namesFarRow : OpenClaim := { program := "ytlbcneoebamjiaa", sum := "eb9b289505fdc2a778cc9e1ea45bc9cac14225204dc79051969e072c90ca5a1a", func := "foundry/foundrylaw04.NamesFar", spec := "namesFar", inPlace := ["internal/bytealg.IndexByteString", "internal/bytealg.IndexString"], recurses := true, named := ["internal/bytealg.MaxLen"], apart := false }
def NamesFarSaid : Prop := namesFarRow.holds Try.pinned (OpenSpec.ofChange namesFarSpec)

/-- ITS FALSE NEIGHBOUR: 'it returns false'. Refute it at one input. -/
def namesFarWrong : ChangeSpec := { name := "namesFar", fn := fun _ => fun
  | [d1, d2, d3, d4] => { results := [.lit (.bool false)], args := [d1, d2, d3, d4] }
  | _ => none }
def NamesFarWrongFalsely : Prop := namesFarRow.holds Try.pinned (OpenSpec.ofChange namesFarWrong)

/-- 'foundrylaw04.NamesAlgebra': WHATEVER THE INPUT: true; the input reads as it did. -/
def namesAlgebraSpec : ChangeSpec := { name := "namesAlgebra", fn := fun _ => fun
  | [d1, d2, d3] => { results := [.lit (.bool true)], args := [d1, d2, d3] }
  | _ => none }
def namesAlgebraRow : OpenClaim := { program := "ytlbcneoebamjiaa", sum := "eb9b289505fdc2a778cc9e1ea45bc9cac14225204dc79051969e072c90ca5a1a", func := "foundry/foundrylaw04.NamesAlgebra", spec := "namesAlgebra", inPlace := ["internal/bytealg.IndexByteString", "internal/bytealg.IndexString"], unfollowed := true, recurses := true, named := ["internal/bytealg.MaxLen"], apart := false }
def NamesAlgebraSaid : Prop := namesAlgebraRow.holds Try.pinned (OpenSpec.ofChange namesAlgebraSpec)

/-- ITS FALSE NEIGHBOUR: 'it returns false'. Refute it at one input. -/
def namesAlgebraWrong : ChangeSpec := { name := "namesAlgebra", fn := fun _ => fun
  | [d1, d2, d3] => { results := [.lit (.bool false)], args := [d1, d2, d3] }
  | _ => none }
def NamesAlgebraWrongFalsely : Prop := namesAlgebraRow.holds Try.pinned (OpenSpec.ofChange namesAlgebraWrong)

/-- 'foundrylaw04.NamesMembers': WHATEVER THE INPUT: true; the input reads as it did. -/
def namesMembersSpec : ChangeSpec := { name := "namesMembers", fn := fun _ => fun
  | [d1, d2] => { results := [.lit (.bool true)], args := [d1, d2] }
  | _ => none }
def namesMembersRow : OpenClaim := { program := "ytlbcneoebamjiaa", sum := "eb9b289505fdc2a778cc9e1ea45bc9cac14225204dc79051969e072c90ca5a1a", func := "foundry/foundrylaw04.NamesMembers", spec := "namesMembers", inPlace := ["internal/bytealg.IndexByteString", "internal/bytealg.IndexString"], recurses := true, named := ["internal/bytealg.MaxLen"], apart := false }
def NamesMembersSaid : Prop := namesMembersRow.holds Try.pinned (OpenSpec.ofChange namesMembersSpec)

/-- ITS FALSE NEIGHBOUR: 'it returns false'. Refute it at one input. -/
def namesMembersWrong : ChangeSpec := { name := "namesMembers", fn := fun _ => fun
  | [d1, d2] => { results := [.lit (.bool false)], args := [d1, d2] }
  | _ => none }
def NamesMembersWrongFalsely : Prop := namesMembersRow.holds Try.pinned (OpenSpec.ofChange namesMembersWrong)

/- THE SECOND FORM. 'bulk': how many values and letters a reading holds, each counted each time it is reached (what is shared counts as often as it is met; a slice's spare places count too). A statement '..UptoSaid' is the law's where the arguments, and the package variables that the reading takes, are together of bulk at most 1048576: NARROWER than '..Said'. Prove '..Said' where nothing that the law and all that it calls make is longer than what came in: it says more and counts as full. Else prove '..UptoSaid'. A law counts once. -/
mutual
def uptoBulk {H : Type} : DataW H → Nat
  | .lit (.string bytes) => bytes.length + 1
  | .lit _ => 1
  | .nil => 1
  | .ptr d => uptoBulk d + 1
  | .slice elems spare => uptoBulkAll elems + uptoBulkAll spare + 1
  | .agg parts => uptoBulkAll parts + 1
  | .iface _ d => uptoBulk d + 1
  | .map entries => uptoBulkEntries entries + 1
  | .held _ => 1
def uptoBulkAll {H : Type} : List (DataW H) → Nat
  | [] => 0
  | d :: r => uptoBulk d + uptoBulkAll r
def uptoBulkEntries {H : Type} : List (Lit × DataW H) → Nat
  | [] => 0
  | x :: r => uptoBulkEntry x + uptoBulkEntries r
def uptoBulkEntry {H : Type} : Lit × DataW H → Nat
  | (.string bytes, d) => bytes.length + uptoBulk d + 1
  | (_, d) => uptoBulk d + 1
 end
def uptoSmall : (H : Type) → List (DataW H) → Bool := fun _ ds => decide (uptoBulkAll ds ≤ 1048576)
def OpenSpec.upto (s : _root_.Go.ChangeSpec) : _root_.Go.OpenSpec := { _root_.Go.OpenSpec.ofChange s with cond := some uptoSmall }

/-- 'foundrylaw04.NamesRights', WHERE WHAT IT READS IS OF BULK AT MOST 1048576: true; the input reads as it did. -/
def namesRightsUptoRow : OpenClaim := { program := "ytlbcneoebamjiaa", sum := "eb9b289505fdc2a778cc9e1ea45bc9cac14225204dc79051969e072c90ca5a1a", func := "foundry/foundrylaw04.NamesRights", spec := "namesRights", inPlace := ["internal/bytealg.IndexByteString", "internal/bytealg.IndexString"], recurses := true, named := ["internal/bytealg.MaxLen"], apart := false, narrowed := true }
def NamesRightsUptoSaid : Prop := namesRightsUptoRow.holds Try.pinned (OpenSpec.upto namesRightsSpec)

/-- 'foundrylaw04.NamesSets', WHERE WHAT IT READS IS OF BULK AT MOST 1048576: true; the input reads as it did. -/
def namesSetsUptoRow : OpenClaim := { program := "ytlbcneoebamjiaa", sum := "eb9b289505fdc2a778cc9e1ea45bc9cac14225204dc79051969e072c90ca5a1a", func := "foundry/foundrylaw04.NamesSets", spec := "namesSets", inPlace := ["internal/bytealg.IndexByteString", "internal/bytealg.IndexString"], unfollowed := true, recurses := true, named := ["internal/bytealg.MaxLen"], apart := false, narrowed := true }
def NamesSetsUptoSaid : Prop := namesSetsUptoRow.holds Try.pinned (OpenSpec.upto namesSetsSpec)

/-- 'foundrylaw04.NamesOrders', WHERE WHAT IT READS IS OF BULK AT MOST 1048576: true; the input reads as it did. -/
def namesOrdersUptoRow : OpenClaim := { program := "ytlbcneoebamjiaa", sum := "eb9b289505fdc2a778cc9e1ea45bc9cac14225204dc79051969e072c90ca5a1a", func := "foundry/foundrylaw04.NamesOrders", spec := "namesOrders", inPlace := ["internal/bytealg.IndexByteString", "internal/bytealg.IndexString"], recurses := true, named := ["internal/bytealg.MaxLen"], apart := false, narrowed := true }
def NamesOrdersUptoSaid : Prop := namesOrdersUptoRow.holds Try.pinned (OpenSpec.upto namesOrdersSpec)

/-- 'foundrylaw04.NamesFar', WHERE WHAT IT READS IS OF BULK AT MOST 1048576: true; the input reads as it did. -/
def namesFarUptoRow : OpenClaim := { program := "ytlbcneoebamjiaa", sum := "eb9b289505fdc2a778cc9e1ea45bc9cac14225204dc79051969e072c90ca5a1a", func := "foundry/foundrylaw04.NamesFar", spec := "namesFar", inPlace := ["internal/bytealg.IndexByteString", "internal/bytealg.IndexString"], recurses := true, named := ["internal/bytealg.MaxLen"], apart := false, narrowed := true }
def NamesFarUptoSaid : Prop := namesFarUptoRow.holds Try.pinned (OpenSpec.upto namesFarSpec)

/-- 'foundrylaw04.NamesAlgebra', WHERE WHAT IT READS IS OF BULK AT MOST 1048576: true; the input reads as it did. -/
def namesAlgebraUptoRow : OpenClaim := { program := "ytlbcneoebamjiaa", sum := "eb9b289505fdc2a778cc9e1ea45bc9cac14225204dc79051969e072c90ca5a1a", func := "foundry/foundrylaw04.NamesAlgebra", spec := "namesAlgebra", inPlace := ["internal/bytealg.IndexByteString", "internal/bytealg.IndexString"], unfollowed := true, recurses := true, named := ["internal/bytealg.MaxLen"], apart := false, narrowed := true }
def NamesAlgebraUptoSaid : Prop := namesAlgebraUptoRow.holds Try.pinned (OpenSpec.upto namesAlgebraSpec)

/-- 'foundrylaw04.NamesMembers', WHERE WHAT IT READS IS OF BULK AT MOST 1048576: true; the input reads as it did. -/
def namesMembersUptoRow : OpenClaim := { program := "ytlbcneoebamjiaa", sum := "eb9b289505fdc2a778cc9e1ea45bc9cac14225204dc79051969e072c90ca5a1a", func := "foundry/foundrylaw04.NamesMembers", spec := "namesMembers", inPlace := ["internal/bytealg.IndexByteString", "internal/bytealg.IndexString"], recurses := true, named := ["internal/bytealg.MaxLen"], apart := false, narrowed := true }
def NamesMembersUptoSaid : Prop := namesMembersUptoRow.holds Try.pinned (OpenSpec.upto namesMembersSpec)

end Rows
end Go.Proofs.Ytlbcneoebamjiaa
