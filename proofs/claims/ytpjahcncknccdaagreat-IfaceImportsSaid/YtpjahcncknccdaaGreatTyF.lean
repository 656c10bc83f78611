/- Plain: values that are right, texts of items. -/
import Derived.Test.YtpjahcncknccdaaGreatTyM
import Derived.Test.YtpjahcncknccdaaGreatFxA
import Derived.Test.YtpjahcncknccdaaGreatNyA
import Derived.Test.YtpjahcncknccdaaGreatIyA
namespace Go.Proofs.YtpjahcncknccdaaGreat.Ty
open Go.RowKit
set_option linter.unusedSimpArgs false
set_option linter.unusedVariables false

def rightV (t b : Int) : Bool := if t = 1 then true else if t = 2 then F.Fl.canonS b == b else if t = 3 then decide (b ≤ 1) else false
def showS (t b : Int) : Bs := if t = 1 then Lib.itoa (wrap64 b) else if t = 2 then F.textS b else if t = 3 then truthS b else []
def fitsConst (i : It) : Bool := rightV i.typ i.bits && decide (i.params.length = 0)
/-- The first thing that is wrong with an item. -/
def rightI (i : It) : Int :=
  if i.kind ≠ 1 ∧ i.kind ≠ 3 then 1 else if N.rightS i.name ≠ 0 then N.rightS i.name else if 8 < i.params.length then 3
  else if i.kind = 1 then (if fitsConst i then 0 else 1) else (if fitsFn i then 0 else 1)
/-- An item's text. -/
def textI (i : It) : Bs :=
  if i.kind = 1 then [99, 111, 110, 115, 116, 32] ++ i.name ++ [58, 32] ++ nameS i.typ ++ [32, 61, 32] ++ showS i.typ i.bits
  else if i.kind = 3 then [102, 110, 32] ++ i.name ++ [40] ++ paramsS i.params ++ [41] ++ resultS i.typ else []
theorem tab_fr {w w' : World} (h : F.Tab w) (hf : Fr (fun _ => False) w w') : F.Tab w' := F.tab_kb h ⟨hf.kept, hf.size⟩
theorem kb_fr {w w' : World} (h : F.Kb w w') : Fr (fun _ => False) w w' := fr_of_kept h.1 h.2
theorem kb_frD {w w' : World} (h : D.Kb w w') : Fr (fun _ => False) w w' := fr_of_kept h.1 h.2
end Go.Proofs.YtpjahcncknccdaaGreat.Ty
