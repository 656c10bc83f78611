/- WireWrites walked, for any list. -/
import Derived.Test.YtflemhekoffpoaaWiWrites
namespace Go.Proofs.Ytflemhekoffpoaa
theorem wireWrites.walk (v : Value) (os : List OpD) (W : World) (h : OpsIs W v os) (hs : (os.map OpD.size).sum ≤ 1048576) :
    Calls Try.prog 3 #[v] W fun e w' => e = .returned (.bool true) ∧ Fr (fun _ => False) W w' := by
  obtain ⟨ao, cap, rfl, h1, h2, h3⟩ := h
  exact writes_any ao cap os.length os W rfl h1 h2 hs h3
end Go.Proofs.Ytflemhekoffpoaa
