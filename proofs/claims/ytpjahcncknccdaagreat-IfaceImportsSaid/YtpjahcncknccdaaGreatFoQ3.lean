/- Names seen: a set that the program holds. -/
import Derived.Test.YtpjahcncknccdaaGreatFoQ2
import Derived.Maps.RangeWalk
import Derived.Maps.OwnSet
import Derived.Maps.Views
namespace Go.Proofs.YtpjahcncknccdaaGreat.Fo
open Go.RowKit Te
set_option linter.unusedSimpArgs false
set_option linter.unusedVariables false

abbrev SK : Maps.Keyed Tryz.prog 9 := Maps.string_keyed Tryz.underlying9
theorem key_str (s : Bs) (h : OkN s) : keyOf Tryz.prog 9 (ct s) = some (.string s) := by
  rw [keyOf_string Tryz.underlying9]
  have hs : s.length ≤ maxLen := by unfold OkN at h; unfold maxLen; omega
  simp [mapKey, Tryz.underlying9, ByteArray.size, hs]
theorem keylit (s : Bs) : WideAt.IsKeyLit (.string s) := trivial
theorem set_under : Tryz.prog.underlying 117 = some (.map 9 118) := Tryz.underlying117
theorem zero_un (w : World) : (zeroValue 118).run Tryz.prog w = .ok (.agg #[]) w := Tryz.zeroValue118 w
theorem own_fr {H : Type} {R : Value → Option (DataW H × List MemPlace)} {S : Nat → Prop} {w w' : World} {b n : Nat} {D : DataW H} (h : w.ownsMap Tryz.prog 9 R b n D) (hf : Fr S w w') (hb : ¬ S b) : w'.ownsMap Tryz.prog 9 R b n D := by
  obtain ⟨es, clock, h1, h2⟩ := h
  exact ⟨es, clock, hf.heap h1 hb, h2⟩
theorem grownby_fr {w w' : World} {row : Option Nat} (h : w.grownBy w' row) : Fr (fun k => row = some k) w w' := (Fr.grown h).mono fun k _ e => e.symm
def SM (w : World) (b n : Nat) (u : List Bs) : Prop := ∃ D : DataW Value, w.ownsMap Tryz.prog 9 unitElem b n D ∧ ∀ s : Bs, Maps.has D (.string s) = decide (s ∈ u)
theorem SM.keep {S : Nat → Prop} {w w' : World} {b n : Nat} {u : List Bs} (h : SM w b n u) (hf : Fr S w w') (hb : ¬ S b) : SM w' b n u := by
  obtain ⟨D, h1, h2⟩ := h
  exact ⟨D, own_fr h1 hf hb, h2⟩
theorem SM.later {w w' : World} {b n : Nat} {u : List Bs} (h : SM w b n u) (hf : Fr (fun _ => False) w w') : SM w' b n u := h.keep hf (fun f => f)
theorem SM.lt {w : World} {b n : Nat} {u : List Bs} (h : SM w b n u) : b < w.heap.size := by
  obtain ⟨D, h1, _⟩ := h
  exact h1.lt
theorem SM.new (w : World) : SM (w.alloc (.map #[] 0)) w.heap.size 0 [] := ⟨_, World.ownsMap_made w _ _ _, fun s => rfl⟩
theorem SM.look {w : World} {b n : Nat} {u : List Bs} (h : SM w b n u) (s : Bs) (hs : OkN s) : (Instr.lookup 117 (.map (some b)) (ct s) true).run Tryz.prog w = .ok (.tuple #[.agg #[], .bool (decide (s ∈ u))]) w := by
  obtain ⟨D, h1, h2⟩ := h
  obtain ⟨v, ps, hrun, hv⟩ := h1.look_ok SK set_under (zero_un w) unitElem_mk (key_str s hs)
  obtain ⟨rfl, _⟩ := unitElem_inv hv
  rw [h2 s] at hrun
  exact hrun
theorem SM.put {w : World} {b n : Nat} {u : List Bs} (h : SM w b n u) (s : Bs) (hs : OkN s) (hn : n < 9223372036854775807) : ∃ w', (Instr.mapUpdate 117 (.map (some b)) (ct s) (.agg #[])).run Tryz.prog w = .ok () w' ∧ SM w' b (n + 1) (s :: u) ∧ Fr (fun k => k = b) w w' := by
  obtain ⟨D, h1, h2⟩ := h
  obtain ⟨w', hrun, h3, h4⟩ := h1.update SK set_under (by unfold maxLen; omega) (key_str s hs) unitElem_mk
  refine ⟨w', hrun, ⟨_, h3, fun x => ?_⟩, (grownby_fr h4).mono fun k _ e => (Option.some.inj e).symm⟩
  by_cases e : x = s
  · subst e
    rw [Maps.has_put_same h1.isMap (keylit _) _]
    simp
  · have hne : (Lit.string x) ≠ .string s := fun h => e (by cases h; rfl)
    rw [Maps.has_put_other hne, h2 x]
    simp [e]
end Go.Proofs.YtpjahcncknccdaaGreat.Fo
