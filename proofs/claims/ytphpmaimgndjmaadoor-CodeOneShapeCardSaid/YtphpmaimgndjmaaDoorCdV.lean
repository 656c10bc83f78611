/- ways, of an instruction that is neither try nor untry, is where it leads. -/
import Derived.Test.YtphpmaimgndjmaaDoorCdQ2
import Derived.Test.YtphpmaimgndjmaaDoorCdL2
namespace Go.Proofs.YtphpmaimgndjmaaDoor.Cd
open Go.RowKit Ty
set_option linter.unusedSimpArgs false
set_option linter.unusedVariables false

theorem nuR_vals (op : Int) : nuR op = 0 ∨ nuR op = 1 ∨ nuR op = 2 ∨ nuR op = 3 ∨ nuR op = 4 := by
  unfold nuR
  by_cases h1 : op = 2 ∨ op = 3
  · rw [if_pos h1]; simp
  rw [if_neg h1]
  by_cases h2 : op = 4 ∨ op = 5
  · rw [if_pos h2]; simp
  rw [if_neg h2]
  by_cases h3 : op = 8 ∨ op = 9 ∨ op = 15
  · rw [if_pos h3]; simp
  rw [if_neg h3]
  by_cases h4 : op = 10
  · rw [if_pos h4]; simp
  rw [if_neg h4]; simp
abbrev rwV (op : Int) : Value := .agg #[ct (nmR op), ci (byR op), ci (lo op), ci (hi op), ci (nuR op), ci (taR op), ci (puR op), ci (trR op), .bool (enR op)]
theorem ways_of (f : Fu) (p : Fm) (q gs ga n k b3 o3 c2 c3 c4 c5 : Nat) (v0 : Value) (a2 a4 a5 : Option Addr) (L : Cs) (s : Sp) (g : Bool) (i : In) (st' : Bs) (T : List Int) (fit : Bool) (w : World)
    (h : Wk w q gs ga n v0 (ci f.sg.res) (.slice a2 f.loc.length c2) (.slice (some ⟨b3, o3, none⟩) n c3) (.slice a4 p.fns.length c4) (.slice a5 p.vars.length c5) L) (hk : L[k]? = some (some (g, s))) (hn : n ≤ 4096) (hc3 : n ≤ c3) (hc3m : c3 ≤ 9223372036854775807) (hlen : f.cd.length = n)
    (hcell : ∀ (j : Nat) (u : Value), (inC i)[j]? = some u → w.cell? ⟨b3, o3 + k * 4 + j, none⟩ = some u) (hi : f.cd.getD k default = i) (hr : rightS i = true) (h15 : i.op ≠ 15) (h16 : i.op ≠ 16) (hov : over s = false)
    (ks : hasS (nuR i.op) i.n f.loc.length n p.fns.length p.vars.length = true → ∀ W, Fr (fun _ => False) w W → Calls Tryd.prog 53 #[.pointer (some ⟨q, 0, none⟩), inV i, rwV i.op, ct (encSt s.st)] W fun e w' => e = .returned (.tuple #[ct st', .bool fit]) ∧ Fr (fun _ => False) W w')
    (hT : fit = true → st' = encSt T) (hTl : st'.length ≤ 1000000)
    (hst : stepS f p i s = if hasS (nuR i.op) i.n f.loc.length n p.fns.length p.vars.length = true ∧ fit = true then some ((if enR i.op then none else some ⟨T, s.tr⟩), (if nuR i.op = 4 then some ⟨T, s.tr⟩ else none)) else none)
    (hsm : enR i.op = true → nuR i.op ≠ 4 → T.length ≤ 512) :
    Calls Tryd.prog 40 #[.pointer (some ⟨q, 0, none⟩), ci (k : Int)] w fun e w' => ∃ v, e = .returned (.tuple #[v, ci (wayS f p k s).1]) ∧ Fr (fun _ => False) w w' ∧ Wy w' w.heap.size v ((wayS f p k s).2.map fun x => ((x.1 : Int), x.2)) := by
  have hp := right_parts hr
  have hkn : k < n := by rw [← h.len]; exact (List.getElem?_eq_some_iff.1 hk).1
  have hm : s.tr.length ≤ 32 := by
    unfold over at hov
    simp at hov
    exact hov.2
  have htr : trR i.op = 0 := by
    unfold trR
    rw [if_neg (by simpa using h15), if_neg (by simpa using h16)]
  have h0 : 0 ≤ i.n := Int.le_trans (lo_pos _) hp.2.2.1
  have hsi : Si w q v0 f.sg.res a2 (some ⟨b3, o3, none⟩) a4 a5 f.loc.length n p.fns.length p.vars.length c2 c3 c4 c5 := by
    obtain ⟨e0, e1, e2, e3, e4, e5, _, _⟩ := box8 h.box
    exact ⟨e0, e1, e2, e3, e4, e5⟩
  have key := wyR_way f p k n s (hasS (nuR i.op) i.n f.loc.length n p.fns.length p.vars.length) fit (enR i.op) (nuR i.op) i.n T hlen hkn (by rw [hi]) h0 hm (by rw [hi]; exact hst) (fun e => by rw [e]; rfl) hsm
  have kk := ways_w q gs ga n k b3 o3 c3 v0 (ci f.sg.res) (.slice a2 f.loc.length c2) (.slice a4 p.fns.length c4) (.slice a5 p.vars.length c5) L s st' T g i.op i.n i.t i.b (byR i.op) (lo i.op) (Cd.hi i.op) (nuR i.op) (taR i.op) (puR i.op) (trR i.op) (nmR i.op) (enR i.op) (hasS (nuR i.op) i.n f.loc.length n p.fns.length p.vars.length) fit w h hk (by omega) hc3 hc3m
    (hcell 0 _ rfl) (hcell 1 _ rfl) (hcell 2 _ rfl) (hcell 3 _ rfl) (by simpa using h15) (by simpa using h16) htr hm hT hTl
    (fun W => by have := row_is i.op W; rw [hp.1] at this; exact this)
    (fun W hW => has_any q v0 f.sg.res a2 (some ⟨b3, o3, none⟩) a4 a5 f.loc.length n p.fns.length p.vars.length c2 c3 c4 c5 i.op i.n i.t i.b (nuR i.op) (nuR_vals _) W (hsi.keep hW))
    ks
  rw [key] at kk
  exact kk
end Go.Proofs.YtphpmaimgndjmaaDoor.Cd
