/- Texts of ours, in one. -/
import Derived.Test.YtnmcehpdiopaiaaGreatDoorCdQ2
import Derived.Test.YtnmcehpdiopaiaaGreatDoorCdLmAll
import Derived.Test.YtnmcehpdiopaiaaGreatDoorCdW
import Derived.Laws.MakeOwn
namespace Go.Proofs.YtnmcehpdiopaiaaGreatDoor.Cd
open Go.RowKit Ty
set_option linter.unusedSimpArgs false
set_option linter.unusedVariables false

theorem nuR_vals (op : Int) : nuR op = 0 ∨ nuR op = 1 ∨ nuR op = 2 ∨ nuR op = 3 ∨ nuR op = 4 := by
  unfold nuR
  by_cases h1 : op = 2 ∨ op = 3
  · rw [if_pos h1]; simp
  rw [if_neg h1]
  by_cases h2 : op = 4 ∨ op = 5
  · rw [if_pos h2]; simp
  rw [if_neg h2]
  by_cases h3 : op = 8 ∨ op = 9 ∨ op = 15
  · rw [if_pos h3]; simp
  rw [if_neg h3]
  by_cases h4 : op = 10
  · rw [if_pos h4]; simp
  rw [if_neg h4]; simp
abbrev rwV (op : Int) : Value := .agg #[ct (nmR op), ci (byR op), ci (lo op), ci (hi op), ci (nuR op), ci (taR op), ci (puR op), ci (trR op), .bool (enR op)]
theorem ways_of (f : Fu) (p : Fm) (q gs ga n k b3 o3 c2 c3 c4 c5 : Nat) (v0 : Value) (a2 a4 a5 : Option Addr) (L : Cs) (s : Sp) (g : Bool) (i : In) (st' : Bs) (T : List Int) (fit : Bool) (w : World)
    (h : Wk w q gs ga n v0 (ci f.sg.res) (.slice a2 f.loc.length c2) (.slice (some ⟨b3, o3, none⟩) n c3) (.slice a4 p.fns.length c4) (.slice a5 p.vars.length c5) L) (hk : L[k]? = some (some (g, s))) (hn : n ≤ 4096) (hc3 : n ≤ c3) (hc3m : c3 ≤ 9223372036854775807) (hlen : f.cd.length = n)
    (hcell : ∀ (j : Nat) (u : Value), (inC i)[j]? = some u → w.cell? ⟨b3, o3 + k * 4 + j, none⟩ = some u) (hi : f.cd.getD k default = i) (hr : rightS i = true) (h15 : i.op ≠ 15) (h16 : i.op ≠ 16) (hov : over s = false)
    (ks : hasS (nuR i.op) i.n f.loc.length n p.fns.length p.vars.length = true → ∀ W, Fr (fun _ => False) w W → Calls Tryz.prog 60 #[.pointer (some ⟨q, 0, none⟩), inV i, rwV i.op, ct (encSt s.st)] W fun e w' => e = .returned (.tuple #[ct st', .bool fit]) ∧ Fr (fun _ => False) W w')
    (hT : fit = true → st' = encSt T) (hTl : st'.length ≤ 1000000)
    (hst : stepS f p i s = if hasS (nuR i.op) i.n f.loc.length n p.fns.length p.vars.length = true ∧ fit = true then some ((if enR i.op then none else some ⟨T, s.tr⟩), (if nuR i.op = 4 then some ⟨T, s.tr⟩ else none)) else none)
    (hsm : enR i.op = true → nuR i.op ≠ 4 → T.length ≤ 512) :
    Calls Tryz.prog 38 #[.pointer (some ⟨q, 0, none⟩), ci (k : Int)] w fun e w' => ∃ v, e = .returned (.tuple #[v, ci (wayS f p k s).1]) ∧ Fr (fun _ => False) w w' ∧ Wy w' w.heap.size v ((wayS f p k s).2.map fun x => ((x.1 : Int), x.2)) := by
  have hp := right_parts hr
  have hkn : k < n := by rw [← h.len]; exact (List.getElem?_eq_some_iff.1 hk).1
  have hm : s.tr.length ≤ 32 := by
    unfold over at hov
    simp at hov
    exact hov.2
  have htr : trR i.op = 0 := by
    unfold trR
    rw [if_neg (by simpa using h15), if_neg (by simpa using h16)]
  have h0 : 0 ≤ i.n := Int.le_trans (lo_pos _) hp.2.2.1
  have hsi : Si w q v0 f.sg.res a2 (some ⟨b3, o3, none⟩) a4 a5 f.loc.length n p.fns.length p.vars.length c2 c3 c4 c5 := by
    obtain ⟨e0, e1, e2, e3, e4, e5, _, _⟩ := box8 h.box
    exact ⟨e0, e1, e2, e3, e4, e5⟩
  have key := wyR_way f p k n s (hasS (nuR i.op) i.n f.loc.length n p.fns.length p.vars.length) fit (enR i.op) (nuR i.op) i.n T hlen hkn (by rw [hi]) h0 hm (by rw [hi]; exact hst) (fun e => by rw [e]; rfl) hsm
  have kk := ways_w q gs ga n k b3 o3 c3 v0 (ci f.sg.res) (.slice a2 f.loc.length c2) (.slice a4 p.fns.length c4) (.slice a5 p.vars.length c5) L s st' T g i.op i.n i.t i.b (byR i.op) (lo i.op) (Cd.hi i.op) (nuR i.op) (taR i.op) (puR i.op) (trR i.op) (nmR i.op) (enR i.op) (hasS (nuR i.op) i.n f.loc.length n p.fns.length p.vars.length) fit w h hk (by omega) hc3 hc3m
    (hcell 0 _ rfl) (hcell 1 _ rfl) (hcell 2 _ rfl) (hcell 3 _ rfl) (by simpa using h15) (by simpa using h16) htr hm hT hTl
    (fun W => by have := row_is i.op W; rw [hp.1] at this; exact this)
    (fun W hW => has_any q v0 f.sg.res a2 (some ⟨b3, o3, none⟩) a4 a5 f.loc.length n p.fns.length p.vars.length c2 c3 c4 c5 i.op i.n i.t i.b (nuR i.op) (nuR_vals _) W (hsi.keep hW))
    ks
  rw [key] at kk
  exact kk
end Go.Proofs.YtnmcehpdiopaiaaGreatDoor.Cd

namespace Go.Proofs.YtnmcehpdiopaiaaGreatDoor.Cd
open Go.RowKit Ty
set_option linter.unusedSimpArgs false
set_option linter.unusedVariables false

theorem encSt_len (a : List Int) : (encSt a).length = a.length := by simp [encSt]
theorem encSt_app (a b : List Int) : encSt (a ++ b) = encSt a ++ encSt b := by simp [encSt]
theorem encSt_take (a : List Int) (m : Nat) : (encSt a).take m = encSt (a.take m) := by simp [encSt, List.map_take]
theorem encSt_drop (a : List Int) (m : Nat) : (encSt a).drop m = encSt (a.drop m) := by simp [encSt, List.map_drop]
theorem suf_tk (a b : List Int) (ha : Vd a) (hb : Vd b) : Lib.hasSuffix (encSt a) (encSt b) = (tk a b).isSome := by
  unfold Lib.hasSuffix tk
  rw [Bool.eq_iff_iff, List.isSuffixOf_iff_suffix, List.suffix_iff_eq_drop, encSt_len, encSt_len, encSt_drop]
  constructor
  · intro e
    have e2 := encSt_inj hb (ha.sub (fun t ht => List.mem_of_mem_drop ht)) e
    have hl : b.length ≤ a.length := by
      have := congrArg List.length e2
      rw [List.length_drop] at this
      omega
    rw [if_pos ⟨hl, e2.symm⟩]
    rfl
  · intro e
    by_cases h : b.length ≤ a.length ∧ a.drop (a.length - b.length) = b
    · rw [h.2]
    · rw [if_neg h] at e
      cases e
/-- The stack behind, as a text, and whether what is needed was there. -/
def behT (st A B : List Int) : Bs × Bool := match tk st A with
  | none => ([], false)
  | some r => (encSt (r ++ B), true)
theorem behind_told (q : Nat) (op N t b by' lo' hi' nu ta pu tr : Int) (nm : Bs) (en : Bool) (st A B : List Int) (hst : Vd st) (hA : Vd A) (hB : Vd B) (hl : st.length ≤ 100000) (hBl : B.length ≤ 100000) (h1 : ta ≠ 1) (h2 : ta ≠ 2) (hpu : (pu == 10) = false) (w : World)
    (kt : ∀ W, Fr (fun _ => False) w W → Calls Tryz.prog 87 #[.pointer (some ⟨q, 0, none⟩), .agg #[ci op, ci N, ci t, .int .u64 b], .agg #[ct nm, ci by', ci lo', ci hi', ci nu, ci ta, ci pu, ci tr, .bool en], ci ta] W fun e w' => e = .returned (ct (encSt A)) ∧ Fr (fun _ => False) W w')
    (kp : ∀ W, Fr (fun _ => False) w W → Calls Tryz.prog 87 #[.pointer (some ⟨q, 0, none⟩), .agg #[ci op, ci N, ci t, .int .u64 b], .agg #[ct nm, ci by', ci lo', ci hi', ci nu, ci ta, ci pu, ci tr, .bool en], ci pu] W fun e w' => e = .returned (ct (encSt B)) ∧ Fr (fun _ => False) W w') :
    Calls Tryz.prog 60 #[.pointer (some ⟨q, 0, none⟩), .agg #[ci op, ci N, ci t, .int .u64 b], .agg #[ct nm, ci by', ci lo', ci hi', ci nu, ci ta, ci pu, ci tr, .bool en], ct (encSt st)] w fun e w' => e = .returned (.tuple #[ct (behT st A B).1, .bool (behT st A B).2]) ∧ Fr (fun _ => False) w w' := by
  have hls : (encSt st).length ≤ 100000 := by rw [encSt_len]; exact hl
  have tkn := fun W hW => taken_any q op N t b by' lo' hi' nu ta pu tr nm en (encSt st) (encSt A) hls W (fun _ _ W' hW' => kt W' (Fr.same hW hW'))
  have et : takenT ta (encSt st) (encSt A) = (encSt A, (tk st A).isSome) := by
    unfold takenT
    rw [if_neg h1, if_neg h2, suf_tk st A hst hA]
  rw [et] at tkn
  unfold behT
  cases hk : tk st A with
  | none =>
    rw [hk] at tkn
    exact behind_no q op N t b by' lo' hi' nu ta pu tr nm en (encSt st) (encSt A) w (fun W hW => tkn W hW)
  | some r =>
    rw [hk] at tkn
    have hr : A.length ≤ st.length ∧ r = st.take (st.length - A.length) := by
      unfold tk at hk
      split at hk
      · rename_i hc; cases hk; exact ⟨hc.1, rfl⟩
      · cases hk
    have := behind_ok q op N t b by' lo' hi' nu ta pu tr nm en (encSt st) (encSt A) (encSt B) true hls (by rw [encSt_len, encSt_len]; exact hr.1) (by rw [encSt_len]; exact hBl) w (fun W hW => tkn W hW) (fun W hW => put_told q op N t b by' lo' hi' nu ta pu tr nm en (encSt A) (encSt B) hpu W (fun W' hW' => kp W' (hW.same hW')))
    rw [encSt_len, encSt_len, encSt_take, ← hr.2, ← encSt_app] at this
    exact this
/-- What the stack behind means for where it leads. -/
theorem behT_some {st A B r : List Int} (h : tk st A = some r) : behT st A B = (encSt (r ++ B), true) := by unfold behT; rw [h]
theorem behT_none {st A B : List Int} (h : tk st A = none) : behT st A B = ([], false) := by unfold behT; rw [h]
theorem tk_nil (st : List Int) : tk st [] = some st := by
  unfold tk
  rw [if_pos (by simp)]
  simp
theorem oneS_vd {t : Int} (h : t = 0 ∨ valued t = true) : Vd (oneS t) := by
  unfold oneS
  split
  · intro x hx; simp at hx
  · rename_i h0; exact Vd.one (h.resolve_left h0)
theorem oneS_len (t : Int) : (oneS t).length ≤ 1 := by unfold oneS; split <;> simp
def noneW (k : Int) : Prop := (k == 3) = false ∧ (k == 4) = false ∧ (k == 5) = false ∧ (k == 6) = false ∧ (k == 7) = false ∧ (k == 8) = false ∧ (k == 9) = false
theorem over_len {s : Sp} (h : over s = false) : s.st.length ≤ 512 ∧ s.tr.length ≤ 32 := by
  unfold over at h
  simp at h
  exact h
theorem kw_push (f : Fu) (p : Fm) (q gs ga n k b3 o3 c2 c3 c4 c5 : Nat) (v0 : Value) (a2 a4 a5 : Option Addr) (L : Cs) (s : Sp) (g : Bool) (i : In) (w : World)
    (h : Wk w q gs ga n v0 (ci f.sg.res) (.slice a2 f.loc.length c2) (.slice (some ⟨b3, o3, none⟩) n c3) (.slice a4 p.fns.length c4) (.slice a5 p.vars.length c5) L) (hk : L[k]? = some (some (g, s))) (hn : n ≤ 4096) (hc3 : n ≤ c3) (hc3m : c3 ≤ 9223372036854775807) (hlen : f.cd.length = n)
    (hcell : ∀ (j : Nat) (u : Value), (inC i)[j]? = some u → w.cell? ⟨b3, o3 + k * 4 + j, none⟩ = some u) (hi : f.cd.getD k default = i) (hr : rightS i = true) (hov : over s = false) (hos : OkS s) (hop : i.op = 1) :
    Calls Tryz.prog 38 #[.pointer (some ⟨q, 0, none⟩), ci (k : Int)] w fun e w' => ∃ v, e = .returned (.tuple #[v, ci (wayS f p k s).1]) ∧ Fr (fun _ => False) w w' ∧ Wy w' w.heap.size v ((wayS f p k s).2.map fun x => ((x.1 : Int), x.2)) := by
  have hp := right_parts hr
  have hv : valued i.t = true := by have := hp.2.1; rw [if_pos hop] at this; exact right_val this
  have hl := over_len hov
  obtain ⟨op, N, t, b⟩ := i
  simp only at hop hv
  subst hop
  have hot : oneS t = [t] := by unfold oneS; rw [if_neg (by rintro rfl; cases hv)]
  have eb : behT s.st [] [t] = (encSt (s.st ++ [t]), true) := behT_some (tk_nil _)
  refine ways_of f p q gs ga n k b3 o3 c2 c3 c4 c5 v0 a2 a4 a5 L s g ⟨1, N, t, b⟩ (encSt (s.st ++ [t])) (s.st ++ [t]) true w h hk hn hc3 hc3m hlen hcell hi hr (by simp) (by simp) hov (fun _ W hW => ?_) (fun _ => rfl) (by rw [encSt_len]; simp; omega) ?_ ?_
  · have := behind_told q 1 N t b (byR 1) (lo 1) (Cd.hi 1) (nuR 1) (taR 1) (puR 1) (trR 1) (nmR 1) (enR 1) s.st [] [t] hos.st (fun x hx => by simp at hx) (Vd.one hv) (by omega) (by simp) (by decide) (by decide) (by decide) W
      (fun W' _ => told_none q 1 N t b (byR 1) (lo 1) (Cd.hi 1) (nuR 1) (taR 1) (puR 1) (trR 1) (nmR 1) (enR 1) (taR 1) (by decide) W')
      (fun W' _ => by have := told_val q 1 N t b (byR 1) (lo 1) (Cd.hi 1) (nuR 1) (taR 1) (puR 1) (trR 1) (nmR 1) (enR 1) (Or.inr hv) W'; rw [hot] at this; exact this)
    rw [eb] at this
    exact this
  · unfold stepS
    rw [if_pos rfl]
    rfl
  · intro e; cases e
theorem kw_ret (f : Fu) (p : Fm) (q gs ga n k b3 o3 c2 c3 c4 c5 : Nat) (v0 : Value) (a2 a4 a5 : Option Addr) (L : Cs) (s : Sp) (g : Bool) (i : In) (w : World)
    (h : Wk w q gs ga n v0 (ci f.sg.res) (.slice a2 f.loc.length c2) (.slice (some ⟨b3, o3, none⟩) n c3) (.slice a4 p.fns.length c4) (.slice a5 p.vars.length c5) L) (hk : L[k]? = some (some (g, s))) (hn : n ≤ 4096) (hc3 : n ≤ c3) (hc3m : c3 ≤ 9223372036854775807) (hlen : f.cd.length = n)
    (hcell : ∀ (j : Nat) (u : Value), (inC i)[j]? = some u → w.cell? ⟨b3, o3 + k * 4 + j, none⟩ = some u) (hi : f.cd.getD k default = i) (hr : rightS i = true) (hov : over s = false) (hos : OkS s) (hop : i.op = 11) (hres : f.sg.res = 0 ∨ valued f.sg.res = true) :
    Calls Tryz.prog 38 #[.pointer (some ⟨q, 0, none⟩), ci (k : Int)] w fun e w' => ∃ v, e = .returned (.tuple #[v, ci (wayS f p k s).1]) ∧ Fr (fun _ => False) w w' ∧ Wy w' w.heap.size v ((wayS f p k s).2.map fun x => ((x.1 : Int), x.2)) := by
  have hl := over_len hov
  obtain ⟨op, N, t, b⟩ := i
  simp only at hop
  subst hop
  have hA := oneS_vd hres
  have hst : stepS f p ⟨11, N, t, b⟩ s = match tk s.st (oneS f.sg.res) with | none => none | some _ => some (none, none) := by
    unfold stepS
    simp only [show ((11 : Int) = 1) = False from by simp, show ((11 : Int) = 2) = False from by simp, show ((11 : Int) = 3) = False from by simp, show ((11 : Int) = 4) = False from by simp, show ((11 : Int) = 5) = False from by simp, show ((11 : Int) = 6) = False from by simp, show ((11 : Int) = 7) = False from by simp, show ((11 : Int) = 8) = False from by simp, show ((11 : Int) = 9) = False from by simp, show ((11 : Int) = 10) = False from by simp, if_false, if_true]
    unfold oneS
    by_cases e : f.sg.res = 0
    · rw [if_pos e, if_pos e, tk_nil]
    · rw [if_neg e, if_neg e]
      cases tk s.st [f.sg.res] <;> rfl
  have hc1 : ∀ W, Fr (fun _ => False) w W → W.cell? ⟨q, 1, none⟩ = some (ci f.sg.res) := fun W hW => hW.cellN (box8 h.box).2.1
  have kb : ∀ W, Fr (fun _ => False) w W → Calls Tryz.prog 60 #[.pointer (some ⟨q, 0, none⟩), inV ⟨11, N, t, b⟩, rwV 11, ct (encSt s.st)] W fun e w' => e = .returned (.tuple #[ct (behT s.st (oneS f.sg.res) []).1, .bool (behT s.st (oneS f.sg.res) []).2]) ∧ Fr (fun _ => False) W w' := fun W hW =>
    behind_told q 11 N t b (byR 11) (lo 11) (Cd.hi 11) (nuR 11) (taR 11) (puR 11) (trR 11) (nmR 11) (enR 11) s.st (oneS f.sg.res) [] hos.st hA (fun x hx => by simp at hx) (by omega) (by simp) (by decide) (by decide) (by decide) W
      (fun W' hW' => told_own q 11 N t b (byR 11) (lo 11) (Cd.hi 11) (nuR 11) (taR 11) (puR 11) (trR 11) (nmR 11) (enR 11) f.sg.res hres W' (fun W2 hW2 => hc1 W2 ((hW.same hW').same hW2)))
      (fun W' _ => told_none q 11 N t b (byR 11) (lo 11) (Cd.hi 11) (nuR 11) (taR 11) (puR 11) (trR 11) (nmR 11) (enR 11) (puR 11) (by decide) W')
  cases hk2 : tk s.st (oneS f.sg.res) with
  | none =>
    rw [behT_none hk2] at kb
    refine ways_of f p q gs ga n k b3 o3 c2 c3 c4 c5 v0 a2 a4 a5 L s g ⟨11, N, t, b⟩ [] [] false w h hk hn hc3 hc3m hlen hcell hi hr (by simp) (by simp) hov (fun _ W hW => kb W hW) (fun e => by cases e) (by simp) ?_ ?_
    · rw [hst, hk2]; simp
    · intro _ _; simp
  | some r =>
    rw [behT_some hk2, List.append_nil] at kb
    have hrl : r.length ≤ 512 := by
      unfold tk at hk2
      split at hk2
      · cases hk2; rw [List.length_take]; omega
      · cases hk2
    refine ways_of f p q gs ga n k b3 o3 c2 c3 c4 c5 v0 a2 a4 a5 L s g ⟨11, N, t, b⟩ (encSt r) r true w h hk hn hc3 hc3m hlen hcell hi hr (by simp) (by simp) hov (fun _ W hW => kb W hW) (fun _ => rfl) (by rw [encSt_len]; omega) ?_ ?_
    · rw [hst, hk2]; rfl
    · intro _ _; exact hrl
end Go.Proofs.YtnmcehpdiopaiaaGreatDoor.Cd

namespace Go.Proofs.YtnmcehpdiopaiaaGreatDoor.Cd
open Go.RowKit Ty
set_option linter.unusedSimpArgs false
set_option linter.unusedVariables false

theorem info_sh : (Tryz.prog.info? 77).map (fun i => (i.zero, i.size, i.bytes)) = some (some (.agg #[.string ⟨#[]⟩, .string ⟨#[]⟩, .int .i64 0]), 3, 40) := by kernel_rfl
theorem made_b (n : Nat) : madeCells (Value.int .u8 0).cells n = (stC (List.replicate n none)).toArray := by
  apply Array.ext_getElem?
  intro j
  unfold madeCells stC
  rw [Array.getElem?_map]
  by_cases hj : j < n
  · have : (Array.range n)[j]? = some j := by simp [hj]
    rw [this]
    simp [hj, stN]
    show (#[Value.int .u8 0] : Array Value)[j % 1]! = _
    rw [Nat.mod_one]
    rfl
  · have : (Array.range n)[j]? = none := by simp; omega
    rw [this]
    simp
    omega
theorem ah_zero : ∀ (n j : Nat), j < n * 3 → (ahC (List.replicate n none))[j]? = (shC ⟨[], []⟩)[j % 3]?
  | 0, j, h => by omega
  | n + 1, j, h => by
    have e : ahC (List.replicate (n + 1) none) = shC ⟨[], []⟩ ++ ahC (List.replicate n none) := rfl
    have hl : (shC ⟨[], []⟩).length = 3 := rfl
    rw [e]
    by_cases hj : j < 3
    · rw [List.getElem?_append_left (by omega), Nat.mod_eq_of_lt hj]
    · rw [List.getElem?_append_right (by omega), hl, ah_zero n (j - 3) (by omega)]
      congr 1
      omega
theorem ah_len (L : Cs) : (ahC L).length = L.length * 3 := by
  induction L with
  | nil => rfl
  | cons c r ih =>
    have e : ahC (c :: r) = shC (shO c) ++ ahC r := rfl
    rw [e, List.length_append, ih]
    show 3 + r.length * 3 = (r.length + 1) * 3
    omega
theorem made_s (n : Nat) : madeCells (Value.agg #[.string ⟨#[]⟩, .string ⟨#[]⟩, .int .i64 0]).cells (n * 3) = (ahC (List.replicate n none)).toArray := by
  apply Array.ext_getElem?
  intro j
  unfold madeCells
  rw [Array.getElem?_map]
  by_cases hj : j < n * 3
  · have : (Array.range (n * 3))[j]? = some j := by simp [hj]
    rw [this, List.getElem?_toArray, ah_zero n j hj]
    show some ((#[.string ⟨#[]⟩, .string ⟨#[]⟩, .int .i64 0] : Array Value)[j % 3]!) = _
    have h3 : j % 3 = 0 ∨ j % 3 = 1 ∨ j % 3 = 2 := by omega
    rcases h3 with h | h | h <;> rw [h] <;> rfl
  · have : (Array.range (n * 3))[j]? = none := by simp; omega
    rw [this, List.getElem?_toArray, List.getElem?_eq_none (by rw [ah_len, List.length_replicate]; omega)]
    rfl
theorem make_b (w : World) (n : Nat) (hn : n ≤ 4096) : (Instr.makeSlice 65 (.int .i64 (n : Int)) (.int .i64 (n : Int))).run Tryz.prog w = .ok (.slice (some ⟨w.heap.size, 0, none⟩) n n) (w.alloc (.cells (stC (List.replicate n none)).toArray 5 (0, 0))) := by
  cases hi : Tryz.prog.info? 5 with
  | none => have := info_u8; rw [hi] at this; cases this
  | some i =>
    have hh := info_u8
    rw [hi] at hh
    simp only [Option.map_some, Option.some.injEq, Prod.mk.injEq] at hh
    have := run_makeSlice (P := Tryz.prog) w 65 5 i _ Tryz.underlying65 hi hh.1 .i64 .i64 n n (by omega) (by omega) (by rw [hh.2.1]; simp; omega) (by rw [hh.2.2]; omega) (by omega)
    rw [this, hh.2.1, Int.toNat_natCast, Nat.mul_one, made_b]
theorem make_s (w : World) (n : Nat) (hn : n ≤ 4096) : (Instr.makeSlice 72 (.int .i64 (n : Int)) (.int .i64 (n : Int))).run Tryz.prog w = .ok (.slice (some ⟨w.heap.size, 0, none⟩) n n) (w.alloc (.cells (ahC (List.replicate n none)).toArray 77 (0, 0))) := by
  cases hi : Tryz.prog.info? 77 with
  | none => have := info_sh; rw [hi] at this; cases this
  | some i =>
    have hh := info_sh
    rw [hi] at hh
    simp only [Option.map_some, Option.some.injEq, Prod.mk.injEq] at hh
    have := run_makeSlice (P := Tryz.prog) w 72 77 i _ Tryz.underlying72 hi hh.1 .i64 .i64 n n (by omega) (by omega) (by rw [hh.2.1]; simp; omega) (by rw [hh.2.2]; omega) (by omega)
    rw [this, hh.2.1, Int.toNat_natCast, made_s]
end Go.Proofs.YtnmcehpdiopaiaaGreatDoor.Cd
