/- stackBehind, of instructions that take and put what is told. -/
import Derived.Test.YtphpmaimgndjmaaDoorCdV
namespace Go.Proofs.YtphpmaimgndjmaaDoor.Cd
open Go.RowKit Ty
set_option linter.unusedSimpArgs false
set_option linter.unusedVariables false

theorem encSt_len (a : List Int) : (encSt a).length = a.length := by simp [encSt]
theorem encSt_app (a b : List Int) : encSt (a ++ b) = encSt a ++ encSt b := by simp [encSt]
theorem encSt_take (a : List Int) (m : Nat) : (encSt a).take m = encSt (a.take m) := by simp [encSt, List.map_take]
theorem encSt_drop (a : List Int) (m : Nat) : (encSt a).drop m = encSt (a.drop m) := by simp [encSt, List.map_drop]
theorem suf_tk (a b : List Int) (ha : Vd a) (hb : Vd b) : Lib.hasSuffix (encSt a) (encSt b) = (tk a b).isSome := by
  unfold Lib.hasSuffix tk
  rw [Bool.eq_iff_iff, List.isSuffixOf_iff_suffix, List.suffix_iff_eq_drop, encSt_len, encSt_len, encSt_drop]
  constructor
  · intro e
    have e2 := encSt_inj hb (ha.sub (fun t ht => List.mem_of_mem_drop ht)) e
    have hl : b.length ≤ a.length := by
      have := congrArg List.length e2
      rw [List.length_drop] at this
      omega
    rw [if_pos ⟨hl, e2.symm⟩]
    rfl
  · intro e
    by_cases h : b.length ≤ a.length ∧ a.drop (a.length - b.length) = b
    · rw [h.2]
    · rw [if_neg h] at e
      cases e
/-- The stack behind, as a text, and whether what is needed was there. -/
def behT (st A B : List Int) : Bs × Bool := match tk st A with
  | none => ([], false)
  | some r => (encSt (r ++ B), true)
theorem behind_told (q : Nat) (op N t b by' lo' hi' nu ta pu tr : Int) (nm : Bs) (en : Bool) (st A B : List Int) (hst : Vd st) (hA : Vd A) (hB : Vd B) (hl : st.length ≤ 100000) (hBl : B.length ≤ 100000) (h1 : ta ≠ 1) (h2 : ta ≠ 2) (hpu : (pu == 10) = false) (w : World)
    (kt : ∀ W, Fr (fun _ => False) w W → Calls Tryd.prog 79 #[.pointer (some ⟨q, 0, none⟩), .agg #[ci op, ci N, ci t, .int .u64 b], .agg #[ct nm, ci by', ci lo', ci hi', ci nu, ci ta, ci pu, ci tr, .bool en], ci ta] W fun e w' => e = .returned (ct (encSt A)) ∧ Fr (fun _ => False) W w')
    (kp : ∀ W, Fr (fun _ => False) w W → Calls Tryd.prog 79 #[.pointer (some ⟨q, 0, none⟩), .agg #[ci op, ci N, ci t, .int .u64 b], .agg #[ct nm, ci by', ci lo', ci hi', ci nu, ci ta, ci pu, ci tr, .bool en], ci pu] W fun e w' => e = .returned (ct (encSt B)) ∧ Fr (fun _ => False) W w') :
    Calls Tryd.prog 53 #[.pointer (some ⟨q, 0, none⟩), .agg #[ci op, ci N, ci t, .int .u64 b], .agg #[ct nm, ci by', ci lo', ci hi', ci nu, ci ta, ci pu, ci tr, .bool en], ct (encSt st)] w fun e w' => e = .returned (.tuple #[ct (behT st A B).1, .bool (behT st A B).2]) ∧ Fr (fun _ => False) w w' := by
  have hls : (encSt st).length ≤ 100000 := by rw [encSt_len]; exact hl
  have tkn := fun W hW => taken_any q op N t b by' lo' hi' nu ta pu tr nm en (encSt st) (encSt A) hls W (fun _ _ W' hW' => kt W' (Fr.same hW hW'))
  have et : takenT ta (encSt st) (encSt A) = (encSt A, (tk st A).isSome) := by
    unfold takenT
    rw [if_neg h1, if_neg h2, suf_tk st A hst hA]
  rw [et] at tkn
  unfold behT
  cases hk : tk st A with
  | none =>
    rw [hk] at tkn
    exact behind_no q op N t b by' lo' hi' nu ta pu tr nm en (encSt st) (encSt A) w (fun W hW => tkn W hW)
  | some r =>
    rw [hk] at tkn
    have hr : A.length ≤ st.length ∧ r = st.take (st.length - A.length) := by
      unfold tk at hk
      split at hk
      · rename_i hc; cases hk; exact ⟨hc.1, rfl⟩
      · cases hk
    have := behind_ok q op N t b by' lo' hi' nu ta pu tr nm en (encSt st) (encSt A) (encSt B) true hls (by rw [encSt_len, encSt_len]; exact hr.1) (by rw [encSt_len]; exact hBl) w (fun W hW => tkn W hW) (fun W hW => put_told q op N t b by' lo' hi' nu ta pu tr nm en (encSt A) (encSt B) hpu W (fun W' hW' => kp W' (hW.same hW')))
    rw [encSt_len, encSt_len, encSt_take, ← hr.2, ← encSt_app] at this
    exact this
/-- What the stack behind means for where it leads. -/
theorem behT_some {st A B r : List Int} (h : tk st A = some r) : behT st A B = (encSt (r ++ B), true) := by unfold behT; rw [h]
theorem behT_none {st A B : List Int} (h : tk st A = none) : behT st A B = ([], false) := by unfold behT; rw [h]
theorem tk_nil (st : List Int) : tk st [] = some st := by
  unfold tk
  rw [if_pos (by simp)]
  simp
theorem oneS_vd {t : Int} (h : t = 0 ∨ valued t = true) : Vd (oneS t) := by
  unfold oneS
  split
  · intro x hx; simp at hx
  · rename_i h0; exact Vd.one (h.resolve_left h0)
theorem oneS_len (t : Int) : (oneS t).length ≤ 1 := by unfold oneS; split <;> simp
def noneW (k : Int) : Prop := (k == 3) = false ∧ (k == 4) = false ∧ (k == 5) = false ∧ (k == 6) = false ∧ (k == 7) = false ∧ (k == 8) = false ∧ (k == 9) = false
theorem over_len {s : Sp} (h : over s = false) : s.st.length ≤ 512 ∧ s.tr.length ≤ 32 := by
  unfold over at h
  simp at h
  exact h
theorem kw_push (f : Fu) (p : Fm) (q gs ga n k b3 o3 c2 c3 c4 c5 : Nat) (v0 : Value) (a2 a4 a5 : Option Addr) (L : Cs) (s : Sp) (g : Bool) (i : In) (w : World)
    (h : Wk w q gs ga n v0 (ci f.sg.res) (.slice a2 f.loc.length c2) (.slice (some ⟨b3, o3, none⟩) n c3) (.slice a4 p.fns.length c4) (.slice a5 p.vars.length c5) L) (hk : L[k]? = some (some (g, s))) (hn : n ≤ 4096) (hc3 : n ≤ c3) (hc3m : c3 ≤ 9223372036854775807) (hlen : f.cd.length = n)
    (hcell : ∀ (j : Nat) (u : Value), (inC i)[j]? = some u → w.cell? ⟨b3, o3 + k * 4 + j, none⟩ = some u) (hi : f.cd.getD k default = i) (hr : rightS i = true) (hov : over s = false) (hos : OkS s) (hop : i.op = 1) :
    Calls Tryd.prog 40 #[.pointer (some ⟨q, 0, none⟩), ci (k : Int)] w fun e w' => ∃ v, e = .returned (.tuple #[v, ci (wayS f p k s).1]) ∧ Fr (fun _ => False) w w' ∧ Wy w' w.heap.size v ((wayS f p k s).2.map fun x => ((x.1 : Int), x.2)) := by
  have hp := right_parts hr
  have hv : valued i.t = true := by have := hp.2.1; rw [if_pos hop] at this; exact right_val this
  have hl := over_len hov
  obtain ⟨op, N, t, b⟩ := i
  simp only at hop hv
  subst hop
  have hot : oneS t = [t] := by unfold oneS; rw [if_neg (by rintro rfl; cases hv)]
  have eb : behT s.st [] [t] = (encSt (s.st ++ [t]), true) := behT_some (tk_nil _)
  refine ways_of f p q gs ga n k b3 o3 c2 c3 c4 c5 v0 a2 a4 a5 L s g ⟨1, N, t, b⟩ (encSt (s.st ++ [t])) (s.st ++ [t]) true w h hk hn hc3 hc3m hlen hcell hi hr (by simp) (by simp) hov (fun _ W hW => ?_) (fun _ => rfl) (by rw [encSt_len]; simp; omega) ?_ ?_
  · have := behind_told q 1 N t b (byR 1) (lo 1) (Cd.hi 1) (nuR 1) (taR 1) (puR 1) (trR 1) (nmR 1) (enR 1) s.st [] [t] hos.st (fun x hx => by simp at hx) (Vd.one hv) (by omega) (by simp) (by decide) (by decide) (by decide) W
      (fun W' _ => told_none q 1 N t b (byR 1) (lo 1) (Cd.hi 1) (nuR 1) (taR 1) (puR 1) (trR 1) (nmR 1) (enR 1) (taR 1) (by decide) W')
      (fun W' _ => by have := told_val q 1 N t b (byR 1) (lo 1) (Cd.hi 1) (nuR 1) (taR 1) (puR 1) (trR 1) (nmR 1) (enR 1) (Or.inr hv) W'; rw [hot] at this; exact this)
    rw [eb] at this
    exact this
  · unfold stepS
    rw [if_pos rfl]
    rfl
  · intro e; cases e
theorem kw_ret (f : Fu) (p : Fm) (q gs ga n k b3 o3 c2 c3 c4 c5 : Nat) (v0 : Value) (a2 a4 a5 : Option Addr) (L : Cs) (s : Sp) (g : Bool) (i : In) (w : World)
    (h : Wk w q gs ga n v0 (ci f.sg.res) (.slice a2 f.loc.length c2) (.slice (some ⟨b3, o3, none⟩) n c3) (.slice a4 p.fns.length c4) (.slice a5 p.vars.length c5) L) (hk : L[k]? = some (some (g, s))) (hn : n ≤ 4096) (hc3 : n ≤ c3) (hc3m : c3 ≤ 9223372036854775807) (hlen : f.cd.length = n)
    (hcell : ∀ (j : Nat) (u : Value), (inC i)[j]? = some u → w.cell? ⟨b3, o3 + k * 4 + j, none⟩ = some u) (hi : f.cd.getD k default = i) (hr : rightS i = true) (hov : over s = false) (hos : OkS s) (hop : i.op = 11) (hres : f.sg.res = 0 ∨ valued f.sg.res = true) :
    Calls Tryd.prog 40 #[.pointer (some ⟨q, 0, none⟩), ci (k : Int)] w fun e w' => ∃ v, e = .returned (.tuple #[v, ci (wayS f p k s).1]) ∧ Fr (fun _ => False) w w' ∧ Wy w' w.heap.size v ((wayS f p k s).2.map fun x => ((x.1 : Int), x.2)) := by
  have hl := over_len hov
  obtain ⟨op, N, t, b⟩ := i
  simp only at hop
  subst hop
  have hA := oneS_vd hres
  have hst : stepS f p ⟨11, N, t, b⟩ s = match tk s.st (oneS f.sg.res) with | none => none | some _ => some (none, none) := by
    unfold stepS
    simp only [show ((11 : Int) = 1) = False from by simp, show ((11 : Int) = 2) = False from by simp, show ((11 : Int) = 3) = False from by simp, show ((11 : Int) = 4) = False from by simp, show ((11 : Int) = 5) = False from by simp, show ((11 : Int) = 6) = False from by simp, show ((11 : Int) = 7) = False from by simp, show ((11 : Int) = 8) = False from by simp, show ((11 : Int) = 9) = False from by simp, show ((11 : Int) = 10) = False from by simp, if_false, if_true]
    unfold oneS
    by_cases e : f.sg.res = 0
    · rw [if_pos e, if_pos e, tk_nil]
    · rw [if_neg e, if_neg e]
      cases tk s.st [f.sg.res] <;> rfl
  have hc1 : ∀ W, Fr (fun _ => False) w W → W.cell? ⟨q, 1, none⟩ = some (ci f.sg.res) := fun W hW => hW.cellN (box8 h.box).2.1
  have kb : ∀ W, Fr (fun _ => False) w W → Calls Tryd.prog 53 #[.pointer (some ⟨q, 0, none⟩), inV ⟨11, N, t, b⟩, rwV 11, ct (encSt s.st)] W fun e w' => e = .returned (.tuple #[ct (behT s.st (oneS f.sg.res) []).1, .bool (behT s.st (oneS f.sg.res) []).2]) ∧ Fr (fun _ => False) W w' := fun W hW =>
    behind_told q 11 N t b (byR 11) (lo 11) (Cd.hi 11) (nuR 11) (taR 11) (puR 11) (trR 11) (nmR 11) (enR 11) s.st (oneS f.sg.res) [] hos.st hA (fun x hx => by simp at hx) (by omega) (by simp) (by decide) (by decide) (by decide) W
      (fun W' hW' => told_own q 11 N t b (byR 11) (lo 11) (Cd.hi 11) (nuR 11) (taR 11) (puR 11) (trR 11) (nmR 11) (enR 11) f.sg.res hres W' (fun W2 hW2 => hc1 W2 ((hW.same hW').same hW2)))
      (fun W' _ => told_none q 11 N t b (byR 11) (lo 11) (Cd.hi 11) (nuR 11) (taR 11) (puR 11) (trR 11) (nmR 11) (enR 11) (puR 11) (by decide) W')
  cases hk2 : tk s.st (oneS f.sg.res) with
  | none =>
    rw [behT_none hk2] at kb
    refine ways_of f p q gs ga n k b3 o3 c2 c3 c4 c5 v0 a2 a4 a5 L s g ⟨11, N, t, b⟩ [] [] false w h hk hn hc3 hc3m hlen hcell hi hr (by simp) (by simp) hov (fun _ W hW => kb W hW) (fun e => by cases e) (by simp) ?_ ?_
    · rw [hst, hk2]; simp
    · intro _ _; simp
  | some r =>
    rw [behT_some hk2, List.append_nil] at kb
    have hrl : r.length ≤ 512 := by
      unfold tk at hk2
      split at hk2
      · cases hk2; rw [List.length_take]; omega
      · cases hk2
    refine ways_of f p q gs ga n k b3 o3 c2 c3 c4 c5 v0 a2 a4 a5 L s g ⟨11, N, t, b⟩ (encSt r) r true w h hk hn hc3 hc3m hlen hcell hi hr (by simp) (by simp) hov (fun _ W hW => kb W hW) (fun _ => rfl) (by rw [encSt_len]; omega) ?_ ?_
    · rw [hst, hk2]; rfl
    · intro _ _; exact hrl
end Go.Proofs.YtphpmaimgndjmaaDoor.Cd
