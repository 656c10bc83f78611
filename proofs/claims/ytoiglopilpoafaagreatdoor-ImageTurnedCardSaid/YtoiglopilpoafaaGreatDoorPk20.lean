/- Texts of ours, in one. -/
import Derived.Test.YtoiglopilpoafaaGreatDoorPk19
import Derived.Test.YtoiglopilpoafaaGreatDoorPk14
import Derived.Laws.MakeOwn
import Derived.Test.YtoiglopilpoafaaGreatDoorPk11
import Derived.Deep.QuietTactic
import Derived.BigQuiet
namespace Go.Proofs.YtoiglopilpoafaaGreatDoor.Cd
open Go.RowKit Ty
set_option linter.unusedSimpArgs false
set_option linter.unusedVariables false

theorem encSt_len (a : List Int) : (encSt a).length = a.length := by simp [encSt]
theorem encSt_app (a b : List Int) : encSt (a ++ b) = encSt a ++ encSt b := by simp [encSt]
theorem encSt_take (a : List Int) (m : Nat) : (encSt a).take m = encSt (a.take m) := by simp [encSt, List.map_take]
theorem encSt_drop (a : List Int) (m : Nat) : (encSt a).drop m = encSt (a.drop m) := by simp [encSt, List.map_drop]
theorem suf_tk (a b : List Int) (ha : Vd a) (hb : Vd b) : Lib.hasSuffix (encSt a) (encSt b) = (tk a b).isSome := by
  unfold Lib.hasSuffix tk
  rw [Bool.eq_iff_iff, List.isSuffixOf_iff_suffix, List.suffix_iff_eq_drop, encSt_len, encSt_len, encSt_drop]
  constructor
  · intro e
    have e2 := encSt_inj hb (ha.sub (fun t ht => List.mem_of_mem_drop ht)) e
    have hl : b.length ≤ a.length := by
      have := congrArg List.length e2
      rw [List.length_drop] at this
      omega
    rw [if_pos ⟨hl, e2.symm⟩]
    rfl
  · intro e
    by_cases h : b.length ≤ a.length ∧ a.drop (a.length - b.length) = b
    · rw [h.2]
    · rw [if_neg h] at e
      cases e
/-- The stack behind, as a text, and whether what is needed was there. -/
def behT (st A B : List Int) : Bs × Bool := match tk st A with
  | none => ([], false)
  | some r => (encSt (r ++ B), true)
theorem behind_told (q : Nat) (op N t b by' lo' hi' nu ta pu tr : Int) (nm : Bs) (en : Bool) (st A B : List Int) (hst : Vd st) (hA : Vd A) (hB : Vd B) (hl : st.length ≤ 100000) (hBl : B.length ≤ 100000) (h1 : ta ≠ 1) (h2 : ta ≠ 2) (hpu : (pu == 10) = false) (w : World)
    (kt : ∀ W, Fr (fun _ => False) w W → Calls Tryz.prog 112 #[.pointer (some ⟨q, 0, none⟩), .agg #[ci op, ci N, ci t, .int .u64 b], .agg #[ct nm, ci by', ci lo', ci hi', ci nu, ci ta, ci pu, ci tr, .bool en], ci ta] W fun e w' => e = .returned (ct (encSt A)) ∧ Fr (fun _ => False) W w')
    (kp : ∀ W, Fr (fun _ => False) w W → Calls Tryz.prog 112 #[.pointer (some ⟨q, 0, none⟩), .agg #[ci op, ci N, ci t, .int .u64 b], .agg #[ct nm, ci by', ci lo', ci hi', ci nu, ci ta, ci pu, ci tr, .bool en], ci pu] W fun e w' => e = .returned (ct (encSt B)) ∧ Fr (fun _ => False) W w') :
    Calls Tryz.prog 94 #[.pointer (some ⟨q, 0, none⟩), .agg #[ci op, ci N, ci t, .int .u64 b], .agg #[ct nm, ci by', ci lo', ci hi', ci nu, ci ta, ci pu, ci tr, .bool en], ct (encSt st)] w fun e w' => e = .returned (.tuple #[ct (behT st A B).1, .bool (behT st A B).2]) ∧ Fr (fun _ => False) w w' := by
  have hls : (encSt st).length ≤ 100000 := by rw [encSt_len]; exact hl
  have tkn := fun W hW => taken_any q op N t b by' lo' hi' nu ta pu tr nm en (encSt st) (encSt A) hls W (fun _ _ W' hW' => kt W' (Fr.same hW hW'))
  have et : takenT ta (encSt st) (encSt A) = (encSt A, (tk st A).isSome) := by
    unfold takenT
    rw [if_neg h1, if_neg h2, suf_tk st A hst hA]
  rw [et] at tkn
  unfold behT
  cases hk : tk st A with
  | none =>
    rw [hk] at tkn
    exact behind_no q op N t b by' lo' hi' nu ta pu tr nm en (encSt st) (encSt A) w (fun W hW => tkn W hW)
  | some r =>
    rw [hk] at tkn
    have hr : A.length ≤ st.length ∧ r = st.take (st.length - A.length) := by
      unfold tk at hk
      split at hk
      · rename_i hc; cases hk; exact ⟨hc.1, rfl⟩
      · cases hk
    have := behind_ok q op N t b by' lo' hi' nu ta pu tr nm en (encSt st) (encSt A) (encSt B) true hls (by rw [encSt_len, encSt_len]; exact hr.1) (by rw [encSt_len]; exact hBl) w (fun W hW => tkn W hW) (fun W hW => put_told q op N t b by' lo' hi' nu ta pu tr nm en (encSt A) (encSt B) hpu W (fun W' hW' => kp W' (hW.same hW')))
    rw [encSt_len, encSt_len, encSt_take, ← hr.2, ← encSt_app] at this
    exact this
/-- What the stack behind means for where it leads. -/
theorem behT_some {st A B r : List Int} (h : tk st A = some r) : behT st A B = (encSt (r ++ B), true) := by unfold behT; rw [h]
theorem behT_none {st A B : List Int} (h : tk st A = none) : behT st A B = ([], false) := by unfold behT; rw [h]
theorem tk_nil (st : List Int) : tk st [] = some st := by
  unfold tk
  rw [if_pos (by simp)]
  simp
theorem oneS_vd {t : Int} (h : t = 0 ∨ valued t = true) : Vd (oneS t) := by
  unfold oneS
  split
  · intro x hx; simp at hx
  · rename_i h0; exact Vd.one (h.resolve_left h0)
theorem oneS_len (t : Int) : (oneS t).length ≤ 1 := by unfold oneS; split <;> simp
def noneW (k : Int) : Prop := (k == 3) = false ∧ (k == 4) = false ∧ (k == 5) = false ∧ (k == 6) = false ∧ (k == 7) = false ∧ (k == 8) = false ∧ (k == 9) = false
theorem over_len {s : Sp} (h : over s = false) : s.st.length ≤ 512 ∧ s.tr.length ≤ 32 := by
  unfold over at h
  simp at h
  exact h
theorem kw_push (f : Fu) (p : Fm) (q gs ga n k b3 o3 c2 c3 c4 c5 : Nat) (v0 : Value) (a2 a4 a5 : Option Addr) (L : Cs) (s : Sp) (g : Bool) (i : In) (w : World)
    (h : Wk w q gs ga n v0 (ci f.sg.res) (.slice a2 f.loc.length c2) (.slice (some ⟨b3, o3, none⟩) n c3) (.slice a4 p.fns.length c4) (.slice a5 p.vars.length c5) L) (hk : L[k]? = some (some (g, s))) (hn : n ≤ 4096) (hc3 : n ≤ c3) (hc3m : c3 ≤ 9223372036854775807) (hlen : f.cd.length = n)
    (hcell : ∀ (j : Nat) (u : Value), (inC i)[j]? = some u → w.cell? ⟨b3, o3 + k * 4 + j, none⟩ = some u) (hi : f.cd.getD k default = i) (hr : rightS i = true) (hov : over s = false) (hos : OkS s) (hop : i.op = 1) :
    Calls Tryz.prog 73 #[.pointer (some ⟨q, 0, none⟩), ci (k : Int)] w fun e w' => ∃ v, e = .returned (.tuple #[v, ci (wayS f p k s).1]) ∧ Fr (fun _ => False) w w' ∧ Wy w' w.heap.size v ((wayS f p k s).2.map fun x => ((x.1 : Int), x.2)) := by
  have hp := right_parts hr
  have hv : valued i.t = true := by have := hp.2.1; rw [if_pos hop] at this; exact right_val this
  have hl := over_len hov
  obtain ⟨op, N, t, b⟩ := i
  simp only at hop hv
  subst hop
  have hot : oneS t = [t] := by unfold oneS; rw [if_neg (by rintro rfl; cases hv)]
  have eb : behT s.st [] [t] = (encSt (s.st ++ [t]), true) := behT_some (tk_nil _)
  refine ways_of f p q gs ga n k b3 o3 c2 c3 c4 c5 v0 a2 a4 a5 L s g ⟨1, N, t, b⟩ (encSt (s.st ++ [t])) (s.st ++ [t]) true w h hk hn hc3 hc3m hlen hcell hi hr (by simp) (by simp) hov (fun _ W hW => ?_) (fun _ => rfl) (by rw [encSt_len]; simp; omega) ?_ ?_
  · have := behind_told q 1 N t b (byR 1) (lo 1) (Cd.hi 1) (nuR 1) (taR 1) (puR 1) (trR 1) (nmR 1) (enR 1) s.st [] [t] hos.st (fun x hx => by simp at hx) (Vd.one hv) (by omega) (by simp) (by decide) (by decide) (by decide) W
      (fun W' _ => told_none q 1 N t b (byR 1) (lo 1) (Cd.hi 1) (nuR 1) (taR 1) (puR 1) (trR 1) (nmR 1) (enR 1) (taR 1) (by decide) W')
      (fun W' _ => by have := told_val q 1 N t b (byR 1) (lo 1) (Cd.hi 1) (nuR 1) (taR 1) (puR 1) (trR 1) (nmR 1) (enR 1) (Or.inr hv) W'; rw [hot] at this; exact this)
    rw [eb] at this
    exact this
  · unfold stepS
    rw [if_pos rfl]
    rfl
  · intro e; cases e
theorem kw_ret (f : Fu) (p : Fm) (q gs ga n k b3 o3 c2 c3 c4 c5 : Nat) (v0 : Value) (a2 a4 a5 : Option Addr) (L : Cs) (s : Sp) (g : Bool) (i : In) (w : World)
    (h : Wk w q gs ga n v0 (ci f.sg.res) (.slice a2 f.loc.length c2) (.slice (some ⟨b3, o3, none⟩) n c3) (.slice a4 p.fns.length c4) (.slice a5 p.vars.length c5) L) (hk : L[k]? = some (some (g, s))) (hn : n ≤ 4096) (hc3 : n ≤ c3) (hc3m : c3 ≤ 9223372036854775807) (hlen : f.cd.length = n)
    (hcell : ∀ (j : Nat) (u : Value), (inC i)[j]? = some u → w.cell? ⟨b3, o3 + k * 4 + j, none⟩ = some u) (hi : f.cd.getD k default = i) (hr : rightS i = true) (hov : over s = false) (hos : OkS s) (hop : i.op = 11) (hres : f.sg.res = 0 ∨ valued f.sg.res = true) :
    Calls Tryz.prog 73 #[.pointer (some ⟨q, 0, none⟩), ci (k : Int)] w fun e w' => ∃ v, e = .returned (.tuple #[v, ci (wayS f p k s).1]) ∧ Fr (fun _ => False) w w' ∧ Wy w' w.heap.size v ((wayS f p k s).2.map fun x => ((x.1 : Int), x.2)) := by
  have hl := over_len hov
  obtain ⟨op, N, t, b⟩ := i
  simp only at hop
  subst hop
  have hA := oneS_vd hres
  have hst : stepS f p ⟨11, N, t, b⟩ s = match tk s.st (oneS f.sg.res) with | none => none | some _ => some (none, none) := by
    unfold stepS
    simp only [show ((11 : Int) = 1) = False from by simp, show ((11 : Int) = 2) = False from by simp, show ((11 : Int) = 3) = False from by simp, show ((11 : Int) = 4) = False from by simp, show ((11 : Int) = 5) = False from by simp, show ((11 : Int) = 6) = False from by simp, show ((11 : Int) = 7) = False from by simp, show ((11 : Int) = 8) = False from by simp, show ((11 : Int) = 9) = False from by simp, show ((11 : Int) = 10) = False from by simp, if_false, if_true]
    unfold oneS
    by_cases e : f.sg.res = 0
    · rw [if_pos e, if_pos e, tk_nil]
    · rw [if_neg e, if_neg e]
      cases tk s.st [f.sg.res] <;> rfl
  have hc1 : ∀ W, Fr (fun _ => False) w W → W.cell? ⟨q, 1, none⟩ = some (ci f.sg.res) := fun W hW => hW.cellN (box8 h.box).2.1
  have kb : ∀ W, Fr (fun _ => False) w W → Calls Tryz.prog 94 #[.pointer (some ⟨q, 0, none⟩), inV ⟨11, N, t, b⟩, rwV 11, ct (encSt s.st)] W fun e w' => e = .returned (.tuple #[ct (behT s.st (oneS f.sg.res) []).1, .bool (behT s.st (oneS f.sg.res) []).2]) ∧ Fr (fun _ => False) W w' := fun W hW =>
    behind_told q 11 N t b (byR 11) (lo 11) (Cd.hi 11) (nuR 11) (taR 11) (puR 11) (trR 11) (nmR 11) (enR 11) s.st (oneS f.sg.res) [] hos.st hA (fun x hx => by simp at hx) (by omega) (by simp) (by decide) (by decide) (by decide) W
      (fun W' hW' => told_own q 11 N t b (byR 11) (lo 11) (Cd.hi 11) (nuR 11) (taR 11) (puR 11) (trR 11) (nmR 11) (enR 11) f.sg.res hres W' (fun W2 hW2 => hc1 W2 ((hW.same hW').same hW2)))
      (fun W' _ => told_none q 11 N t b (byR 11) (lo 11) (Cd.hi 11) (nuR 11) (taR 11) (puR 11) (trR 11) (nmR 11) (enR 11) (puR 11) (by decide) W')
  cases hk2 : tk s.st (oneS f.sg.res) with
  | none =>
    rw [behT_none hk2] at kb
    refine ways_of f p q gs ga n k b3 o3 c2 c3 c4 c5 v0 a2 a4 a5 L s g ⟨11, N, t, b⟩ [] [] false w h hk hn hc3 hc3m hlen hcell hi hr (by simp) (by simp) hov (fun _ W hW => kb W hW) (fun e => by cases e) (by simp) ?_ ?_
    · rw [hst, hk2]; simp
    · intro _ _; simp
  | some r =>
    rw [behT_some hk2, List.append_nil] at kb
    have hrl : r.length ≤ 512 := by
      unfold tk at hk2
      split at hk2
      · cases hk2; rw [List.length_take]; omega
      · cases hk2
    refine ways_of f p q gs ga n k b3 o3 c2 c3 c4 c5 v0 a2 a4 a5 L s g ⟨11, N, t, b⟩ (encSt r) r true w h hk hn hc3 hc3m hlen hcell hi hr (by simp) (by simp) hov (fun _ W hW => kb W hW) (fun _ => rfl) (by rw [encSt_len]; omega) ?_ ?_
    · rw [hst, hk2]; rfl
    · intro _ _; exact hrl
end Go.Proofs.YtoiglopilpoafaaGreatDoor.Cd

namespace Go.Proofs.YtoiglopilpoafaaGreatDoor.Cd
open Go.RowKit Ty
set_option linter.unusedSimpArgs false
set_option linter.unusedVariables false

theorem info_sh : (Tryz.prog.info? 148).map (fun i => (i.zero, i.size, i.bytes)) = some (some (.agg #[.string ⟨#[]⟩, .string ⟨#[]⟩, .int .i64 0]), 3, 40) := by kernel_rfl
theorem made_b (n : Nat) : madeCells (Value.int .u8 0).cells n = (stC (List.replicate n none)).toArray := by
  apply Array.ext_getElem?
  intro j
  unfold madeCells stC
  rw [Array.getElem?_map]
  by_cases hj : j < n
  · have : (Array.range n)[j]? = some j := by simp [hj]
    rw [this]
    simp [hj, stN]
    show (#[Value.int .u8 0] : Array Value)[j % 1]! = _
    rw [Nat.mod_one]
    rfl
  · have : (Array.range n)[j]? = none := by simp; omega
    rw [this]
    simp
    omega
theorem ah_zero : ∀ (n j : Nat), j < n * 3 → (ahC (List.replicate n none))[j]? = (shC ⟨[], []⟩)[j % 3]?
  | 0, j, h => by omega
  | n + 1, j, h => by
    have e : ahC (List.replicate (n + 1) none) = shC ⟨[], []⟩ ++ ahC (List.replicate n none) := rfl
    have hl : (shC ⟨[], []⟩).length = 3 := rfl
    rw [e]
    by_cases hj : j < 3
    · rw [List.getElem?_append_left (by omega), Nat.mod_eq_of_lt hj]
    · rw [List.getElem?_append_right (by omega), hl, ah_zero n (j - 3) (by omega)]
      congr 1
      omega
theorem ah_len (L : Cs) : (ahC L).length = L.length * 3 := by
  induction L with
  | nil => rfl
  | cons c r ih =>
    have e : ahC (c :: r) = shC (shO c) ++ ahC r := rfl
    rw [e, List.length_append, ih]
    show 3 + r.length * 3 = (r.length + 1) * 3
    omega
theorem made_s (n : Nat) : madeCells (Value.agg #[.string ⟨#[]⟩, .string ⟨#[]⟩, .int .i64 0]).cells (n * 3) = (ahC (List.replicate n none)).toArray := by
  apply Array.ext_getElem?
  intro j
  unfold madeCells
  rw [Array.getElem?_map]
  by_cases hj : j < n * 3
  · have : (Array.range (n * 3))[j]? = some j := by simp [hj]
    rw [this, List.getElem?_toArray, ah_zero n j hj]
    show some ((#[.string ⟨#[]⟩, .string ⟨#[]⟩, .int .i64 0] : Array Value)[j % 3]!) = _
    have h3 : j % 3 = 0 ∨ j % 3 = 1 ∨ j % 3 = 2 := by omega
    rcases h3 with h | h | h <;> rw [h] <;> rfl
  · have : (Array.range (n * 3))[j]? = none := by simp; omega
    rw [this, List.getElem?_toArray, List.getElem?_eq_none (by rw [ah_len, List.length_replicate]; omega)]
    rfl
theorem make_b (w : World) (n : Nat) (hn : n ≤ 4096) : (Instr.makeSlice 30 (.int .i64 (n : Int)) (.int .i64 (n : Int))).run Tryz.prog w = .ok (.slice (some ⟨w.heap.size, 0, none⟩) n n) (w.alloc (.cells (stC (List.replicate n none)).toArray 5 (0, 0))) := by
  cases hi : Tryz.prog.info? 5 with
  | none => have := info_u8; rw [hi] at this; cases this
  | some i =>
    have hh := info_u8
    rw [hi] at hh
    simp only [Option.map_some, Option.some.injEq, Prod.mk.injEq] at hh
    have := run_makeSlice (P := Tryz.prog) w 30 5 i _ Tryz.underlying30 hi hh.1 .i64 .i64 n n (by omega) (by omega) (by rw [hh.2.1]; simp; omega) (by rw [hh.2.2]; omega) (by omega)
    rw [this, hh.2.1, Int.toNat_natCast, Nat.mul_one, made_b]
theorem make_s (w : World) (n : Nat) (hn : n ≤ 4096) : (Instr.makeSlice 141 (.int .i64 (n : Int)) (.int .i64 (n : Int))).run Tryz.prog w = .ok (.slice (some ⟨w.heap.size, 0, none⟩) n n) (w.alloc (.cells (ahC (List.replicate n none)).toArray 148 (0, 0))) := by
  cases hi : Tryz.prog.info? 148 with
  | none => have := info_sh; rw [hi] at this; cases this
  | some i =>
    have hh := info_sh
    rw [hi] at hh
    simp only [Option.map_some, Option.some.injEq, Prod.mk.injEq] at hh
    have := run_makeSlice (P := Tryz.prog) w 141 148 i _ Tryz.underlying141 hi hh.1 .i64 .i64 n n (by omega) (by omega) (by rw [hh.2.1]; simp; omega) (by rw [hh.2.2]; omega) (by omega)
    rw [this, hh.2.1, Int.toNat_natCast, made_s]
end Go.Proofs.YtoiglopilpoafaaGreatDoor.Cd

namespace Go.Proofs.YtoiglopilpoafaaGreatDoor.Cd
open Go.RowKit Ty
set_option linter.unusedSimpArgs false
set_option linter.unusedVariables false

/-- A row of signatures. -/
def SgL (w : World) (ao : Option Addr) (cap : Nat) (l : List Sg) : Prop :=
  l.length ≤ cap ∧ cap ≤ maxLen ∧ (ao = none → cap = 0) ∧ (l = [] ∨ ∃ b off, ao = some ⟨b, off, none⟩ ∧ ∀ (i : Nat) (s : Sg), l[i]? = some s → ∃ ap cp, InL w ap cp s.ps ∧ w.cell? ⟨b, off + i * 2, none⟩ = some (.slice ap s.ps.length cp) ∧ w.cell? ⟨b, off + i * 2 + 1, none⟩ = some (ci s.res))
theorem SgL.keep {w w' : World} {ao : Option Addr} {cap : Nat} {l : List Sg} (h : SgL w ao cap l) (hf : Fr (fun _ => False) w w') : SgL w' ao cap l := by
  obtain ⟨h1, h2, h3, h4⟩ := h
  refine ⟨h1, h2, h3, ?_⟩
  rcases h4 with h4 | ⟨b, off, rfl, h4⟩
  · exact Or.inl h4
  · refine Or.inr ⟨b, off, rfl, fun i s hs => ?_⟩
    obtain ⟨ap, cp, a1, a2, a3⟩ := h4 i s hs
    exact ⟨ap, cp, a1.keep hf, hf.cellN a2, hf.cellN a3⟩
theorem made_z (n : Nat) : madeCells (Value.int .u8 0).cells n = (List.replicate n (Value.int .u8 0)).toArray := by
  apply Array.ext_getElem?
  intro j
  unfold madeCells
  rw [Array.getElem?_map]
  by_cases hj : j < n
  · have : (Array.range n)[j]? = some j := by simp [hj]
    rw [this]
    simp [hj]
    show (#[Value.int .u8 0] : Array Value)[j % 1]! = _
    rw [Nat.mod_one]
    rfl
  · have : (Array.range n)[j]? = none := by simp; omega
    rw [this]
    simp
    omega
theorem make_z (w : World) (n : Nat) (hn : n ≤ 17592186044416) : (Instr.makeSlice 30 (.int .i64 (n : Int)) (.int .i64 (n : Int))).run Tryz.prog w = .ok (.slice (some ⟨w.heap.size, 0, none⟩) n n) (w.alloc (.cells (List.replicate n (Value.int .u8 0)).toArray 5 (0, 0))) := by
  cases hi : Tryz.prog.info? 5 with
  | none => have := info_u8; rw [hi] at this; cases this
  | some i =>
    have hh := info_u8
    rw [hi] at hh
    simp only [Option.map_some, Option.some.injEq, Prod.mk.injEq] at hh
    have := run_make (P := Tryz.prog) w 30 5 i _ Tryz.underlying30 hi hh.1 .i64 .i64 n n (by omega) (by omega) (by rw [hh.2.2]; omega) (by omega)
    rw [this, hh.2.1, Int.toNat_natCast, Nat.mul_one, made_z]
theorem u8_val {t : Int} (h : valued t = true) : t % 256 = t ∧ ((encB t).toNat : Int) = t := by
  rcases (valued_iff t).1 h with rfl | rfl | rfl <;> exact ⟨by decide, rfl⟩
theorem put_b {l : List Int} {j n : Nat} {t : Int} (hn : l.length = n) (ht : l[j]? = some t) (hv : valued t = true) :
    (byC (encSt (l.take j)) ++ List.replicate (n - j) (Value.int .u8 0)).toArray.setIfInBounds j (.int .u8 t) = (byC (encSt (l.take (j + 1))) ++ List.replicate (n - (j + 1)) (Value.int .u8 0)).toArray := by
  have hj : j < n := by rw [← hn]; exact (List.getElem?_eq_some_iff.1 ht).1
  have hlen : (byC (encSt (l.take j))).length = j := by simp [byC, encSt]; omega
  rw [List.setIfInBounds_toArray]
  congr 1
  rw [List.set_append_right _ _ (by omega), hlen, Nat.sub_self]
  obtain ⟨m, hm⟩ : ∃ m, n - j = m + 1 := ⟨n - j - 1, by omega⟩
  rw [hm, show n - (j + 1) = m by omega, List.replicate_succ, List.set_cons_zero, List.take_add_one, ht]
  simp [encSt, byC, (u8_val hv).2]
set_option maxRecDepth 20000 in
set_option maxHeartbeats 2000000 in
theorem stackOf_any (ao : Option Addr) (n cap : Nat) (l : List Int) (hn : l.length = n) (hv : ∀ t ∈ l, valued t = true) (hb : n ≤ 17592186044416) (w : World) (h : InL w ao cap l) :
    Calls Tryz.prog 120 #[.slice ao n cap] w fun e w' => e = .returned (ct (encSt l)) ∧ Fr (fun _ => False) w w' := by
  have hH : Hidden (InL w ao cap l) := h
  have hnH : Hidden (l.length = n) := hn
  have hvH : Hidden (∀ t ∈ l, valued t = true) := hv
  have hcap : n ≤ cap := by rw [← hn]; exact h.1
  have hcm : cap ≤ 9223372036854775807 := by have := h.2.1; simpa [maxLen] using this
  have mk := fun W => make_z W n hb
  obtain ⟨G, hG⟩ : ∃ G, G = w.heap.size := ⟨_, rfl⟩
  have hGH : Hidden (G = w.heap.size) := hG
  clear h hn hv
  go_enter Tryz.func120, Tryz.ntmps120
  go_wp2_with fail
  rw [← hG]
  clear hG
  go_loopg [4, 5, 11] n (fun k _ _ iv wr => ∃ j : Nat, iv = .int .i64 (j : Int) ∧ j ≤ n ∧ k = n - j ∧ wr.heap[G]? = some (.cells (byC (encSt (l.take j)) ++ List.replicate (n - j) (Value.int .u8 0)).toArray 5 (0, 0)) ∧ Fr (fun _ => False) w wr)
  case atStart => exact ⟨0, rfl, by omega, rfl, by rw [(show G = _ from hGH)]; simpa [encSt, byC] using alloc_new w (.cells (List.replicate n (Value.int .u8 0)).toArray 5 (0, 0)), Fr.alloc _ _ _⟩
  case round =>
    obtain ⟨j, rfl, hj, hk, hg, hf⟩ := hrel
    have hkH : Hidden (gk = n - j) := hk
    have hgH : Hidden _ := hg
    have hfH : Hidden (Fr (fun _ => False) w wr) := hf
    clear hk
    by_cases hjl : j < n
    · obtain ⟨x, hx⟩ : ∃ x, l[j]? = some x := ⟨_, List.getElem?_eq_getElem (by have : l.length = n := hnH; omega)⟩
      obtain ⟨b, off, rfl, cells⟩ := (show InL w ao cap l from hH).2.2.2.resolve_left (by rintro rfl; simp at hx)
      have c0 := hf.cellN (cells j x hx)
      have hxv := (show ∀ t ∈ l, valued t = true from hvH) x (List.mem_of_getElem? hx)
      have hm := (u8_val hxv).1
      have hlen : (byC (encSt (l.take j))).length = j := by have : l.length = n := hnH; simp [byC, encSt]; omega
      have hcell : wr.cell? ⟨G, j, none⟩ = some (.int .u8 0) := by
        rw [cell_of_row _ _ j _ _ _ hg]
        simp only [List.getElem?_toArray]
        rw [List.getElem?_append_right (by omega), hlen, Nat.sub_self, List.getElem?_replicate]
        rw [if_pos (by omega)]
      have hfz : wr.frozen? ⟨G, j, none⟩ = false := by simp [World.frozen?, hg]
      have hput : Hidden _ := put_b (show l.length = n from hnH) hx hxv
      clear hx cells hxv hlen hg hf
      go_wp2_with fail
      go_roundg (n - (j + 1))
      case measure => have : gk = n - j := hkH; omega
      case rel =>
        refine ⟨j + 1, by go_num, by omega, rfl, ?_, (show Fr _ w wr from hfH).over (Fr.setCell wr ⟨G, j, none⟩ _) (fun k e => by have e : k = G := e; have h1 : G = w.heap.size := hGH; omega)⟩
        rw [← (show _ = _ from hput)]
        exact heap_setCell_same wr G j _ _ _ hgH
    · obtain rfl : j = n := by omega
      have hll : l.length = j := hnH
      have e : l.take j = l := by rw [← hll, List.take_length]
      rw [e, Nat.sub_self] at hg
      have hel : (encSt l).length = j := by simp [encSt, hll]
      have hcv : (convert 30 9 (.slice (some ⟨G, 0, none⟩) j j)).run Tryz.prog wr = .ok (ct (encSt l)) wr := by
        have := conv_row (w := wr) (g := G) (cap := j) (l := encSt l) (fun i c hc => by
          rw [cell_of_row _ _ i _ _ _ hg]
          simp [byC, hc])
        rw [hel] at this
        exact this
      clear hg e hll hel hjl hf
      go_wp2_with fail
      go_ret
      exact ⟨rfl, hfH⟩
end Go.Proofs.YtoiglopilpoafaaGreatDoor.Cd

namespace Go.Proofs.YtoiglopilpoafaaGreatDoor.Cd
open Go.RowKit Ty
set_option linter.unusedSimpArgs false
set_option linter.unusedVariables false

set_option maxRecDepth 20000 in
set_option maxHeartbeats 2000000 in
theorem place_loc (q op k : Nat) (t b x : Int) (bl off nl cl : Nat) (hk : k < nl) (h1 : nl ≤ cl) (h2 : cl ≤ 9223372036854775807) (w : World) (hc : w.cell? ⟨q, 2, none⟩ = some (.slice (some ⟨bl, off, none⟩) nl cl)) (hx : w.cell? ⟨bl, off + k, none⟩ = some (ci x)) :
    Calls Tryz.prog 119 #[.pointer (some ⟨q, 0, none⟩), .agg #[ci (op : Int), ci (k : Int), ci t, .int .u64 b], ci 1] w fun e w' => e = .returned (ci x) ∧ Fr (fun _ => False) w w' := by
  obtain ⟨V, hV⟩ : ∃ V, V = w.alloc (.cells #[ci (op : Int), ci (k : Int), ci t, .int .u64 b] 69 (0, 0)) := ⟨_, rfl⟩
  have fV : Fr (fun _ => False) w V := by rw [hV]; exact Fr.alloc _ _ _
  obtain ⟨c0, c1, c2, c3⟩ := box4 (show V.heap[w.heap.size]? = some (.cells #[ci (op : Int), ci (k : Int), ci t, .int .u64 b] 69 (0, 0)) by rw [hV]; exact alloc_new _ _)
  have d2 := fV.cellN hc
  have dx := fV.cellN hx
  have hVH : Hidden (V = _) := hV
  have fVH : Hidden (Fr (fun _ => False) w V) := fV
  clear hV fV hc hx
  go_enter Tryz.func119, Tryz.ntmps119
  go_upto_region 2 with fail
  rw [← (show V = _ from hVH)]
  generalize w.heap.size = G at c0 c1 c2 c3 ⊢
  go_quiet (fail)
  go_wp2_with fail
  go_ret
  exact ⟨rfl, drewN_fr (show Fr (fun _ => False) w V from fVH) _⟩
set_option maxRecDepth 20000 in
set_option maxHeartbeats 2000000 in
theorem place_var (q op k : Nat) (t b x : Int) (bl off nl cl : Nat) (hk : k < nl) (h1 : nl ≤ cl) (h2 : cl ≤ 9223372036854775807) (w : World) (hc : w.cell? ⟨q, 5, none⟩ = some (.slice (some ⟨bl, off, none⟩) nl cl)) (hx : w.cell? ⟨bl, off + k, none⟩ = some (ci x)) :
    Calls Tryz.prog 119 #[.pointer (some ⟨q, 0, none⟩), .agg #[ci (op : Int), ci (k : Int), ci t, .int .u64 b], ci 2] w fun e w' => e = .returned (ci x) ∧ Fr (fun _ => False) w w' := by
  obtain ⟨V, hV⟩ : ∃ V, V = w.alloc (.cells #[ci (op : Int), ci (k : Int), ci t, .int .u64 b] 69 (0, 0)) := ⟨_, rfl⟩
  have fV : Fr (fun _ => False) w V := by rw [hV]; exact Fr.alloc _ _ _
  obtain ⟨c0, c1, c2, c3⟩ := box4 (show V.heap[w.heap.size]? = some (.cells #[ci (op : Int), ci (k : Int), ci t, .int .u64 b] 69 (0, 0)) by rw [hV]; exact alloc_new _ _)
  have d2 := fV.cellN hc
  have dx := fV.cellN hx
  have hVH : Hidden (V = _) := hV
  have fVH : Hidden (Fr (fun _ => False) w V) := fV
  clear hV fV hc hx
  go_enter Tryz.func119, Tryz.ntmps119
  go_upto_region 3 with fail
  rw [← (show V = _ from hVH)]
  generalize w.heap.size = G at c0 c1 c2 c3 ⊢
  go_quiet (fail)
  go_wp2_with fail
  go_ret
  exact ⟨rfl, drewN_fr (show Fr (fun _ => False) w V from fVH) _⟩
set_option maxRecDepth 20000 in
set_option maxHeartbeats 1000000 in
theorem told_place (q : Nat) (op N t b by' lo' hi' nu ta pu tr : Int) (nm : Bs) (en : Bool) (x : Int) (hx : x = 0 ∨ valued x = true) (w : World) (kp : ∀ W, Fr (fun _ => False) w W → Calls Tryz.prog 119 #[.pointer (some ⟨q, 0, none⟩), .agg #[ci op, ci N, ci t, .int .u64 b], ci nu] W fun e w' => e = .returned (ci x) ∧ Fr (fun _ => False) W w') :
    Calls Tryz.prog 112 #[.pointer (some ⟨q, 0, none⟩), .agg #[ci op, ci N, ci t, .int .u64 b], .agg #[ct nm, ci by', ci lo', ci hi', ci nu, ci ta, ci pu, ci tr, .bool en], ci 6] w fun e w' => e = .returned (ct (encSt (oneS x))) ∧ Fr (fun _ => False) w w' := by
  have ks := fun W => single_any x hx W
  generalize encSt (oneS x) = T at ks ⊢
  go_enter Tryz.func112, Tryz.ntmps112
  go_wp2_with (first
    | (go_at_call 119; refine (kp _ ((Fr.alloc _ _ _).same (Fr.alloc _ _ _))).mono ?_; rintro e w1 ⟨rfl, f1⟩)
    | (go_at_call 97; refine (ks _).mono ?_; rintro e w2 ⟨rfl, f2⟩))
  go_ret
  exact ⟨rfl, (((Fr.alloc _ _ _).same (Fr.alloc _ _ _)).same f1).same f2⟩
set_option maxRecDepth 20000 in
set_option maxHeartbeats 4000000 in
theorem told_fnps (q k : Nat) (op t b by' lo' hi' nu ta pu tr : Int) (nm : Bs) (en : Bool) (bl off nl cl : Nat) (ap : Option Addr) (np cp : Nat) (ps : List Int) (hnp : ps.length = np) (hv : ∀ t ∈ ps, valued t = true) (hpb : np ≤ 17592186044416) (hk : k < nl) (h1 : nl ≤ cl) (h2 : cl ≤ 9223372036854775807) (w : World)
    (hc : w.cell? ⟨q, 4, none⟩ = some (.slice (some ⟨bl, off, none⟩) nl cl)) (hx : w.cell? ⟨bl, off + k * 2, none⟩ = some (.slice ap np cp)) (hp : InL w ap cp ps) :
    Calls Tryz.prog 112 #[.pointer (some ⟨q, 0, none⟩), .agg #[ci op, ci (k : Int), ci t, .int .u64 b], .agg #[ct nm, ci by', ci lo', ci hi', ci nu, ci ta, ci pu, ci tr, .bool en], ci 7] w fun e w' => e = .returned (ct (encSt ps)) ∧ Fr (fun _ => False) w w' := by
  have ks := fun W (f : Fr (fun _ => False) w W) => stackOf_any ap np cp ps hnp hv hpb W (hp.keep f)
  generalize encSt ps = T at ks ⊢
  obtain ⟨V, hV⟩ : ∃ V, V = (w.alloc (.cells #[ci op, ci (k : Int), ci t, .int .u64 b] 69 (0, 0))).alloc (.cells #[ct nm, ci by', ci lo', ci hi', ci nu, ci ta, ci pu, ci tr, .bool en] 136 (0, 0)) := ⟨_, rfl⟩
  have fV : Fr (fun _ => False) w V := by rw [hV]; exact (Fr.alloc _ _ _).same (Fr.alloc _ _ _)
  obtain ⟨c0, c1, c2, c3⟩ := box4 (show V.heap[w.heap.size]? = some (.cells #[ci op, ci (k : Int), ci t, .int .u64 b] 69 (0, 0)) by rw [hV]; exact heap_alloc2_old _ _ _)
  have d4 := fV.cellN hc
  have dx := fV.cellN hx
  have hVH : Hidden (V = _) := hV
  have fVH : Hidden (Fr (fun _ => False) w V) := fV
  have ksV : ∀ W, Fr (fun _ => False) V W → _ := fun W f => ks W (fV.same f)
  clear hV fV hc hx hp hv ks
  go_enter Tryz.func112, Tryz.ntmps112
  go_upto_region 11 with fail
  rw [← (show V = _ from hVH)]
  generalize w.heap.size = G at c0 c1 c2 c3 ⊢
  refine wp_region_grow (by kernel_rfl) (by kernel_rfl) ?_
  (repeat (first | (refine grow_op (v := ?_) ?_ ?_ ?_; rotate_left; (focus (first | exact wanted_none rfl | (go_simp; done))); (focus (intro w' hw'; have c0 := hw'.cellN c0; have c1 := hw'.cellN c1; have c2 := hw'.cellN c2; have c3 := hw'.cellN c3; have d4 := hw'.cellN d4; have dx := hw'.cellN dx; (go_simp; first | with_reducible rfl | (go_at_call 120; refine calls_grow hw' ?_; first | (have q := ksV w' hw'; with_reducible exact q))))); (intro a' ha; simp only [Act.put, List.setIfInBounds_toArray, List.set_cons_zero, List.set_cons_succ] at ha; subst ha)) | (refine grow_no ?_ ?_; (focus (first | (go_simp; done) | rfl)); (intro a' ha; simp only [Act.put, List.setIfInBounds_toArray, List.set_cons_zero, List.set_cons_succ] at ha; subst ha)))); refine grow_nil ?_; intro w7 q7
  go_wp2_with fail
  go_ret
  exact ⟨rfl, (show Fr (fun _ => False) w V from fVH).same q7⟩
set_option maxRecDepth 20000 in
set_option maxHeartbeats 4000000 in
theorem told_fnres (q k : Nat) (op t b by' lo' hi' nu ta pu tr : Int) (nm : Bs) (en : Bool) (bl off nl cl : Nat) (x : Int) (hxv : x = 0 ∨ valued x = true) (hk : k < nl) (h1 : nl ≤ cl) (h2 : cl ≤ 9223372036854775807) (w : World)
    (hc : w.cell? ⟨q, 4, none⟩ = some (.slice (some ⟨bl, off, none⟩) nl cl)) (hx : w.cell? ⟨bl, off + k * 2 + 1, none⟩ = some (ci x)) :
    Calls Tryz.prog 112 #[.pointer (some ⟨q, 0, none⟩), .agg #[ci op, ci (k : Int), ci t, .int .u64 b], .agg #[ct nm, ci by', ci lo', ci hi', ci nu, ci ta, ci pu, ci tr, .bool en], ci 8] w fun e w' => e = .returned (ct (encSt (oneS x))) ∧ Fr (fun _ => False) w w' := by
  have ks := fun W => single_any x hxv W
  generalize encSt (oneS x) = T at ks ⊢
  obtain ⟨V, hV⟩ : ∃ V, V = (w.alloc (.cells #[ci op, ci (k : Int), ci t, .int .u64 b] 69 (0, 0))).alloc (.cells #[ct nm, ci by', ci lo', ci hi', ci nu, ci ta, ci pu, ci tr, .bool en] 136 (0, 0)) := ⟨_, rfl⟩
  have fV : Fr (fun _ => False) w V := by rw [hV]; exact (Fr.alloc _ _ _).same (Fr.alloc _ _ _)
  obtain ⟨c0, c1, c2, c3⟩ := box4 (show V.heap[w.heap.size]? = some (.cells #[ci op, ci (k : Int), ci t, .int .u64 b] 69 (0, 0)) by rw [hV]; exact heap_alloc2_old _ _ _)
  have d4 := fV.cellN hc
  have dx := fV.cellN hx
  have hVH : Hidden (V = _) := hV
  have fVH : Hidden (Fr (fun _ => False) w V) := fV
  clear hV fV hc hx
  go_enter Tryz.func112, Tryz.ntmps112
  go_upto_region 13 with fail
  rw [← (show V = _ from hVH)]
  generalize w.heap.size = G at c0 c1 c2 c3 ⊢
  refine wp_region_grow (by kernel_rfl) (by kernel_rfl) ?_
  (repeat (first | (refine grow_op (v := ?_) ?_ ?_ ?_; rotate_left; (focus (first | exact wanted_none rfl | (go_simp; done))); (focus (intro w' hw'; have c0 := hw'.cellN c0; have c1 := hw'.cellN c1; have c2 := hw'.cellN c2; have c3 := hw'.cellN c3; have d4 := hw'.cellN d4; have dx := hw'.cellN dx; (go_simp; first | with_reducible rfl | (go_at_call 97; refine calls_grow hw' ?_; first | (have q := ks w'; with_reducible exact q))))); (intro a' ha; simp only [Act.put, List.setIfInBounds_toArray, List.set_cons_zero, List.set_cons_succ] at ha; subst ha)) | (refine grow_no ?_ ?_; (focus (first | (go_simp; done) | rfl)); (intro a' ha; simp only [Act.put, List.setIfInBounds_toArray, List.set_cons_zero, List.set_cons_succ] at ha; subst ha)))); refine grow_nil ?_; intro w7 q7
  go_wp2_with fail
  go_ret
  exact ⟨rfl, (show Fr (fun _ => False) w V from fVH).same q7⟩
end Go.Proofs.YtoiglopilpoafaaGreatDoor.Cd
