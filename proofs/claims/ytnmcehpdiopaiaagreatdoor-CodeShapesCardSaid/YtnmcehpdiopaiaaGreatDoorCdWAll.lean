/- Texts of ours, in one. -/
import Derived.Test.YtnmcehpdiopaiaaGreatDoorCdMkAll
import Derived.Test.YtnmcehpdiopaiaaGreatDoorCdTp
namespace Go.Proofs.YtnmcehpdiopaiaaGreatDoor.Cd
open Go.RowKit Ty
set_option linter.unusedSimpArgs false
set_option linter.unusedVariables false

set_option maxRecDepth 20000 in
set_option maxHeartbeats 1000000 in
theorem put_making (q : Nat) (op N t b by' lo' hi' nu ta tr : Int) (nm : Bs) (en : Bool) (s : Bs) (u e : Int) (hu : u = 0 ∨ valued u = true) (w : World)
    (km : ∀ W, Calls Tryz.prog 89 #[ci N, ct s] W fun x w' => x = .returned (.tuple #[ci u, ci e]) ∧ Fr (fun _ => False) W w') :
    Calls Tryz.prog 76 #[.pointer (some ⟨q, 0, none⟩), .agg #[ci op, ci N, ci t, .int .u64 b], .agg #[ct nm, ci by', ci lo', ci hi', ci nu, ci ta, ci 10, ci tr, .bool en], ct s] w fun x w' => x = .returned (.tuple #[ct (encSt (oneS u)), .bool (e == 0)]) ∧ Fr (fun _ => False) w w' := by
  have ks := fun W => single_any u hu W
  generalize encSt (oneS u) = T at ks ⊢
  clear hu
  go_enter Tryz.func76, Tryz.ntmps76
  go_wp2_with (first
    | (go_at_call 89; refine (km _).mono ?_; rintro e w1 ⟨rfl, f1⟩)
    | (go_at_call 63; refine (ks _).mono ?_; rintro e w2 ⟨rfl, f2⟩))
  go_ret2
  exact ⟨rfl, (((Fr.alloc _ _ _).same (Fr.alloc _ _ _)).same f1).same f2⟩
theorem tp_none {st : List Int} (h : tp st = none) : st = [] := by
  unfold tp at h
  split at h
  · rename_i e; exact List.getLast?_eq_none_iff.1 e
  · cases h
theorem top_one {st r : List Int} {t : Int} (h : tp st = some (r, t)) (T : Bs) : takenT 1 (encSt st) T = (encSt [t], true) := by
  have e := (tp_sub h).2.2
  subst e
  unfold takenT
  rw [if_pos rfl, encSt_app]
  have h1 : (encSt r ++ encSt [t]).length = (encSt r).length + 1 := by simp [encSt]
  rw [h1, if_neg (by omega), Nat.add_sub_cancel, List.drop_left]
  simp
theorem top_two {st r r' : List Int} {t u : Int} (h : tp st = some (r, t)) (h' : tp r = some (r', u)) (T : Bs) : takenT 2 (encSt st) T = (encSt [u, t], true) := by
  have e := (tp_sub h).2.2
  have e' := (tp_sub h').2.2
  subst e
  subst e'
  unfold takenT
  rw [if_neg (by decide), if_pos rfl, List.append_assoc, encSt_app]
  have h1 : (encSt r' ++ encSt ([u] ++ [t])).length = (encSt r').length + 2 := by simp [encSt]
  rw [h1, if_neg (by omega), Nat.add_sub_cancel, List.drop_left]
  simp
theorem take_top {r x : List Int} : (encSt (r ++ x)).take ((encSt (r ++ x)).length - (encSt x).length) = encSt r := by
  rw [encSt_app, List.length_append, Nat.add_sub_cancel, List.take_left]
/-- stackBehind of what takes X off r ++ X, and puts T. -/
theorem behind_x (q : Nat) (op N t b by' lo' hi' nu ta pu tr : Int) (nm : Bs) (en : Bool) (r x : List Int) (T : Bs) (fit : Bool) (hl : (r ++ x).length ≤ 100000) (hT : T.length ≤ 100000) (hta : ta = 1 ∨ ta = 2) (htk : takenT ta (encSt (r ++ x)) [] = (encSt x, true)) (w : World)
    (kp : ∀ W, Fr (fun _ => False) w W → Calls Tryz.prog 76 #[.pointer (some ⟨q, 0, none⟩), .agg #[ci op, ci N, ci t, .int .u64 b], .agg #[ct nm, ci by', ci lo', ci hi', ci nu, ci ta, ci pu, ci tr, .bool en], ct (encSt x)] W fun e w' => e = .returned (.tuple #[ct T, .bool fit]) ∧ Fr (fun _ => False) W w') :
    Calls Tryz.prog 60 #[.pointer (some ⟨q, 0, none⟩), .agg #[ci op, ci N, ci t, .int .u64 b], .agg #[ct nm, ci by', ci lo', ci hi', ci nu, ci ta, ci pu, ci tr, .bool en], ct (encSt (r ++ x))] w fun e w' => e = .returned (.tuple #[ct (encSt r ++ T), .bool fit]) ∧ Fr (fun _ => False) w w' := by
  have tkn := fun W => taken_any q op N t b by' lo' hi' nu ta pu tr nm en (encSt (r ++ x)) [] (by rw [encSt_len]; exact hl) W (fun h1 h2 => by rcases hta with e | e; exact absurd e h1; exact absurd e h2)
  rw [htk] at tkn
  have := behind_ok q op N t b by' lo' hi' nu ta pu tr nm en (encSt (r ++ x)) (encSt x) T fit (by rw [encSt_len]; exact hl) (by rw [encSt_len, encSt_len]; simp) hT w (fun W _ => tkn W) kp
  rw [take_top] at this
  exact this
theorem behind_xno (q : Nat) (op N t b by' lo' hi' nu ta pu tr : Int) (nm : Bs) (en : Bool) (st : List Int) (X : Bs) (hl : st.length ≤ 100000) (hta : ta = 1 ∨ ta = 2) (htk : takenT ta (encSt st) [] = (X, false)) (w : World) :
    Calls Tryz.prog 60 #[.pointer (some ⟨q, 0, none⟩), .agg #[ci op, ci N, ci t, .int .u64 b], .agg #[ct nm, ci by', ci lo', ci hi', ci nu, ci ta, ci pu, ci tr, .bool en], ct (encSt st)] w fun e w' => e = .returned (.tuple #[ct [], .bool false]) ∧ Fr (fun _ => False) w w' := by
  have tkn := fun W => taken_any q op N t b by' lo' hi' nu ta pu tr nm en (encSt st) [] (by rw [encSt_len]; exact hl) W (fun h1 h2 => by rcases hta with e | e; exact absurd e h1; exact absurd e h2)
  rw [htk] at tkn
  exact behind_no q op N t b by' lo' hi' nu ta pu tr nm en (encSt st) X w (fun W _ => tkn W)

/-- A walk at a place, and all that lies around it. -/
structure Ct (w : World) (f : Fu) (p : Fm) (q gs ga n k b3 o3 c2 c3 c4 c5 : Nat) (v0 : Value) (a2 a4 a5 : Option Addr) (L : Cs) (s : Sp) (g : Bool) : Prop where
  wk : Wk w q gs ga n v0 (ci f.sg.res) (.slice a2 f.loc.length c2) (.slice (some ⟨b3, o3, none⟩) n c3) (.slice a4 p.fns.length c4) (.slice a5 p.vars.length c5) L
  at' : L[k]? = some (some (g, s))
  n1 : n ≤ 4096
  le : n ≤ c3
  le2 : c3 ≤ 9223372036854775807
  len : f.cd.length = n
  cell : ∀ (j : Nat) (u : Value), (inC (f.cd.getD k default))[j]? = some u → w.cell? ⟨b3, o3 + k * 4 + j, none⟩ = some u
  right : rightS (f.cd.getD k default) = true
  ov : over s = false
  ok : OkS s
  okF : OkF f p
  loc : InL w a2 c2 f.loc
  vars : InL w a5 c5 p.vars
  fns : SgL w a4 c4 p.fns
  tab : F.Tab w
abbrev KW (w : World) (f : Fu) (p : Fm) (q k : Nat) (s : Sp) : Prop := Calls Tryz.prog 38 #[.pointer (some ⟨q, 0, none⟩), ci (k : Int)] w fun e w' => ∃ v, e = .returned (.tuple #[v, ci (wayS f p k s).1]) ∧ Fr (fun _ => False) w w' ∧ Wy w' w.heap.size v ((wayS f p k s).2.map fun x => ((x.1 : Int), x.2))
abbrev toldC (q : Nat) (op N t b : Int) (word : Int) (T : Bs) (W : World) : Prop := Calls Tryz.prog 87 #[.pointer (some ⟨q, 0, none⟩), .agg #[ci op, ci N, ci t, .int .u64 b], .agg #[ct (nmR op), ci (byR op), ci (lo op), ci (hi op), ci (nuR op), ci (taR op), ci (puR op), ci (trR op), .bool (enR op)], ci word] W fun e w' => e = .returned (ct T) ∧ Fr (fun _ => False) W w'
variable {w : World} {f : Fu} {p : Fm} {q gs ga n k b3 o3 c2 c3 c4 c5 : Nat} {v0 : Value} {a2 a4 a5 : Option Addr} {L : Cs} {s : Sp} {g : Bool}
theorem tk_len {st l r : List Int} (h : tk st l = some r) : r.length ≤ st.length := by
  unfold tk at h
  split at h
  · cases h; rw [List.length_take]; omega
  · cases h
/-- Instructions that take and put what is told. -/
theorem kw_told (c : Ct w f p q gs ga n k b3 o3 c2 c3 c4 c5 v0 a2 a4 a5 L s g) (op N t b : Int) (hi : f.cd.getD k default = ⟨op, N, t, b⟩) (A B : List Int) (hA : Vd A) (hB : Vd B) (hBl : B.length ≤ 100000)
    (h15 : op ≠ 15) (h16 : op ≠ 16) (h1 : taR op ≠ 1) (h2 : taR op ≠ 2) (hpu : (puR op == 10) = false)
    (kt : hasS (nuR op) N f.loc.length n p.fns.length p.vars.length = true → ∀ W, Fr (fun _ => False) w W → toldC q op N t b (taR op) (encSt A) W)
    (kp : hasS (nuR op) N f.loc.length n p.fns.length p.vars.length = true → ∀ W, Fr (fun _ => False) w W → toldC q op N t b (puR op) (encSt B) W)
    (hen : enR op = true → B = [])
    (hst : stepS f p ⟨op, N, t, b⟩ s = if hasS (nuR op) N f.loc.length n p.fns.length p.vars.length = true then (match tk s.st A with | none => none | some r => some ((if enR op then none else some ⟨r ++ B, s.tr⟩), (if nuR op = 4 then some ⟨r ++ B, s.tr⟩ else none))) else none) :
    KW w f p q k s := by
  have hl := over_len c.ov
  have kb : hasS (nuR op) N f.loc.length n p.fns.length p.vars.length = true → ∀ W, Fr (fun _ => False) w W → Calls Tryz.prog 60 #[.pointer (some ⟨q, 0, none⟩), inV ⟨op, N, t, b⟩, rwV op, ct (encSt s.st)] W fun e w' => e = .returned (.tuple #[ct (behT s.st A B).1, .bool (behT s.st A B).2]) ∧ Fr (fun _ => False) W w' := fun hh W hW =>
    behind_told q op N t b (byR op) (lo op) (Cd.hi op) (nuR op) (taR op) (puR op) (trR op) (nmR op) (enR op) s.st A B c.ok.st hA hB (by omega) hBl h1 h2 hpu W
      (fun W' hW' => kt hh W' (hW.same hW')) (fun W' hW' => kp hh W' (hW.same hW'))
  have hr : rightS ⟨op, N, t, b⟩ = true := by have := c.right; rw [hi] at this; exact this
  have hcell := c.cell
  rw [hi] at hcell
  cases hk2 : tk s.st A with
  | none =>
    rw [hk2] at hst
    rw [behT_none hk2] at kb
    refine ways_of f p q gs ga n k b3 o3 c2 c3 c4 c5 v0 a2 a4 a5 L s g ⟨op, N, t, b⟩ [] [] false w c.wk c.at' c.n1 c.le c.le2 c.len hcell hi hr h15 h16 c.ov kb (fun e => by cases e) (by simp) ?_ ?_
    · rw [hst]; simp
    · intro _ _; simp
  | some r =>
    rw [hk2] at hst
    have hrl := tk_len hk2
    rw [behT_some hk2] at kb
    refine ways_of f p q gs ga n k b3 o3 c2 c3 c4 c5 v0 a2 a4 a5 L s g ⟨op, N, t, b⟩ (encSt (r ++ B)) (r ++ B) true w c.wk c.at' c.n1 c.le c.le2 c.len hcell hi hr h15 h16 c.ov kb (fun _ => rfl) (by rw [encSt_len, List.length_append]; omega) ?_ ?_
    · rw [hst]; simp
    · intro he _
      rw [hen he, List.append_nil]
      omega
/-- Instructions that take any one, or any two. -/
theorem kw_any (c : Ct w f p q gs ga n k b3 o3 c2 c3 c4 c5 v0 a2 a4 a5 L s g) (op N t b : Int) (hi : f.cd.getD k default = ⟨op, N, t, b⟩) (r x : List Int) (B : List Int) (fit : Bool) (hBl : B.length ≤ 100000) (hsx : s.st = r ++ x)
    (h15 : op ≠ 15) (h16 : op ≠ 16) (hta : taR op = 1 ∨ taR op = 2) (htk : takenT (taR op) (encSt (r ++ x)) [] = (encSt x, true)) (hnu : nuR op = 0) (hen : enR op = false)
    (kp : ∀ W, Fr (fun _ => False) w W → Calls Tryz.prog 76 #[.pointer (some ⟨q, 0, none⟩), .agg #[ci op, ci N, ci t, .int .u64 b], rwV op, ct (encSt x)] W fun e w' => e = .returned (.tuple #[ct (encSt B), .bool fit]) ∧ Fr (fun _ => False) W w')
    (hst : stepS f p ⟨op, N, t, b⟩ s = if fit = true then some (some ⟨r ++ B, s.tr⟩, none) else none) :
    KW w f p q k s := by
  have hl := over_len c.ov
  have hl2 : (r ++ x).length ≤ 512 := by rw [← hsx]; exact hl.1
  have hr : rightS ⟨op, N, t, b⟩ = true := by have := c.right; rw [hi] at this; exact this
  have hcell := c.cell
  rw [hi] at hcell
  refine ways_of f p q gs ga n k b3 o3 c2 c3 c4 c5 v0 a2 a4 a5 L s g ⟨op, N, t, b⟩ (encSt r ++ encSt B) (r ++ B) fit w c.wk c.at' c.n1 c.le c.le2 c.len hcell hi hr h15 h16 c.ov (fun _ W hW => ?_) (fun _ => (encSt_app r B).symm) (by rw [List.length_append, encSt_len, encSt_len]; rw [List.length_append] at hl2; omega) ?_ ?_
  · rw [hsx]
    exact behind_x q op N t b (byR op) (lo op) (Cd.hi op) (nuR op) (taR op) (puR op) (trR op) (nmR op) (enR op) r x (encSt B) fit (by omega) (by rw [encSt_len]; exact hBl) hta htk W (fun W' hW' => kp W' (hW.same hW'))
  · rw [hst]
    have e : hasS (nuR op) N f.loc.length n p.fns.length p.vars.length = true := by rw [hnu]; rfl
    rw [e, hen, hnu]
    cases fit <;> simp
  · intro e; rw [hen] at e; cases e
theorem kw_none (c : Ct w f p q gs ga n k b3 o3 c2 c3 c4 c5 v0 a2 a4 a5 L s g) (op N t b : Int) (hi : f.cd.getD k default = ⟨op, N, t, b⟩) (X : Bs)
    (h15 : op ≠ 15) (h16 : op ≠ 16) (hta : taR op = 1 ∨ taR op = 2) (htk : takenT (taR op) (encSt s.st) [] = (X, false))
    (hst : stepS f p ⟨op, N, t, b⟩ s = none) :
    KW w f p q k s := by
  have hl := over_len c.ov
  have hr : rightS ⟨op, N, t, b⟩ = true := by have := c.right; rw [hi] at this; exact this
  have hcell := c.cell
  rw [hi] at hcell
  refine ways_of f p q gs ga n k b3 o3 c2 c3 c4 c5 v0 a2 a4 a5 L s g ⟨op, N, t, b⟩ [] [] false w c.wk c.at' c.n1 c.le c.le2 c.len hcell hi hr h15 h16 c.ov (fun _ W hW => ?_) (fun e => by cases e) (by simp) ?_ ?_
  · exact behind_xno q op N t b (byR op) (lo op) (Cd.hi op) (nuR op) (taR op) (puR op) (trR op) (nmR op) (enR op) s.st X (by omega) hta htk W
  · rw [hst]; simp
  · intro _ _; simp
end Go.Proofs.YtnmcehpdiopaiaaGreatDoor.Cd

namespace Go.Proofs.YtnmcehpdiopaiaaGreatDoor.Cd
open Go.RowKit Ty
set_option linter.unusedSimpArgs false
set_option linter.unusedVariables false

variable {w : World} {f : Fu} {p : Fm} {q gs ga n k b3 o3 c2 c3 c4 c5 : Nat} {v0 : Value} {a2 a4 a5 : Option Addr} {L : Cs} {s : Sp} {g : Bool}
theorem vd_nil : Vd [] := fun x hx => by simp at hx
theorem tell_none (q : Nat) (op N t b k : Int) (hk : (k == 3) = false ∧ (k == 4) = false ∧ (k == 5) = false ∧ (k == 6) = false ∧ (k == 7) = false ∧ (k == 8) = false ∧ (k == 9) = false) (W : World) : toldC q op N t b k (encSt []) W :=
  told_none q op N t b (byR op) (lo op) (Cd.hi op) (nuR op) (taR op) (puR op) (trR op) (nmR op) (enR op) k hk W
theorem st_2 (N t b : Int) : stepS f p ⟨2, N, t, b⟩ s = (f.loc[N.toNat]?).bind fun t => on s (s.st ++ [t]) := by simp [stepS]
theorem st_3 (N t b : Int) : stepS f p ⟨3, N, t, b⟩ s = (f.loc[N.toNat]?).bind fun t => (tk s.st [t]).bind fun r => on s r := by simp [stepS]
theorem st_4 (N t b : Int) : stepS f p ⟨4, N, t, b⟩ s = (p.vars[N.toNat]?).bind fun t => on s (s.st ++ [t]) := by simp [stepS]
theorem st_5 (N t b : Int) : stepS f p ⟨5, N, t, b⟩ s = (p.vars[N.toNat]?).bind fun t => (tk s.st [t]).bind fun r => on s r := by simp [stepS]
theorem st_6 (N t b : Int) : stepS f p ⟨6, N, t, b⟩ s = (tp s.st).bind fun x => if (unS N x.2).2 = 0 then on s (x.1 ++ [(unS N x.2).1]) else none := by simp [stepS]
theorem st_7 (N t b : Int) : stepS f p ⟨7, N, t, b⟩ s = (tp s.st).bind fun x => (tp x.1).bind fun y => if (binS N y.2 x.2).2 = 0 then on s (y.1 ++ [(binS N y.2 x.2).1]) else none := by simp [stepS]
theorem st_8 (N t b : Int) : stepS f p ⟨8, N, t, b⟩ s = some (none, some s) := by simp [stepS]
theorem st_9 (N t b : Int) : stepS f p ⟨9, N, t, b⟩ s = (tk s.st [3]).bind fun r => some (some ⟨r, s.tr⟩, some ⟨r, s.tr⟩) := by simp [stepS]
theorem st_10 (N t b : Int) : stepS f p ⟨10, N, t, b⟩ s = (p.fns[N.toNat]?).bind fun g => (tk s.st g.ps).bind fun r => on s (if g.res = 0 then r else r ++ [g.res]) := by simp [stepS]
theorem st_12 (N t b : Int) : stepS f p ⟨12, N, t, b⟩ s = (tp s.st).bind fun x => on s x.1 := by simp [stepS]
theorem st_13 (N t b : Int) : stepS f p ⟨13, N, t, b⟩ s = (tk s.st [1]).bind fun _ => some (none, none) := by simp [stepS]
theorem st_14 (N t b : Int) : stepS f p ⟨14, N, t, b⟩ s = on s (s.st ++ [1]) := by simp [stepS]
theorem st_17 (N t b : Int) : stepS f p ⟨17, N, t, b⟩ s = (tp s.st).bind fun x => on s x.1 := by simp [stepS]
theorem n_nat (c : Ct w f p q gs ga n k b3 o3 c2 c3 c4 c5 v0 a2 a4 a5 L s g) {op N t b : Int} (hi : f.cd.getD k default = ⟨op, N, t, b⟩) : ∃ K : Nat, N = K := by
  have h0 := Int.le_trans (lo_pos _) (right_parts c.right).2.2.1
  rw [hi] at h0
  exact ⟨N.toNat, by simp only [] at h0; omega⟩
theorem site_of (c : Ct w f p q gs ga n k b3 o3 c2 c3 c4 c5 v0 a2 a4 a5 L s g) : Si w q v0 f.sg.res a2 (some ⟨b3, o3, none⟩) a4 a5 f.loc.length n p.fns.length p.vars.length c2 c3 c4 c5 := by
  obtain ⟨e0, e1, e2, e3, e4, e5, _, _⟩ := box8 c.wk.box
  exact ⟨e0, e1, e2, e3, e4, e5⟩
theorem inl_at {ao : Option Addr} {cap K : Nat} {l : List Int} (h : InL w ao cap l) (hK : K < l.length) : ∃ b off, ao = some ⟨b, off, none⟩ ∧ w.cell? ⟨b, off + K, none⟩ = some (ci l[K]) := by
  obtain ⟨b, off, rfl, hc⟩ := h.2.2.2.resolve_left (by rintro rfl; simp at hK)
  exact ⟨b, off, rfl, hc K _ (List.getElem?_eq_getElem hK)⟩
theorem cap_le {ao : Option Addr} {cap : Nat} {l : List Int} (h : InL w ao cap l) : cap ≤ 9223372036854775807 := by have := h.2.1; simpa [maxLen] using this
theorem loc_told (c : Ct w f p q gs ga n k b3 o3 c2 c3 c4 c5 v0 a2 a4 a5 L s g) (op K : Nat) (t b : Int) (hnu : nuR op = 1) (hK : K < f.loc.length) (W : World) (hW : Fr (fun _ => False) w W) : toldC q op K t b 6 (encSt [f.loc[K]]) W := by
  have hv := c.okF.loc f.loc[K] (List.getElem_mem hK)
  obtain ⟨bl, off, e, hc⟩ := inl_at c.loc hK
  have hs := (site_of c).c2
  have hcl := cap_le c.loc
  have hle := c.loc.1
  rw [e] at hs
  have := told_place q op K t b (byR op) (lo op) (Cd.hi op) (nuR op) (taR op) (puR op) (trR op) (nmR op) (enR op) f.loc[K] (Or.inr hv) W (fun W' hW' => by
    rw [hnu]
    exact place_loc q op K t b f.loc[K] bl off f.loc.length c2 hK hle hcl W' ((hW.same hW').cellN hs) ((hW.same hW').cellN hc))
  have e2 : oneS f.loc[K] = [f.loc[K]] := by unfold oneS; rw [if_neg (by intro e; rw [e] at hv; cases hv)]
  rw [e2] at this
  exact this
theorem var_told (c : Ct w f p q gs ga n k b3 o3 c2 c3 c4 c5 v0 a2 a4 a5 L s g) (op K : Nat) (t b : Int) (hnu : nuR op = 2) (hK : K < p.vars.length) (W : World) (hW : Fr (fun _ => False) w W) : toldC q op K t b 6 (encSt [p.vars[K]]) W := by
  have hv := c.okF.vars p.vars[K] (List.getElem_mem hK)
  obtain ⟨bl, off, e, hc⟩ := inl_at c.vars hK
  have hs := (site_of c).c5
  have hcl := cap_le c.vars
  have hle := c.vars.1
  rw [e] at hs
  have := told_place q op K t b (byR op) (lo op) (Cd.hi op) (nuR op) (taR op) (puR op) (trR op) (nmR op) (enR op) p.vars[K] (Or.inr hv) W (fun W' hW' => by
    rw [hnu]
    exact place_var q op K t b p.vars[K] bl off p.vars.length c5 hK hle hcl W' ((hW.same hW').cellN hs) ((hW.same hW').cellN hc))
  have e2 : oneS p.vars[K] = [p.vars[K]] := by unfold oneS; rw [if_neg (by intro e; rw [e] at hv; cases hv)]
  rw [e2] at this
  exact this
theorem has_1 (K a b c d : Nat) : hasS 1 (K : Int) a b c d = decide (K < a) := by unfold hasS; simp
theorem has_2 (K a b c d : Nat) : hasS 2 (K : Int) a b c d = decide (K < d) := by unfold hasS; simp
theorem has_3 (K a b c d : Nat) : hasS 3 (K : Int) a b c d = decide (K < c) := by unfold hasS; simp
theorem has_4 (K a b c d : Nat) : hasS 4 (K : Int) a b c d = decide (K < b) := by unfold hasS; simp
theorem kw_2 (c : Ct w f p q gs ga n k b3 o3 c2 c3 c4 c5 v0 a2 a4 a5 L s g) (N t b : Int) (hi : f.cd.getD k default = ⟨2, N, t, b⟩) : KW w f p q k s := by
  obtain ⟨K, rfl⟩ := n_nat c hi
  have e : hasS (nuR 2) (K : Int) f.loc.length n p.fns.length p.vars.length = decide (K < f.loc.length) := has_1 _ _ _ _ _
  by_cases hK : K < f.loc.length
  · refine kw_told c 2 K t b hi [] [f.loc[K]] vd_nil (Vd.one (c.okF.loc _ (List.getElem_mem hK))) (by simp) (by decide) (by decide) (by decide) (by decide) (by decide) (fun _ W _ => tell_none q 2 K t b _ (by decide) W) (fun _ W hW => loc_told c 2 K t b rfl hK W hW) (fun e => absurd e (by decide)) ?_
    rw [st_2, e, decide_eq_true hK, tk_nil]
    simp [hK, on, show enR 2 = false from rfl, show nuR 2 = 1 from rfl]
  · refine kw_told c 2 K t b hi [] [] vd_nil vd_nil (by simp) (by decide) (by decide) (by decide) (by decide) (by decide) (fun h => by rw [e] at h; simp at h; omega) (fun h => by rw [e] at h; simp at h; omega) (by decide) ?_
    rw [st_2, e, decide_eq_false hK]
    simp [show f.loc.length ≤ K by omega]
theorem kw_3 (c : Ct w f p q gs ga n k b3 o3 c2 c3 c4 c5 v0 a2 a4 a5 L s g) (N t b : Int) (hi : f.cd.getD k default = ⟨3, N, t, b⟩) : KW w f p q k s := by
  obtain ⟨K, rfl⟩ := n_nat c hi
  have e : hasS (nuR 3) (K : Int) f.loc.length n p.fns.length p.vars.length = decide (K < f.loc.length) := has_1 _ _ _ _ _
  by_cases hK : K < f.loc.length
  · refine kw_told c 3 K t b hi [f.loc[K]] [] (Vd.one (c.okF.loc _ (List.getElem_mem hK))) vd_nil (by simp) (by decide) (by decide) (by decide) (by decide) (by decide) (fun _ W hW => loc_told c 3 K t b rfl hK W hW) (fun _ W _ => tell_none q 3 K t b _ (by decide) W) (by decide) ?_
    rw [st_3, e, decide_eq_true hK]
    have hget : f.loc[(K : Int).toNat]? = some f.loc[K] := by simp [hK]
    rw [hget, Option.bind_some]
    cases tk s.st [f.loc[K]] <;> simp [on, show enR 3 = false from rfl, show nuR 3 = 1 from rfl]
  · refine kw_told c 3 K t b hi [] [] vd_nil vd_nil (by simp) (by decide) (by decide) (by decide) (by decide) (by decide) (fun h => by rw [e] at h; simp at h; omega) (fun h => by rw [e] at h; simp at h; omega) (by decide) ?_
    rw [st_3, e, decide_eq_false hK]
    simp [show f.loc.length ≤ K by omega]
theorem kw_4 (c : Ct w f p q gs ga n k b3 o3 c2 c3 c4 c5 v0 a2 a4 a5 L s g) (N t b : Int) (hi : f.cd.getD k default = ⟨4, N, t, b⟩) : KW w f p q k s := by
  obtain ⟨K, rfl⟩ := n_nat c hi
  have e : hasS (nuR 4) (K : Int) f.loc.length n p.fns.length p.vars.length = decide (K < p.vars.length) := has_2 _ _ _ _ _
  by_cases hK : K < p.vars.length
  · refine kw_told c 4 K t b hi [] [p.vars[K]] vd_nil (Vd.one (c.okF.vars _ (List.getElem_mem hK))) (by simp) (by decide) (by decide) (by decide) (by decide) (by decide) (fun _ W _ => tell_none q 4 K t b _ (by decide) W) (fun _ W hW => var_told c 4 K t b rfl hK W hW) (fun e => absurd e (by decide)) ?_
    rw [st_4, e, decide_eq_true hK, tk_nil]
    simp [hK, on, show enR 4 = false from rfl, show nuR 4 = 2 from rfl]
  · refine kw_told c 4 K t b hi [] [] vd_nil vd_nil (by simp) (by decide) (by decide) (by decide) (by decide) (by decide) (fun h => by rw [e] at h; simp at h; omega) (fun h => by rw [e] at h; simp at h; omega) (by decide) ?_
    rw [st_4, e, decide_eq_false hK]
    simp [show p.vars.length ≤ K by omega]
theorem kw_5 (c : Ct w f p q gs ga n k b3 o3 c2 c3 c4 c5 v0 a2 a4 a5 L s g) (N t b : Int) (hi : f.cd.getD k default = ⟨5, N, t, b⟩) : KW w f p q k s := by
  obtain ⟨K, rfl⟩ := n_nat c hi
  have e : hasS (nuR 5) (K : Int) f.loc.length n p.fns.length p.vars.length = decide (K < p.vars.length) := has_2 _ _ _ _ _
  by_cases hK : K < p.vars.length
  · refine kw_told c 5 K t b hi [p.vars[K]] [] (Vd.one (c.okF.vars _ (List.getElem_mem hK))) vd_nil (by simp) (by decide) (by decide) (by decide) (by decide) (by decide) (fun _ W hW => var_told c 5 K t b rfl hK W hW) (fun _ W _ => tell_none q 5 K t b _ (by decide) W) (by decide) ?_
    rw [st_5, e, decide_eq_true hK]
    have hget : p.vars[(K : Int).toNat]? = some p.vars[K] := by simp [hK]
    rw [hget, Option.bind_some]
    cases tk s.st [p.vars[K]] <;> simp [on, show enR 5 = false from rfl, show nuR 5 = 2 from rfl]
  · refine kw_told c 5 K t b hi [] [] vd_nil vd_nil (by simp) (by decide) (by decide) (by decide) (by decide) (by decide) (fun h => by rw [e] at h; simp at h; omega) (fun h => by rw [e] at h; simp at h; omega) (by decide) ?_
    rw [st_5, e, decide_eq_false hK]
    simp [show p.vars.length ≤ K by omega]
/-- Jumps beyond the end. -/
theorem kw_out (c : Ct w f p q gs ga n k b3 o3 c2 c3 c4 c5 v0 a2 a4 a5 L s g) (op K : Nat) (t b : Int) (hi : f.cd.getD k default = ⟨op, K, t, b⟩) (h15 : (op : Int) ≠ 15) (h16 : (op : Int) ≠ 16) (hnu : nuR op = 4) (hK : n ≤ K)
    (hst : stepS f p ⟨op, K, t, b⟩ s = none ∨ ∃ a b', stepS f p ⟨op, K, t, b⟩ s = some (a, some b')) : KW w f p q k s := by
  have hp := right_parts c.right
  rw [hi] at hp
  have hkn : k < n := by rw [← c.wk.len]; exact (List.getElem?_eq_some_iff.1 c.at').1
  have htr : trR op = 0 := by
    unfold trR
    rw [if_neg h15, if_neg h16]
  have hcell := c.cell
  rw [hi] at hcell
  have ew : wayS f p k s = (51, []) := by
    unfold wayS
    rw [hi]
    rcases hst with e | ⟨a, b', e⟩
    · rw [e]
    · rw [e]
      simp only []
      rw [if_pos]
      simp [c.len]
      omega
  have kk := ways_w q gs ga n k b3 o3 c3 v0 (ci f.sg.res) (.slice a2 f.loc.length c2) (.slice a4 p.fns.length c4) (.slice a5 p.vars.length c5) L s [] [] g op K t b (byR op) (lo op) (Cd.hi op) (nuR op) (taR op) (puR op) (trR op) (nmR op) (enR op) false false w c.wk c.at' (by have := c.n1; omega) c.le c.le2
    (hcell 0 _ rfl) (hcell 1 _ rfl) (hcell 2 _ rfl) (hcell 3 _ rfl) (by simpa using h15) (by simpa using h16) htr (over_len c.ov).2 (fun e => by cases e) (by simp)
    (fun W => by have := row_is op W; rw [hp.1] at this; exact this)
    (fun W hW => by
      have := has_any q v0 f.sg.res a2 (some ⟨b3, o3, none⟩) a4 a5 f.loc.length n p.fns.length p.vars.length c2 c3 c4 c5 op K t b (nuR op) (nuR_vals _) W ((site_of c).keep hW)
      rw [hnu, has_4, decide_eq_false (by omega)] at this
      rw [hnu]
      exact this)
    (fun e => by cases e)
  have er : wyR k n false false (enR op) (nuR op) K [] s = (51, []) := by unfold wyR; rw [if_pos (Or.inl rfl)]
  rw [er] at kk
  unfold KW
  rw [ew]
  exact kk
theorem kw_8 (c : Ct w f p q gs ga n k b3 o3 c2 c3 c4 c5 v0 a2 a4 a5 L s g) (N t b : Int) (hi : f.cd.getD k default = ⟨8, N, t, b⟩) : KW w f p q k s := by
  obtain ⟨K, rfl⟩ := n_nat c hi
  have e : hasS (nuR 8) (K : Int) f.loc.length n p.fns.length p.vars.length = decide (K < n) := has_4 _ _ _ _ _
  by_cases hK : K < n
  · refine kw_told c 8 K t b hi [] [] vd_nil vd_nil (by simp) (by decide) (by decide) (by decide) (by decide) (by decide) (fun _ W _ => tell_none q 8 K t b _ (by decide) W) (fun _ W _ => tell_none q 8 K t b _ (by decide) W) (fun _ => rfl) ?_
    rw [st_8, e, decide_eq_true hK, tk_nil]
    simp [show enR 8 = true from rfl, show nuR 8 = 4 from rfl]
  · exact kw_out c 8 K t b hi (by decide) (by decide) rfl (by omega) (Or.inr ⟨_, _, st_8 _ _ _⟩)
theorem kw_9 (c : Ct w f p q gs ga n k b3 o3 c2 c3 c4 c5 v0 a2 a4 a5 L s g) (N t b : Int) (hi : f.cd.getD k default = ⟨9, N, t, b⟩) : KW w f p q k s := by
  obtain ⟨K, rfl⟩ := n_nat c hi
  have e : hasS (nuR 9) (K : Int) f.loc.length n p.fns.length p.vars.length = decide (K < n) := has_4 _ _ _ _ _
  by_cases hK : K < n
  · refine kw_told c 9 K t b hi [3] [] (Vd.one (by decide)) vd_nil (by simp) (by decide) (by decide) (by decide) (by decide) (by decide) (fun _ W _ => told_bool q 9 K t b (byR 9) (lo 9) (Cd.hi 9) (nuR 9) (taR 9) (puR 9) (trR 9) (nmR 9) (enR 9) W) (fun _ W _ => tell_none q 9 K t b _ (by decide) W) (by decide) ?_
    rw [st_9, e, decide_eq_true hK]
    cases tk s.st [3] <;> simp [show enR 9 = false from rfl, show nuR 9 = 4 from rfl]
  · refine kw_out c 9 K t b hi (by decide) (by decide) rfl (by omega) ?_
    have e9 := st_9 (f := f) (p := p) (s := s) K t b
    cases h : tk s.st [3] with
    | none => rw [h] at e9; exact Or.inl e9
    | some r => rw [h] at e9; exact Or.inr ⟨_, _, e9⟩
theorem kw_10 (c : Ct w f p q gs ga n k b3 o3 c2 c3 c4 c5 v0 a2 a4 a5 L s g) (hps : ∀ g ∈ p.fns, g.ps.length ≤ 17592186044416) (N t b : Int) (hi : f.cd.getD k default = ⟨10, N, t, b⟩) : KW w f p q k s := by
  obtain ⟨K, rfl⟩ := n_nat c hi
  have e : hasS (nuR 10) (K : Int) f.loc.length n p.fns.length p.vars.length = decide (K < p.fns.length) := has_3 _ _ _ _ _
  by_cases hK : K < p.fns.length
  · obtain ⟨bl, off, ea, hcs⟩ := c.fns.2.2.2.resolve_left (by intro e; rw [e] at hK; simp at hK)
    obtain ⟨ap, cp, hI, hc0, hc1⟩ := hcs K _ (List.getElem?_eq_getElem hK)
    have hle := c.fns.1
    have hcl : c4 ≤ 9223372036854775807 := by have := c.fns.2.1; simpa [maxLen] using this
    have hs := (site_of c).c4
    rw [ea] at hs
    have hok := c.okF.fns _ (List.getElem_mem hK)
    refine kw_told c 10 K t b hi p.fns[K].ps (oneS p.fns[K].res) hok.1 (oneS_vd hok.2) (by have := oneS_len p.fns[K].res; omega) (by decide) (by decide) (by decide) (by decide) (by decide)
      (fun _ W hW => told_fnps q K 10 t b (byR 10) (lo 10) (Cd.hi 10) (nuR 10) (taR 10) (puR 10) (trR 10) (nmR 10) (enR 10) bl off p.fns.length c4 ap _ cp p.fns[K].ps rfl hok.1 (hps _ (List.getElem_mem hK)) hK hle hcl W (hW.cellN hs) (hW.cellN hc0) (hI.keep hW))
      (fun _ W hW => told_fnres q K 10 t b (byR 10) (lo 10) (Cd.hi 10) (nuR 10) (taR 10) (puR 10) (trR 10) (nmR 10) (enR 10) bl off p.fns.length c4 p.fns[K].res hok.2 hK hle hcl W (hW.cellN hs) (hW.cellN hc1)) (fun e => absurd e (by decide)) ?_
    rw [st_10, e, decide_eq_true hK]
    have ho : ∀ r : List Int, (if p.fns[K].res = 0 then r else r ++ [p.fns[K].res]) = r ++ oneS p.fns[K].res := fun r => by
      unfold oneS
      split <;> simp
    have hget : p.fns[(K : Int).toNat]? = some p.fns[K] := by simp [hK]
    rw [hget, Option.bind_some]
    cases h : tk s.st p.fns[K].ps <;> simp [h, on, ho, show enR 10 = false from rfl, show nuR 10 = 3 from rfl]
  · refine kw_told c 10 K t b hi [] [] vd_nil vd_nil (by simp) (by decide) (by decide) (by decide) (by decide) (by decide) (fun h => by rw [e] at h; simp at h; omega) (fun h => by rw [e] at h; simp at h; omega) (by decide) ?_
    rw [st_10, e, decide_eq_false hK]
    simp [show p.fns.length ≤ K by omega]
theorem kw_13 (c : Ct w f p q gs ga n k b3 o3 c2 c3 c4 c5 v0 a2 a4 a5 L s g) (N t b : Int) (hi : f.cd.getD k default = ⟨13, N, t, b⟩) : KW w f p q k s := by
  refine kw_told c 13 N t b hi [1] [] (Vd.one (by decide)) vd_nil (by simp) (by decide) (by decide) (by decide) (by decide) (by decide) (fun _ W _ => told_int q 13 N t b (byR 13) (lo 13) (Cd.hi 13) (nuR 13) (taR 13) (puR 13) (trR 13) (nmR 13) (enR 13) W) (fun _ W _ => tell_none q 13 N t b _ (by decide) W) (fun _ => rfl) ?_
  rw [st_13, show hasS (nuR 13) N f.loc.length n p.fns.length p.vars.length = true from rfl, if_pos rfl]
  cases tk s.st [1] <;> simp [show enR 13 = true from rfl, show nuR 13 = 0 from rfl]
theorem kw_14 (c : Ct w f p q gs ga n k b3 o3 c2 c3 c4 c5 v0 a2 a4 a5 L s g) (N t b : Int) (hi : f.cd.getD k default = ⟨14, N, t, b⟩) : KW w f p q k s := by
  refine kw_told c 14 N t b hi [] [1] vd_nil (Vd.one (by decide)) (by simp) (by decide) (by decide) (by decide) (by decide) (by decide) (fun _ W _ => tell_none q 14 N t b _ (by decide) W) (fun _ W _ => told_int q 14 N t b (byR 14) (lo 14) (Cd.hi 14) (nuR 14) (taR 14) (puR 14) (trR 14) (nmR 14) (enR 14) W) (by decide) ?_
  rw [st_14, show hasS (nuR 14) N f.loc.length n p.fns.length p.vars.length = true from rfl, if_pos rfl, tk_nil]
  simp [on, show enR 14 = false from rfl, show nuR 14 = 0 from rfl]
theorem put_nothing (q : Nat) (op N t b : Int) (x : Bs) (hpu : puR op = 0) (W : World) : Calls Tryz.prog 76 #[.pointer (some ⟨q, 0, none⟩), .agg #[ci op, ci N, ci t, .int .u64 b], rwV op, ct x] W fun e w' => e = .returned (.tuple #[ct (encSt []), .bool true]) ∧ Fr (fun _ => False) W w' :=
  put_told q op N t b (byR op) (lo op) (Cd.hi op) (nuR op) (taR op) (puR op) (trR op) (nmR op) (enR op) x [] (by rw [hpu]; rfl) W (fun W' _ => tell_none q op N t b (puR op) (by rw [hpu]; decide) W')
theorem kw_12 (c : Ct w f p q gs ga n k b3 o3 c2 c3 c4 c5 v0 a2 a4 a5 L s g) (op N t b : Int) (hop : op = 12 ∨ op = 17) (hi : f.cd.getD k default = ⟨op, N, t, b⟩) : KW w f p q k s := by
  have hst : stepS f p ⟨op, N, t, b⟩ s = (tp s.st).bind fun x => on s x.1 := by rcases hop with rfl | rfl; exact st_12 N t b; exact st_17 N t b
  have h1 : taR op = 1 ∧ nuR op = 0 ∧ enR op = false ∧ puR op = 0 ∧ op ≠ 15 ∧ op ≠ 16 := by rcases hop with rfl | rfl <;> decide
  obtain ⟨h1, h2, h3, h4, h5, h6⟩ := h1
  cases h : tp s.st with
  | none =>
    rw [h] at hst
    refine kw_none c op N t b hi [] h5 h6 (Or.inl h1) ?_ hst
    rw [tp_none h, h1]; rfl
  | some x =>
    obtain ⟨r, z⟩ := x
    rw [h] at hst
    refine kw_any c op N t b hi r [z] [] true (by simp) (tp_sub h).2.2 h5 h6 (Or.inl h1) ?_ h2 h3 (fun W _ => put_nothing q op N t b _ h4 W) ?_
    · rw [h1, ← (tp_sub h).2.2]; exact top_one h []
    · rw [hst]; simp [on]
theorem un_all (op t : Int) : (unS op t).1 = 0 ∨ valued (unS op t).1 = true := by
  by_cases h : (unS op t).2 = 0
  · exact Or.inr (un_val h)
  · left
    unfold unS at h ⊢
    repeat' split at h
    all_goals first
      | (exfalso; exact h rfl)
      | simp_all
theorem taken_all (x1 x2 x3 t : Int) (h1 : x1 = 0 ∨ valued x1 = true) (h2 : x2 = 0 ∨ valued x2 = true) (h3 : x3 = 0 ∨ valued x3 = true) : (takenS x1 x2 x3 t).1 = 0 ∨ valued (takenS x1 x2 x3 t).1 = true := by
  unfold takenS
  repeat' split
  all_goals first
    | exact Or.inl rfl
    | (simp only []; assumption)
theorem bin_all (op t u : Int) : (binS op t u).1 = 0 ∨ valued (binS op t u).1 = true := by
  unfold binS
  split
  · exact Or.inl rfl
  split
  · exact Or.inl rfl
  exact taken_all _ _ _ t (rowB_val op).1 (rowB_val op).2.1 (rowB_val op).2.2
theorem one_val {u : Int} (h : valued u = true) : oneS u = [u] := by unfold oneS; rw [if_neg (by intro e; rw [e] at h; cases h)]
theorem kw_6 (c : Ct w f p q gs ga n k b3 o3 c2 c3 c4 c5 v0 a2 a4 a5 L s g) (N t b : Int) (hi : f.cd.getD k default = ⟨6, N, t, b⟩) : KW w f p q k s := by
  have hst := st_6 (f := f) (p := p) (s := s) N t b
  cases h : tp s.st with
  | none =>
    rw [h] at hst
    refine kw_none c 6 N t b hi [] (by decide) (by decide) (Or.inl rfl) ?_ hst
    rw [tp_none h]; rfl
  | some x =>
    obtain ⟨r, z⟩ := x
    rw [h] at hst
    have hz := c.ok.st z (tp_sub h).2.1
    refine kw_any c 6 N t b hi r [z] (oneS (unS N z).1) ((unS N z).2 == 0) (by have := oneS_len (unS N z).1; omega) (tp_sub h).2.2 (by decide) (by decide) (Or.inl rfl) ?_ rfl rfl (fun W _ => put_making q 6 N t b (byR 6) (lo 6) (Cd.hi 6) (nuR 6) (taR 6) (trR 6) (nmR 6) (enR 6) _ _ _ (un_all N z) W (fun W' => making_1 N z hz W')) ?_
    · rw [← (tp_sub h).2.2]; exact top_one h []
    · rw [hst]
      by_cases he : (unS N z).2 = 0
      · simp [he, on, one_val (un_val he)]
      · simp [he]
theorem kw_7 (c : Ct w f p q gs ga n k b3 o3 c2 c3 c4 c5 v0 a2 a4 a5 L s g) (N t b : Int) (hi : f.cd.getD k default = ⟨7, N, t, b⟩) : KW w f p q k s := by
  have hst := st_7 (f := f) (p := p) (s := s) N t b
  cases h : tp s.st with
  | none =>
    rw [h] at hst
    refine kw_none c 7 N t b hi [] (by decide) (by decide) (Or.inr rfl) ?_ hst
    rw [tp_none h]; rfl
  | some x =>
    obtain ⟨r, z⟩ := x
    rw [h] at hst
    have e1 := (tp_sub h).2.2
    simp only [Option.bind_some] at hst
    cases h2 : tp r with
    | none =>
      rw [h2] at hst
      have er := tp_none h2
      subst er
      refine kw_none c 7 N t b hi [] (by decide) (by decide) (Or.inr rfl) ?_ hst
      rw [e1]; rfl
    | some y =>
      obtain ⟨r', u⟩ := y
      rw [h2] at hst
      have e2 := (tp_sub h2).2.2
      have hz := c.ok.st z (tp_sub h).2.1
      have hu := c.ok.st u ((tp_sub h).1 u (tp_sub h2).2.1)
      have e3 : s.st = r' ++ [u, z] := by rw [e1, e2]; simp
      refine kw_any c 7 N t b hi r' [u, z] (oneS (binS N u z).1) ((binS N u z).2 == 0) (by have := oneS_len (binS N u z).1; omega) e3 (by decide) (by decide) (Or.inr rfl) ?_ rfl rfl (fun W _ => put_making q 7 N t b (byR 7) (lo 7) (Cd.hi 7) (nuR 7) (taR 7) (trR 7) (nmR 7) (enR 7) _ _ _ (bin_all N u z) W (fun W' => making_2 N u z hu hz W')) ?_
      · rw [← e3]; exact top_two h h2 []
      · rw [hst]
        by_cases he : (binS N u z).2 = 0
        · simp [he, on, one_val (bin_val he)]
        · simp [he]
end Go.Proofs.YtnmcehpdiopaiaaGreatDoor.Cd

namespace Go.Proofs.YtnmcehpdiopaiaaGreatDoor.Cd
open Go.RowKit Ty
set_option linter.unusedSimpArgs false
set_option linter.unusedVariables false

theorem three_put {w : World} {g : Nat} {x0 x1 x2 : Value} {t : TypeId} (h : w.heap[g]? = some (.cells #[x0, x1, x2] t (0, 0))) (v0 v1 v2 : Value) :
    (((w.setCell ⟨g, 0, none⟩ v0).setCell ⟨g, 1, none⟩ v1).setCell ⟨g, 2, none⟩ v2).heap[g]? = some (.cells #[v0, v1, v2] t (0, 0)) := by
  have h0 : (w.setCell ⟨g, 0, none⟩ v0).heap[g]? = some (.cells #[v0, x1, x2] t (0, 0)) := heap_setCell_same _ g 0 _ t v0 h
  have h1 : ((w.setCell ⟨g, 0, none⟩ v0).setCell ⟨g, 1, none⟩ v1).heap[g]? = some (.cells #[v0, v1, x2] t (0, 0)) := heap_setCell_same _ g 1 _ t v1 h0
  exact heap_setCell_same _ g 2 _ t v2 h1
theorem three_fr (w : World) (g : Nat) (v0 v1 v2 : Value) : Fr (fun k => k = g) w (((w.setCell ⟨g, 0, none⟩ v0).setCell ⟨g, 1, none⟩ v1).setCell ⟨g, 2, none⟩ v2) :=
  ((Fr.setCell w ⟨g, 0, none⟩ v0).same (Fr.setCell _ ⟨g, 1, none⟩ v1)).same (Fr.setCell _ ⟨g, 2, none⟩ v2)
theorem last_10 (a b : Bs) (ha : a = [] ∨ ∃ r, a = r ++ [10]) (hb : ∀ c ∈ b, c ≠ 10) : Lib.lastIndexByte ⟨(a ++ b).toArray⟩ 10 + 1 = (a.length : Int) := by
  have hs : (⟨(a ++ b).toArray⟩ : ByteArray).size = a.length + b.length := by simp [ByteArray.size]
  have get : ∀ j : Nat, j < a.length + b.length → ∀ c, (a ++ b)[j]? = some c → (⟨(a ++ b).toArray⟩ : ByteArray).data[j]! = c := by
    intro j hj c hc
    rw [getElem!_pos _ j (by simpa using hj)]
    have := (List.getElem?_eq_some_iff.1 hc).2
    simpa using this
  have hbn : ∀ j : Nat, a.length ≤ j → j < a.length + b.length → (((⟨(a ++ b).toArray⟩ : ByteArray).data[j]!).toNat : Int) ≠ 10 := by
    intro j h1 h2 e
    obtain ⟨c, hc⟩ : ∃ c, b[j - a.length]? = some c := ⟨_, List.getElem?_eq_getElem (by omega)⟩
    have h3 : (a ++ b)[j]? = some c := by rw [List.getElem?_append_right h1]; exact hc
    rw [get j h2 c h3] at e
    refine hb c (List.mem_of_getElem? hc) ?_
    have : c.toNat = (10 : UInt8).toNat := by have : c.toNat = 10 := by omega
                                              rw [this]; rfl
    exact UInt8.toNat_inj.1 this
  unfold Lib.lastIndexByte
  rw [hs]
  rcases ha with rfl | ⟨r, rfl⟩
  · rcases Lib.lastIdx_spec ⟨([] ++ b).toArray⟩ 10 (([] : Bs).length + b.length) with ⟨e, _⟩ | ⟨i, hi, _, hc, _⟩
    · rw [e]; rfl
    · exact absurd hc (hbn i (by simp) hi)
  · have h10 : (((⟨((r ++ [10]) ++ b).toArray⟩ : ByteArray).data[r.length]!).toNat : Int) = 10 := by
      rw [get r.length (by simp; omega) 10 (by simp)]
      rfl
    rcases Lib.lastIdx_spec ⟨((r ++ [10]) ++ b).toArray⟩ 10 ((r ++ [10]).length + b.length) with ⟨_, h⟩ | ⟨i, hi, e, hc, h⟩
    · exact absurd h10 (h r.length (by simp; omega))
    · have h1 : i < (r ++ [10]).length := by
        by_cases h2 : i < (r ++ [10]).length
        · exact h2
        · exact absurd hc (hbn i (by omega) hi)
      have h3 : i = r.length := by
        by_cases h4 : i = r.length
        · exact h4
        · exact absurd h10 (h r.length (by simp at h1; omega) (by simp; omega))
      rw [e, h3]
      simp
theorem trim_10 (r : Bs) : Lib.trimSuffix (r ++ [10]) [10] = r := by
  have h : Lib.hasSuffix (r ++ [10]) [10] = true := by
    unfold Lib.hasSuffix
    rw [List.isSuffixOf_iff_suffix]
    exact ⟨r, rfl⟩
  unfold Lib.trimSuffix
  rw [h, if_pos rfl]
  simp
theorem encTr_len : ∀ (l : List (Int × List Int)), (∀ x ∈ l, 0 ≤ x.1 ∧ x.1 ≤ 65535 ∧ x.2.length ≤ 512) → (encTr l).length ≤ l.length * 700
  | [], _ => by simp [encTr]
  | x :: l, h => by
    have h1 := encTr_len l (fun y hy => h y (List.mem_cons_of_mem _ hy))
    have h2 := h x (List.mem_cons_self)
    have h3 := (D.itoa_len x.1 (by unfold D.I64; omega)).1
    have h4 : (encSt x.2).length = x.2.length := by simp [encSt]
    have e : encTr (x :: l) = encOne x ++ encTr l := rfl
    rw [e, List.length_append]
    unfold encOne encLn
    simp only [List.length_append, List.length_cons, List.length_nil]
    omega
set_option maxRecDepth 20000 in
set_option maxHeartbeats 2000000 in
theorem opening_any (x y : Bs) (m : Nat) (N : Int) (hN : D.I64 N) (hx : x.length ≤ 1000) (hy : y.length ≤ 1000000) (hm : m ≤ 1000) (w : World) (ht : F.Tab w) :
    Calls Tryz.prog 62 #[.agg #[ct x, ct y, ci (m : Int)], ci N] w fun e w' => e = .returned (.agg #[ct x, ct (y ++ (Lib.itoa N ++ x ++ [10])), ci ((m : Int) + 1)]) ∧ Fr (fun _ => False) w w' := by
  have hl := (D.itoa_len N hN).1
  obtain ⟨V, hV⟩ : ∃ V, V = (w.alloc (.cells #[ct x, ct y, ci (m : Int)] 77 (0, 0))).alloc (.cells #[ct [], ct [], ci 0] 77 (0, 0)) := ⟨_, rfl⟩
  have fV : Fr (fun _ => False) w V := by rw [hV]; exact (Fr.alloc _ _ _).same (Fr.alloc _ _ _)
  have hb0 : V.heap[w.heap.size]? = some (.cells #[ct x, ct y, ci (m : Int)] 77 (0, 0)) := by rw [hV]; exact heap_alloc2_old _ _ _
  have hb1 : V.heap[w.heap.size + 1]? = some (.cells #[ct [], ct [], ci 0] 77 (0, 0)) := by rw [hV]; exact heap_alloc2_new _ _ _
  have kd : ∀ W, Fr (fun _ => False) V W → Calls Tryz.prog 53 #[ci N] W fun r w' => r = .returned (.string ⟨(Lib.itoa N).toArray⟩) ∧ Fr (fun _ => False) W w' := fun W f => (D.dec_any N hN W (tab_fr ht (fV.same f))).mono (fun e w' h => ⟨h.1, kb_frD h.2⟩)
  generalize Lib.itoa N = D1 at kd hl ⊢
  have hc1 := fun W : World => run_string_add_lists (P := Tryz.prog) W D1 x (by omega) (by omega)
  have hc2 := fun W : World => run_string_add_lists (P := Tryz.prog) W (D1 ++ x) [10] (by simp; omega) (by simp)
  have hc3 := fun W : World => run_string_add_lists (P := Tryz.prog) W y (D1 ++ x ++ [10]) (by omega) (by simp; omega)
  obtain ⟨N1, hN1⟩ : ∃ z, z = D1 ++ x := ⟨_, rfl⟩
  rw [← hN1] at hc1 hc2 hc3 ⊢
  obtain ⟨N2, hN2⟩ : ∃ z, z = N1 ++ [10] := ⟨_, rfl⟩
  rw [← hN2] at hc2 hc3 ⊢
  obtain ⟨N3, hN3⟩ : ∃ z, z = y ++ N2 := ⟨_, rfl⟩
  rw [← hN3] at hc3 ⊢
  have hw2 : IntKind.i64.wrap ((m : Int) + 1) = (m : Int) + 1 := by rw [IntKind.wrap_i64]; omega
  have hfV : Hidden (Fr (fun _ => False) w V) := fV
  have hb0H : Hidden (V.heap[w.heap.size]? = some (.cells #[ct x, ct y, ci (m : Int)] 77 (0, 0))) := hb0
  have hb1H : Hidden (V.heap[w.heap.size + 1]? = some (.cells #[ct [], ct [], ci 0] 77 (0, 0))) := hb1
  have hVH : Hidden (V = _) := hV
  clear hN1 hN2 hN3 fV hV hl ht hN
  go_enter Tryz.func62, Tryz.ntmps62
  go_upto_region 1 with fail
  rw [← (show V = _ from hVH)]
  clear hVH
  obtain ⟨c0, c1, c2⟩ := box3 hb0
  have z1 := frozen_of_row hb0 1
  generalize hG : w.heap.size = G at *
  have hGH : Hidden (w.heap.size = G) := hG
  clear hG
  go_region_with (first
    | (go_at_call 53; refine (kd _ (by first | exact Fr.refl _ _ | exact Fr.drew _ _)).mono ?_; rintro e w1 ⟨rfl, f1⟩; have d0 := f1.cellN c0; have d1 := f1.cellN c1; have z2 := frozen_of_row (f1.heap (show V.heap[G]? = _ from hb0H) (fun f => f)) 1))
  all_goals
    have hU0 : (w1.setCell ⟨G, 1, none⟩ (ct N3)).heap[G]? = some (.cells #[ct x, ct N3, ci (m : Int)] 77 (0, 0)) := heap_setCell_same w1 G 1 _ _ _ (f1.heap (show V.heap[G]? = _ from hb0H) (fun f => f))
    have hU1 : (w1.setCell ⟨G, 1, none⟩ (ct N3)).heap[G + 1]? = some (.cells #[ct [], ct [], ci 0] 77 (0, 0)) := (Fr.setCell w1 ⟨G, 1, none⟩ _).heap (f1.heap (show V.heap[G + 1]? = _ from hb1H) (fun f => f)) (by show ¬ G + 1 = G; omega)
    have hUf : Hidden (Fr (fun k => k = G) V (w1.setCell ⟨G, 1, none⟩ (ct N3))) := ((Fr.drew (fun k => k = G) V).same (f1.mono (fun _ _ f => f.elim))).same (Fr.setCell w1 ⟨G, 1, none⟩ _)
    generalize w1.setCell ⟨G, 1, none⟩ (ct N3) = U at hU0 hU1 hUf ⊢
    obtain ⟨e0, e1, e2⟩ := box3 hU0
    obtain ⟨g0, g1, g2⟩ := box3 hU1
    have y2 := frozen_of_row hU0 2
    have x0 := frozen_of_row hU1 0
    have x1 := frozen_of_row hU1 1
    have x2 := frozen_of_row hU1 2
    have hU1H : Hidden (U.heap[G + 1]? = some (.cells #[ct [], ct [], ci 0] 77 (0, 0))) := hU1
    clear hb0 hb1 hU0 hU1 c0 c1 c2 z1 d0 d1 z2 hc1 hc2 hc3
    go_wp2_with fail
    refine post_one rfl rfl _ #[ct x, ct N3, ci ((m : Int) + 1)] 77 _ rfl ?_ Tryz.underlying77 rfl (by kernel_rfl) ⟨rfl, ?_⟩
    · exact three_put ((Fr.setCell U ⟨G, 2, none⟩ _).heap (show U.heap[G + 1]? = _ from hU1H) (by show ¬ G + 1 = G; omega)) _ _ _
    · have hle : w.heap.size = G := hGH
      exact ((Fr.over (show Fr (fun _ => False) w V from hfV) (show Fr (fun k => k = G) V U from hUf) (fun k e => by omega)).over (Fr.setCell U ⟨G, 2, none⟩ _) (fun k e => by have e : k = G := e; omega)).over (three_fr _ (G + 1) _ _ _) (fun k e => by omega)
set_option maxRecDepth 20000 in
set_option maxHeartbeats 2000000 in
theorem closing_any (x y a b : Bs) (m : Nat) (hy : y = a ++ b ++ [10]) (ha : a = [] ∨ ∃ r, a = r ++ [10]) (hb : ∀ c ∈ b, c ≠ 10) (hx : x.length ≤ 1000) (hyl : y.length ≤ 1000000) (hm : m ≤ 1000) (w : World) :
    Calls Tryz.prog 64 #[.agg #[ct x, ct y, ci (m : Int)]] w fun e w' => e = .returned (.agg #[ct x, ct a, ci ((m : Int) - 1)]) ∧ Fr (fun _ => False) w w' := by
  have kt := fun W => Tryz.strings_TrimSuffix ⟨y.toArray⟩ ⟨#[10]⟩ W (by simp [ByteArray.size]; omega)
  have kl := fun W => Tryz.strings_LastIndex_one ⟨(a ++ b).toArray⟩ ⟨#[10]⟩ rfl (by have : (a ++ b).length ≤ y.length := by rw [hy]; simp
                                                                                    simp [ByteArray.size] at this ⊢; omega) W
  have et : Lib.trimSuffix (⟨y.toArray⟩ : ByteArray).data.toList (⟨#[10]⟩ : ByteArray).data.toList = a ++ b := by rw [hy]; exact trim_10 (a ++ b)
  have el : Lib.lastIndexByte ⟨(a ++ b).toArray⟩ (((⟨#[10]⟩ : ByteArray)[0]'(by decide)).toNat : Int) = (a.length : Int) - 1 := by
    have := last_10 a b ha hb
    have e : (((⟨#[10]⟩ : ByteArray)[0]'(by decide)).toNat : Int) = 10 := rfl
    rw [e]
    omega
  rw [et] at kt
  rw [el] at kl
  have hal : a.length ≤ (a ++ b).length := by simp
  have habl : (a ++ b).length ≤ 1000000 := by have : (a ++ b).length ≤ y.length := by rw [hy]; simp
                                              omega
  have hsl := fun W : World => slice_head (a ++ b) a.length hal (by omega) W
  rw [List.take_left] at hsl
  obtain ⟨A, hA⟩ : ∃ A, A = a.length := ⟨_, rfl⟩
  rw [← hA] at hsl kl
  have hw1 : wrap64 (A : Int) = (A : Int) := by unfold wrap64; omega
  have hw2 : IntKind.i64.wrap ((m : Int) - 1) = (m : Int) - 1 := by rw [IntKind.wrap_i64]; omega
  generalize a ++ b = ab at *
  clear hA hal habl et el hy ha hb
  go_enter Tryz.func64, Tryz.ntmps64
  go_wp2_with (first
    | (go_at_call 77; refine (kt _).mono ?_; rintro e w1 ⟨rfl, rfl⟩)
    | (go_at_call 78; refine (kl _).mono ?_; rintro e w2 ⟨rfl, rfl⟩))
  refine post_one rfl rfl _ #[ct x, ct a, ci ((m : Int) - 1)] 77 _ rfl ?_ Tryz.underlying77 rfl (by kernel_rfl) ⟨rfl, (Fr.alloc _ _ _).same (Fr.alloc _ _ _)⟩
  exact alloc_at _ _ _ (by simp)
end Go.Proofs.YtnmcehpdiopaiaaGreatDoor.Cd

namespace Go.Proofs.YtnmcehpdiopaiaaGreatDoor.Cd
open Go.RowKit Ty
set_option linter.unusedSimpArgs false
set_option linter.unusedVariables false

/-- What ways answers of a try. -/
def wyT (k n : Nat) (hs : Bool) (N : Int) (s : Sp) : Int × List (Int × Sp) :=
  if hs = false ∨ k + 1 = n then (51, [])
  else if s.tr.length = 32 ∨ s.st.length = 512 then (3, [])
  else (0, [((k : Int) + 1, ⟨s.st, s.tr ++ [(N, s.st)]⟩), (N, ⟨s.st ++ [1], s.tr⟩)])
set_option maxRecDepth 20000 in
set_option maxHeartbeats 8000000 in
theorem ways_t (q gs ga n k b3 o3 c3 : Nat) (v0 v1 v2 v4 v5 : Value) (L : Cs) (s : Sp) (g : Bool) (N t b by' lo' hi' ta pu : Int) (nm : Bs) (hs : Bool) (w : World)
    (h : Wk w q gs ga n v0 v1 v2 (.slice (some ⟨b3, o3, none⟩) n c3) v4 v5 L) (hk : L[k]? = some (some (g, s))) (hn : n ≤ 1000000) (hc3 : n ≤ c3) (hc3m : c3 ≤ 9223372036854775807)
    (i0 : w.cell? ⟨b3, o3 + k * 4, none⟩ = some (ci 15)) (i1 : w.cell? ⟨b3, o3 + k * 4 + 1, none⟩ = some (ci N)) (i2 : w.cell? ⟨b3, o3 + k * 4 + 2, none⟩ = some (ci t)) (i3 : w.cell? ⟨b3, o3 + k * 4 + 3, none⟩ = some (.int .u64 b))
    (hm : s.tr.length ≤ 32) (hsl : s.st.length ≤ 512) (hN : D.I64 N) (htl : (encTr s.tr).length ≤ 1000000) (ht : F.Tab w)
    (kr : ∀ W, Calls Tryz.prog 31 #[ci 15] W fun e w' => e = .returned (.tuple #[.agg #[ct nm, ci by', ci lo', ci hi', ci 4, ci ta, ci pu, ci 1, .bool false], .bool true]) ∧ Fr (fun _ => False) W w')
    (kh : ∀ W, Fr (fun _ => False) w W → Calls Tryz.prog 59 #[.pointer (some ⟨q, 0, none⟩), .agg #[ci 15, ci N, ci t, .int .u64 b], ci 4] W fun e w' => e = .returned (.bool hs) ∧ Fr (fun _ => False) W w')
    (ks : hs = true → ∀ W, Fr (fun _ => False) w W → Calls Tryz.prog 60 #[.pointer (some ⟨q, 0, none⟩), .agg #[ci 15, ci N, ci t, .int .u64 b], .agg #[ct nm, ci by', ci lo', ci hi', ci 4, ci ta, ci pu, ci 1, .bool false], ct (encSt s.st)] W fun e w' => e = .returned (.tuple #[ct (encSt s.st), .bool true]) ∧ Fr (fun _ => False) W w') :
    Calls Tryz.prog 38 #[.pointer (some ⟨q, 0, none⟩), ci (k : Int)] w fun e w' => ∃ v, e = .returned (.tuple #[v, ci (wyT k n hs N s).1]) ∧ Fr (fun _ => False) w w' ∧ Wy w' w.heap.size v (wyT k n hs N s).2 := by
  have hkn : k < n := by rw [← h.len]; exact (List.getElem?_eq_some_iff.1 hk).1
  obtain ⟨_, _, _, d3, _, _, d6, d7⟩ := box8 h.box
  obtain ⟨a0, a1, a2⟩ := ah_at h.ah hk
  simp only [shO] at a0 a1 a2
  obtain ⟨x, hx⟩ : ∃ x, x = encSt s.st := ⟨_, rfl⟩
  obtain ⟨y, hy⟩ : ∃ y, y = encTr s.tr := ⟨_, rfl⟩
  obtain ⟨m, hmm⟩ : ∃ m, m = s.tr.length := ⟨_, rfl⟩
  rw [← hx] at a0 ks
  rw [← hy] at a1
  rw [← hmm] at a2 hm
  have hxH : Hidden (x = encSt s.st) := hx
  have hyH : Hidden (y = encTr s.tr) := hy
  have hmH : Hidden (m = s.tr.length) := hmm
  have hkz : (k : Int) < (n : Int) := by omega
  have q3 := World.new_ne w _ d3
  have q7 := World.new_ne w _ d7
  have p0 := World.new_ne w _ i0
  have p1 := World.new_ne w _ a0
  clear h hk hx hy hmm d6
  go_enter Tryz.func38, Tryz.ntmps38
  go_upto_region 1 with fail
  go_cut [6, 7] (fun p6 p7 wx => ∃ g6 g7, p6 = .pointer (some ⟨g6, 0, none⟩) ∧ p7 = .pointer (some ⟨g7, 0, none⟩) ∧ wx.heap[g6]? = some (.cells #[ci 15, ci N, ci t, .int .u64 b] 64 (0, 0)) ∧ wx.heap[g7]? = some (.cells #[ct x, ct y, ci (m : Int)] 77 (0, 0)) ∧ Fr (fun _ => False) w wx)
  case first =>
    go_region_held3 (fun w' => w'.cell? ⟨q, 3, none⟩ = some (.slice (some ⟨b3, o3, none⟩) n c3) ∧ w'.cell? ⟨q, 7, none⟩ = some (.slice (some ⟨ga, 0, none⟩) n n) ∧ w'.cell? ⟨b3, o3 + k * 4, none⟩ = some (ci 15) ∧ w'.cell? ⟨b3, o3 + k * 4 + 1, none⟩ = some (ci N) ∧ w'.cell? ⟨b3, o3 + k * 4 + 2, none⟩ = some (ci t) ∧ w'.cell? ⟨b3, o3 + k * 4 + 3, none⟩ = some (.int .u64 b) ∧ w'.cell? ⟨ga, k * 3, none⟩ = some (ct x) ∧ w'.cell? ⟨ga, k * 3 + 1, none⟩ = some (ct y) ∧ w'.cell? ⟨ga, k * 3 + 2, none⟩ = some (ci (m : Int))) (first | (refine ⟨by with_reducible assumption, by with_reducible assumption, by with_reducible assumption, by with_reducible assumption, by with_reducible assumption, by with_reducible assumption, by with_reducible assumption, by with_reducible assumption, by with_reducible assumption⟩) | go_keep) (fail)
    · go_wp2_with fail
      go_meet
      exact ⟨_, _, rfl, rfl, (Fr.drew (fun _ => False) _).heap (heap_alloc2_old _ _ _) (fun f => f), (Fr.drew (fun _ => False) _).heap (heap_alloc2_new _ _ _) (fun f => f), ((Fr.alloc _ _ _).same (Fr.alloc _ _ _)).same (Fr.drew _ _)⟩
    · go_wp2_with fail
      go_meet
      exact ⟨_, _, rfl, rfl, (Fr.drew (fun _ => False) _).heap (heap_alloc2_new _ _ _) (fun f => f), (Fr.drew (fun _ => False) _).heap (heap_alloc2_old _ _ _) (fun f => f), ((Fr.alloc _ _ _).same (Fr.alloc _ _ _)).same (Fr.drew _ _)⟩
  case rest =>
    obtain ⟨g6, g7, rfl, rfl, h6, h7, fc⟩ := hcut
    obtain ⟨r0, r1, r2, r3⟩ := box4 h6
    obtain ⟨t0, t1, t2⟩ := box3 h7
    have h6H : Hidden (wc.heap[g6]? = some (.cells #[ci 15, ci N, ci t, .int .u64 b] 64 (0, 0))) := h6
    have h7H : Hidden (wc.heap[g7]? = some (.cells #[ct x, ct y, ci (m : Int)] 77 (0, 0))) := h7
    have fcH : Hidden (Fr (fun _ => False) w wc) := fc
    have e3 := fc.cellN d3
    clear h6 h7 q3 q7 p0 p1 a0 a1 a2 i0 i1 i2 i3 d3 d7
    go_upto_region 3 with (first
      | (go_at_call 31; refine (kr _).mono ?_; rintro e w1 ⟨rfl, f1⟩))
    obtain ⟨V, hV⟩ : ∃ V, V = w1.alloc (.cells #[ct nm, ci by', ci lo', ci hi', ci 4, ci ta, ci pu, ci 1, .bool false] 92 (0, 0)) := ⟨_, rfl⟩
    have fV : Fr (fun _ => False) wc V := by rw [hV]; exact f1.same (Fr.alloc _ _ _)
    have hrow : V.heap[w1.heap.size]? = some (.cells #[ct nm, ci by', ci lo', ci hi', ci 4, ci ta, ci pu, ci 1, .bool false] 92 (0, 0)) := by rw [hV]; exact alloc_new _ _
    obtain ⟨s0, s1, s2, s3, s4, s5, s6, s7, s8⟩ := box9 hrow
    have hrowH : Hidden (V.heap[w1.heap.size]? = some (.cells #[ct nm, ci by', ci lo', ci hi', ci 4, ci ta, ci pu, ci 1, .bool false] 92 (0, 0))) := hrow
    replace r0 := fV.cellN r0
    replace r1 := fV.cellN r1
    replace r2 := fV.cellN r2
    replace r3 := fV.cellN r3
    replace t0 := fV.cellN t0
    replace t1 := fV.cellN t1
    replace t2 := fV.cellN t2
    replace e3 := fV.cellN e3
    have h6V : Hidden (V.heap[g6]? = some (.cells #[ci 15, ci N, ci t, .int .u64 b] 64 (0, 0))) := fV.heap h6H (fun f => f)
    have h7V : Hidden (V.heap[g7]? = some (.cells #[ct x, ct y, ci (m : Int)] 77 (0, 0))) := fV.heap h7H (fun f => f)
    have fwV : Hidden (Fr (fun _ => False) w V) := (show Fr (fun _ => False) w wc from fcH).same fV
    generalize w1.heap.size = g8 at *
    rw [← hV]
    clear hV fV hrow h6H h7H fcH f1 kr
    have khV : ∀ W, Fr (fun _ => False) V W → Calls Tryz.prog 59 #[.pointer (some ⟨q, 0, none⟩), .agg #[ci 15, ci N, ci t, .int .u64 b], ci 4] W fun e w' => e = .returned (.bool hs) ∧ Fr (fun _ => False) W w' := fun W hW => kh W ((show Fr (fun _ => False) w V from fwV).same hW)
    clear kh
    have hw2 : IntKind.i64.wrap ((m : Int) + 1) = (m : Int) + 1 := by rw [IntKind.wrap_i64]; omega
    have hm2 : decide ((m : Int) + 1 < 0) = false := by simp; omega
    go_cut [70] (fun c wx => c = .bool (!hs || decide (k + 1 = n)) ∧ Fr (fun _ => False) V wx)
    case first =>
      refine wp_region_grow (by kernel_rfl) (by kernel_rfl) ?_
      have hw1 : IntKind.i64.wrap ((k : Int) + 1) = (k : Int) + 1 := by rw [IntKind.wrap_i64]; omega
      by_cases hl : k + 1 = n
      · have hkn2 : ((k : Int) + 1 == (n : Int)) = true := by simp; omega
        have hlH : Hidden (k + 1 = n) := hl
        clear hl
        cases hs
        all_goals
          (repeat (first | (refine grow_op (v := ?_) ?_ ?_ ?_; rotate_left; (focus (first | exact wanted_none rfl | (go_simp; done))); (focus (intro w' hw'; have r0 := hw'.cellN r0; have r1 := hw'.cellN r1; have r2 := hw'.cellN r2; have r3 := hw'.cellN r3; have t2 := hw'.cellN t2; have s4 := hw'.cellN s4; have s7 := hw'.cellN s7; have s8 := hw'.cellN s8; have e3 := hw'.cellN e3; (go_simp; first | with_reducible rfl | (go_at_call 59; refine calls_grow hw' ?_; first | (have q := khV w' hw'; with_reducible exact q))))); (intro a' ha; simp only [Act.put, List.setIfInBounds_toArray, List.set_cons_zero, List.set_cons_succ] at ha; subst ha)) | (refine grow_no ?_ ?_; (focus (first | (go_simp; done) | rfl)); (intro a' ha; simp only [Act.put, List.setIfInBounds_toArray, List.set_cons_zero, List.set_cons_succ] at ha; subst ha)))); refine grow_nil ?_; intro w2 k2
          go_wp2_with fail
          go_meet
          exact ⟨congrArg Value.bool (by rw [decide_eq_true (show k + 1 = n from hlH)]; rfl), k2⟩
      · have hkn2 : ((k : Int) + 1 == (n : Int)) = false := by rw [beq_eq_false_iff_ne]; omega
        have hlH : Hidden (¬ k + 1 = n) := hl
        clear hl
        cases hs
        all_goals
          (repeat (first | (refine grow_op (v := ?_) ?_ ?_ ?_; rotate_left; (focus (first | exact wanted_none rfl | (go_simp; done))); (focus (intro w' hw'; have r0 := hw'.cellN r0; have r1 := hw'.cellN r1; have r2 := hw'.cellN r2; have r3 := hw'.cellN r3; have t2 := hw'.cellN t2; have s4 := hw'.cellN s4; have s7 := hw'.cellN s7; have s8 := hw'.cellN s8; have e3 := hw'.cellN e3; (go_simp; first | with_reducible rfl | (go_at_call 59; refine calls_grow hw' ?_; first | (have q := khV w' hw'; with_reducible exact q))))); (intro a' ha; simp only [Act.put, List.setIfInBounds_toArray, List.set_cons_zero, List.set_cons_succ] at ha; subst ha)) | (refine grow_no ?_ ?_; (focus (first | (go_simp; done) | rfl)); (intro a' ha; simp only [Act.put, List.setIfInBounds_toArray, List.set_cons_zero, List.set_cons_succ] at ha; subst ha)))); refine grow_nil ?_; intro w2 k2
          go_wp2_with fail
          go_meet
          exact ⟨congrArg Value.bool (by rw [decide_eq_false (show ¬ k + 1 = n from hlH)]; rfl), k2⟩
    case rest =>
      obtain ⟨rfl, fc⟩ := hcut
      by_cases hbad : hs = false ∨ k + 1 = n
      · have eb : (!hs || decide (k + 1 = n)) = true := by
          rcases hbad with e | e2
          · rw [e]; rfl
          · rw [decide_eq_true e2]; simp
        have er : wyT k n hs N s = (51, []) := by
          unfold wyT
          rw [if_pos hbad]
        rw [eb]
        have erH : Hidden (wyT k n hs N s = (51, [])) := er
        clear er eb hbad
        go_wp2_with fail
        go_ret2
        exact ⟨_, (by rw [show wyT k n hs N s = _ from erH]; rfl), (show Fr (fun _ => False) w V from fwV).same fc, by rw [show wyT k n hs N s = _ from erH]; exact Wy.nil _ _⟩
      · have hs1 : hs = true := by cases hs; exact absurd (Or.inl rfl) hbad; rfl
        subst hs1
        have eb : (!true || decide (k + 1 = n)) = false := by
          simp; intro e; exact hbad (Or.inr e)
        have ew : Hidden (wyT k n true N s = if s.tr.length = 32 ∨ s.st.length = 512 then (3, []) else (0, [((k : Int) + 1, ⟨s.st, s.tr ++ [(N, s.st)]⟩), (N, ⟨s.st ++ [1], s.tr⟩)])) := by
          show _ = _
          unfold wyT
          rw [if_neg hbad]
        rw [eb]
        have ksV : ∀ W, Fr (fun _ => False) V W → Calls Tryz.prog 60 #[.pointer (some ⟨q, 0, none⟩), .agg #[ci 15, ci N, ci t, .int .u64 b], .agg #[ct nm, ci by', ci lo', ci hi', ci 4, ci ta, ci pu, ci 1, .bool false], ct x] W fun e w' => e = .returned (.tuple #[ct x, .bool true]) ∧ Fr (fun _ => False) W w' := fun W hW => ks rfl W ((show Fr (fun _ => False) w V from fwV).same hW)
        have gwr : ∃ R, R = wyT k n true N s := ⟨_, rfl⟩
        obtain ⟨R, hR⟩ := gwr
        rw [← hR] at ew
        have hRH : Hidden (R = wyT k n true N s) := hR
        clear ks khV eb hbad hR
        replace r0 := fc.cellN r0
        replace r1 := fc.cellN r1
        replace r2 := fc.cellN r2
        replace r3 := fc.cellN r3
        replace t0 := fc.cellN t0
        replace t1 := fc.cellN t1
        replace t2 := fc.cellN t2
        replace s0 := fc.cellN s0
        replace s1 := fc.cellN s1
        replace s2 := fc.cellN s2
        replace s3 := fc.cellN s3
        replace s4 := fc.cellN s4
        replace s5 := fc.cellN s5
        replace s6 := fc.cellN s6
        replace s7 := fc.cellN s7
        replace s8 := fc.cellN s8
        have fcH : Hidden (Fr (fun _ => False) V wc) := fc
        have ksC : ∀ W, Fr (fun _ => False) wc W → Calls Tryz.prog 60 #[.pointer (some ⟨q, 0, none⟩), .agg #[ci 15, ci N, ci t, .int .u64 b], .agg #[ct nm, ci by', ci lo', ci hi', ci 4, ci ta, ci pu, ci 1, .bool false], ct x] W fun e w' => e = .returned (.tuple #[ct x, .bool true]) ∧ Fr (fun _ => False) W w' := fun W hW => ksV W (fc.same hW)
        clear ksV fc e3
        go_upto_region 5 with fail
        refine wp_region_grow (by kernel_rfl) (by kernel_rfl) ?_
        (repeat (first | (refine grow_op (v := ?_) ?_ ?_ ?_; rotate_left; (focus (first | exact wanted_none rfl | (go_simp; done))); (focus (intro w' hw'; have r0 := hw'.cellN r0; have r1 := hw'.cellN r1; have r2 := hw'.cellN r2; have r3 := hw'.cellN r3; have t0 := hw'.cellN t0; have s0 := hw'.cellN s0; have s1 := hw'.cellN s1; have s2 := hw'.cellN s2; have s3 := hw'.cellN s3; have s4 := hw'.cellN s4; have s5 := hw'.cellN s5; have s6 := hw'.cellN s6; have s7 := hw'.cellN s7; have s8 := hw'.cellN s8; (go_simp; first | with_reducible rfl | (go_at_call 60; refine calls_grow hw' ?_; first | (have q := ksC w' hw'; with_reducible exact q))))); (intro a' ha; simp only [Act.put, List.setIfInBounds_toArray, List.set_cons_zero, List.set_cons_succ] at ha; subst ha)) | (refine grow_no ?_ ?_; (focus (first | (go_simp; done) | rfl)); (intro a' ha; simp only [Act.put, List.setIfInBounds_toArray, List.set_cons_zero, List.set_cons_succ] at ha; subst ha)))); refine grow_nil ?_; intro w3 k3
        have hstl := str_len x
        have hxlH : Hidden (x.length = s.st.length) := by show _ = _; rw [show x = encSt s.st from hxH]; simp [encSt]
        have fw3 : Hidden (Fr (fun _ => False) w w3) := ((show Fr (fun _ => False) w V from fwV).same fcH).same k3
        replace t2 := k3.cellN t2
        replace t0 := k3.cellN t0
        replace t1 := k3.cellN t1
        replace s7 := k3.cellN s7
        replace s8 := k3.cellN s8
        replace s4 := k3.cellN s4
        replace r0 := k3.cellN r0
        replace r1 := k3.cellN r1
        have hxl5 : x.length ≤ 512 := by rw [show x.length = s.st.length from hxlH]; exact hsl
        have hb5 : decide (512 < (x.length : Int)) = false := by simp; omega
        have ewT : R = if m = 32 ∨ x.length = 512 then (3, []) else (0, [((k : Int) + 1, ⟨s.st, s.tr ++ [(N, s.st)]⟩), (N, ⟨s.st ++ [1], s.tr⟩)]) := by have := (show R = _ from ew); rw [show x.length = s.st.length from hxlH, show m = s.tr.length from hmH]; exact this
        by_cases hbig : m = 32 ∨ x.length = 512
        · have er : Hidden (R = (3, [])) := by rw [if_pos hbig] at ewT; exact ewT
          clear ewT
          by_cases hm3 : m = 32
          · subst hm3
            go_wp2_with fail
            go_ret2
            rw [← (show R = _ from hRH), show R = (3, []) from er]
            exact ⟨_, rfl, fw3, Wy.nil _ _⟩
          · have hm32 : decide (32 < (m : Int) + 1) = false := by simp; omega
            have hx5 : ((x.length : Int) == 512) = true := by have := hbig.resolve_left hm3; simp; omega
            have hx6 : (x.length == 512) = true := by have := hbig.resolve_left hm3; simp; omega
            have hx7 : decide (x.length = 512) = true := by have := hbig.resolve_left hm3; simp; omega
            have hx8 : ((x.length : Int) = 512) = True := by have := hbig.resolve_left hm3; simp; omega
            clear hbig hm3
            go_wp2_with fail
            go_ret2
            rw [← (show R = _ from hRH), show R = (3, []) from er]
            exact ⟨_, rfl, fw3, Wy.nil _ _⟩
        · have hm32 : decide (32 < (m : Int) + 1) = false := by simp; omega
          have hx5 : ((x.length : Int) == 512) = false := by simp; omega
          have hx6 : (x.length == 512) = false := by simp; omega
          have hx7 : decide (x.length = 512) = false := by simp; omega
          have hx8 : ((x.length : Int) = 512) = False := by simp; omega
          have er : Hidden (R = (0, [((k : Int) + 1, ⟨s.st, s.tr ++ [(N, s.st)]⟩), (N, ⟨s.st ++ [1], s.tr⟩)])) := by rw [if_neg hbig] at ewT; exact ewT
          have kw := fun W => with_any x y x (m : Int) W
          have htw : Hidden (F.Tab w) := ht
          clear ewT hbig ht
          go_upto_region 11 with (first
            | (go_at_call 61; refine (kw _).mono ?_; rintro e w4 ⟨rfl, f4⟩))
          obtain ⟨V4, hV4⟩ : ∃ V, V = w4.alloc (.cells #[ct x, ct y, ci (m : Int)] 77 (0, 0)) := ⟨_, rfl⟩
          have f5 : Fr (fun _ => False) w3 V4 := by rw [hV4]; exact f4.same (Fr.alloc _ _ _)
          have h12 : V4.heap[w4.heap.size]? = some (.cells #[ct x, ct y, ci (m : Int)] 77 (0, 0)) := by rw [hV4]; exact alloc_new _ _
          obtain ⟨j0, j1, j2⟩ := box3 h12
          have hlt12 := lt_of_heap h12
          generalize w4.heap.size = g12 at *
          rw [← hV4]
          replace r0 := f5.cellN r0
          replace r1 := f5.cellN r1
          replace s4 := f5.cellN s4
          replace s8 := f5.cellN s8
          have fw5 : Hidden (Fr (fun _ => False) w V4) := (show Fr (fun _ => False) w w3 from fw3).same f5
          have x0 := World.new_ne V4 _ j0
          clear hV4 f5 h12 f4 kw fw3 t0 t1 t2 s7
          go_cut [13, 14] (fun p13 p14 wx => ∃ g13 g14, p13 = .pointer (some ⟨g13, 0, none⟩) ∧ p14 = .pointer (some ⟨g14, 0, none⟩) ∧ wx.heap[g13]? = some (.cells #[ct x, ct y, ci (m : Int)] 77 (0, 0)) ∧ wx.heap[g14]? = some (.cells #[ct x, ct y, ci (m : Int)] 77 (0, 0)) ∧ Fr (fun _ => False) V4 wx ∧ g13 ≠ g14 ∧ V4.heap.size ≤ g13 ∧ V4.heap.size ≤ g14)
          case first =>
            go_region_held3 (fun w' => w'.cell? ⟨g12, 0, none⟩ = some (ct x) ∧ w'.cell? ⟨g12, 1, none⟩ = some (ct y) ∧ w'.cell? ⟨g12, 2, none⟩ = some (ci (m : Int))) (first | (refine ⟨by with_reducible assumption, by with_reducible assumption, by with_reducible assumption⟩) | go_keep) (fail)
            · go_wp2_with fail
              go_meet
              exact ⟨_, _, rfl, rfl, (Fr.drew (fun _ => False) _).heap (heap_alloc2_old _ _ _) (fun f => f), (Fr.drew (fun _ => False) _).heap (heap_alloc2_new _ _ _) (fun f => f), ((Fr.alloc _ _ _).same (Fr.alloc _ _ _)).same (Fr.drew _ _), by omega, by omega, by omega⟩
            · go_wp2_with fail
              go_meet
              exact ⟨_, _, rfl, rfl, (Fr.drew (fun _ => False) _).heap (heap_alloc2_new _ _ _) (fun f => f), (Fr.drew (fun _ => False) _).heap (heap_alloc2_old _ _ _) (fun f => f), ((Fr.alloc _ _ _).same (Fr.alloc _ _ _)).same (Fr.drew _ _), by omega, by omega, by omega⟩
          case rest =>
            obtain ⟨g13, g14, rfl, rfl, h13, h14, fd, hne, hg13, hg14⟩ := hcut
            have fwd : Hidden (Fr (fun _ => False) w wc) := (show Fr (fun _ => False) w V4 from fw5).same fd
            have hszH : Hidden (w.heap.size ≤ V4.heap.size) := (show Fr (fun _ => False) w V4 from fw5).size
            have n13 : g12 ≠ g13 := by omega
            have n6a : g6 ≠ g13 := by have h1 := World.block_lt_of_cell? V4 _ r1; simp only [] at h1; omega
            have n6b : g6 ≠ g14 := by have h1 := World.block_lt_of_cell? V4 _ r1; simp only [] at h1; omega
            have n8a : g8 ≠ g13 := by have h1 := World.block_lt_of_cell? V4 _ s4; simp only [] at h1; omega
            have n8b : g8 ≠ g14 := by have h1 := World.block_lt_of_cell? V4 _ s4; simp only [] at h1; omega
            have n34 : g14 ≠ g13 := fun e => hne e.symm
            have n14 : g12 ≠ g14 := by omega
            have h6c : Hidden (g6 ≠ g13 ∧ g6 ≠ g14) := by
              have h1 := World.block_lt_of_cell? V4 _ r1
              simp only [] at h1
              exact ⟨by omega, by omega⟩
            have h8c : Hidden (g8 ≠ g13 ∧ g8 ≠ g14) := by
              have h1 := World.block_lt_of_cell? V4 _ s4
              simp only [] at h1
              exact ⟨by omega, by omega⟩
            replace r0 := fd.cellN r0
            replace r1 := fd.cellN r1
            replace s4 := fd.cellN s4
            replace s8 := fd.cellN s8
            replace j0 := fd.cellN j0
            replace j1 := fd.cellN j1
            replace j2 := fd.cellN j2
            have hlen13 : Hidden (V4.heap.size ≤ g13 ∧ V4.heap.size ≤ g14) := ⟨hg13, hg14⟩
            have kop : ∀ W, Fr (fun _ => False) wc W → _ := fun W f => opening_any x y m N hN (by omega) (by rw [show y = encTr s.tr from hyH]; exact htl) (by omega) W (tab_fr htw ((show Fr (fun _ => False) w wc from fwd).same f))
            have ksi := fun W => single_any 1 (Or.inr (by decide)) W
            have e1 : encSt (oneS 1) = [1] := by decide
            rw [e1] at ksi
            obtain ⟨Y, hY⟩ : ∃ Y, Y = y ++ (Lib.itoa N ++ x ++ [10]) := ⟨_, rfl⟩
            rw [← hY] at kop
            have hYH : Hidden (Y = y ++ (Lib.itoa N ++ x ++ [10])) := hY
            have hcc := fun W : World => run_string_add_lists (P := Tryz.prog) W x [1] (by omega) (by simp)
            obtain ⟨X, hX⟩ : ∃ X, X = x ++ [1] := ⟨_, rfl⟩
            rw [← hX] at hcc
            have hXH : Hidden (X = x ++ [1]) := hX
            have kwi : ∀ W, _ := fun W => with_any x y X (m : Int) W
            have h13H : Hidden (wc.heap[g13]? = some (.cells #[ct x, ct y, ci (m : Int)] 77 (0, 0))) := h13
            have h14H : Hidden (wc.heap[g14]? = some (.cells #[ct x, ct y, ci (m : Int)] 77 (0, 0))) := h14
            have y0 := frozen_of_row h13 0
            have y1 := frozen_of_row h13 1
            have y2 := frozen_of_row h13 2
            have z0 := frozen_of_row h14 0
            have z1 := frozen_of_row h14 1
            have z2 := frozen_of_row h14 2
            have hneH : Hidden (g13 ≠ g14) := hne
            clear h13 h14 hY hX e1 fd hg13 hg14 hlt12 x0
            go_upto_region 14 with fail
            go_region_held3 (fun w' => w'.cell? ⟨g12, 0, none⟩ = some (ct x) ∧ w'.cell? ⟨g12, 1, none⟩ = some (ct y) ∧ w'.cell? ⟨g12, 2, none⟩ = some (ci (m : Int)) ∧ w'.cell? ⟨g6, 1, none⟩ = some (ci N)) (first | (refine ⟨by with_reducible assumption, by with_reducible assumption, by with_reducible assumption, by with_reducible assumption⟩) | (refine ⟨?_, ?_, ?_, ?_⟩ <;> (repeat (first | (with_reducible assumption) | (refine cell_other ?_ (by assumption)) | (refine (Fr.drew (fun _ => False) _).cellN ?_)))) | go_keep) (first
              | (go_at_call 62; (go_split_ands); refine (kop _ (by first | exact Fr.refl _ _ | exact Fr.drew _ _)).mono ?_; rintro e wa ⟨rfl, fa⟩; have ga : Fr (fun _ => False) wc wa := (by first | exact fa | exact (Fr.drew _ _).same fa); have p0 := ga.cellN j0; have p1 := ga.cellN j1; have p2 := ga.cellN j2; have p3 := ga.cellN r1)
              | (go_at_call 63; (go_split_ands); refine (ksi _).mono ?_; rintro e wb ⟨rfl, fb⟩; have gb : Fr (fun _ => False) wc wb := ga.same fb; have q0 := gb.cellN j0; have q1 := gb.cellN j1; have q2 := gb.cellN j2; have q3 := gb.cellN r1)
              | (go_at_call 61; (go_split_ands); refine (kwi _).mono ?_; rintro e wd ⟨rfl, fd⟩; have gd : Fr (fun _ => False) wc wd := gb.same fd; have l0 := gd.cellN j0; have l1 := gd.cellN j1; have l2 := gd.cellN j2; have l3 := gd.cellN r1; have hd13 := gd.heap (show wc.heap[g13]? = _ from h13H) (fun f => f); have hd14 := gd.heap (show wc.heap[g14]? = _ from h14H) (fun f => f); obtain ⟨a0, a1, a2⟩ := box3 hd13; obtain ⟨b0, b1, b2⟩ := box3 hd14; have ya0 := frozen_of_row hd13 0; have ya1 := frozen_of_row hd13 1; have ya2 := frozen_of_row hd13 2; have yb0 := frozen_of_row hd14 0; have yb1 := frozen_of_row hd14 1; have yb2 := frozen_of_row hd14 2))
            all_goals trace_state
            all_goals
              obtain ⟨U, hU⟩ : ∃ U, U = ((((((wd.setCell ⟨g13, 0, none⟩ (ct x)).setCell ⟨g13, 1, none⟩ (ct Y)).setCell ⟨g13, 2, none⟩ (ci ((m : Int) + 1))).setCell ⟨g14, 0, none⟩ (ct X)).setCell ⟨g14, 1, none⟩ (ct y)).setCell ⟨g14, 2, none⟩ (ci (m : Int))) := ⟨_, rfl⟩
              have hU13 : U.heap[g13]? = some (.cells #[ct x, ct Y, ci ((m : Int) + 1)] 77 (0, 0)) := by rw [hU]; exact (three_fr _ g14 _ _ _).heap (three_put (gd.heap (show wc.heap[g13]? = _ from h13H) (fun f => f)) _ _ _) (show ¬ g13 = g14 from hneH)
              have hU14 : U.heap[g14]? = some (.cells #[ct X, ct y, ci (m : Int)] 77 (0, 0)) := by rw [hU]; exact three_put ((three_fr _ g13 _ _ _).heap (gd.heap (show wc.heap[g14]? = _ from h14H) (fun f => f)) (fun e => hneH e.symm)) _ _ _
              have hUf : Fr (fun k => k = g13 ∨ k = g14) wc U := by rw [hU]; exact ((gd.mono (fun _ _ f => f.elim)).same ((three_fr _ g13 _ _ _).mono (fun _ _ e => Or.inl e))).same ((three_fr _ g14 _ _ _).mono (fun _ _ e => Or.inr e))
              rw [← hU]
              clear hU
              have r0 := hUf.cell r0 (show ¬ (g6 = g13 ∨ g6 = g14) by omega)
              have r1 := hUf.cell r1 (show ¬ (g6 = g13 ∨ g6 = g14) by omega)
              have s4 := hUf.cell s4 (show ¬ (g8 = g13 ∨ g8 = g14) by omega)
              have s8 := hUf.cell s8 (show ¬ (g8 = g13 ∨ g8 = g14) by omega)
              obtain ⟨m0, m1, m2⟩ := box3 hU13
              obtain ⟨n0, n1, n2⟩ := box3 hU14
              have hgs : V4.heap.size ≤ g13 ∧ V4.heap.size ≤ g14 := hlen13
              have hws : w.heap.size ≤ V4.heap.size := hszH
              have fwU : Hidden (Fr (fun _ => False) w U) := Fr.over (show Fr (fun _ => False) w wc from fwd) hUf (fun k e => by omega)
              have hszU : Hidden (w.heap.size ≤ U.heap.size) := (show Fr (fun _ => False) w U from fwU).size
              have hw1 : IntKind.i64.wrap ((k : Int) + 1) = (k : Int) + 1 := by rw [IntKind.wrap_i64]; omega
              have hcA : Hidden (wyC ((k : Int) + 1, ⟨s.st, s.tr ++ [(N, s.st)]⟩) = [ci ((k : Int) + 1), ct x, ct Y, ci ((m : Int) + 1)]) := by
                show [ci ((k : Int) + 1), ct (encSt s.st), ct (encTr (s.tr ++ [(N, s.st)])), ci (((s.tr ++ [(N, s.st)]).length : Nat) : Int)] = _
                rw [encTr_snoc, ← (show x = _ from hxH), ← (show y = _ from hyH), ← (show Y = _ from hYH), List.length_append, show s.tr.length = m from (show m = _ from hmH).symm]
                rfl
              have hcB : Hidden (wyC (N, ⟨s.st ++ [1], s.tr⟩) = [ci N, ct X, ct y, ci (m : Int)]) := by
                show [ci N, ct (encSt (s.st ++ [1])), ct (encTr s.tr), ci (s.tr.length : Int)] = _
                rw [encSt_app, ← (show x = _ from hxH), ← (show y = _ from hyH), show encSt [1] = [1] by decide, ← (show X = _ from hXH), show s.tr.length = m from (show m = _ from hmH).symm]
              clear hUf hU13 hU14 hgs hws gd j0 j1 j2 h6c h8c y0 y1 y2 z0 z1 z2 n13 n14 n6a n6b n8a n8b n34 hne
              go_wp2_with (first
                | (at_builtin
                   have q := a5
                   refine wpl_way rfl _ _ rfl w.heap.size v5 [((k : Int) + 1, ⟨s.st, s.tr ++ [(N, s.st)]⟩)] (N, ⟨s.st ++ [1], s.tr⟩) w5.heap.size rfl ?f0 rfl ?f1 ?f2 ?f3 ?_
                   case f0 => exact Wy.keepN hr5 (Fr.alloc _ _ _)
                   case f1 => intro j u hu; rw [(show wyC (N, _) = _ from hcB)] at hu; exact (cell_of_row _ _ j _ _ _ (alloc_new _ _)).trans (by simpa using hu)
                   case f2 => simp
                   case f3 => have : w.heap.size ≤ U.heap.size := hszU; have := f55.size; simp; omega
                   intro v6 w6 hr6 a6)
                | (at_builtin
                   refine wpl_way rfl _ _ rfl w.heap.size (.slice none 0 0) [] ((k : Int) + 1, ⟨s.st, s.tr ++ [(N, s.st)]⟩) U.heap.size rfl ?e0 rfl ?e1 ?e2 ?e3 ?_
                   case e0 => exact Wy.nil _ _
                   case e1 => intro j u hu; rw [(show wyC ((k : Int) + 1, _) = _ from hcA)] at hu; exact (cell_of_row _ _ j _ _ _ (alloc_new _ _)).trans (by simpa using hu)
                   case e2 => decide
                   case e3 => have : w.heap.size ≤ U.heap.size := hszU; simp; omega
                   intro v5 w5 hr5 a5
                   have f55 : Fr (fun _ => False) U w5 := (Fr.alloc _ _ _).same a5.none
                   have z4 := f55.cellN s4
                   have z1 := f55.cellN r1
                   have z5 := f55.cellN n0
                   have z6 := f55.cellN n1
                   have z7 := f55.cellN n2))
              go_ret2
              rw [← (show R = _ from hRH), show R = _ from er]
              exact ⟨_, rfl, (show Fr (fun _ => False) w U from fwU).same (((Ap.after (Fr.alloc _ _ _) a5).trans (Ap.after (Fr.alloc _ _ _) a6)).none), hr6⟩
end Go.Proofs.YtnmcehpdiopaiaaGreatDoor.Cd

namespace Go.Proofs.YtnmcehpdiopaiaaGreatDoor.Cd
open Go.RowKit Ty
set_option linter.unusedSimpArgs false
set_option linter.unusedVariables false

/-- What ways answers of an untry. -/
def wyU (k n : Nat) (s : Sp) : Int × List (Int × Sp) :=
  if k + 1 = n ∨ s.tr.length = 0 then (51, []) else (0, [((k : Int) + 1, ⟨s.st, s.tr.dropLast⟩)])
set_option maxRecDepth 20000 in
set_option maxHeartbeats 8000000 in
theorem ways_u (q gs ga n k b3 o3 c3 : Nat) (v0 v1 v2 v4 v5 : Value) (L : Cs) (s : Sp) (g : Bool) (N t b by' lo' hi' ta pu : Int) (nm : Bs) (w : World)
    (h : Wk w q gs ga n v0 v1 v2 (.slice (some ⟨b3, o3, none⟩) n c3) v4 v5 L) (hk : L[k]? = some (some (g, s))) (hn : n ≤ 1000000) (hc3 : n ≤ c3) (hc3m : c3 ≤ 9223372036854775807)
    (i0 : w.cell? ⟨b3, o3 + k * 4, none⟩ = some (ci 16)) (i1 : w.cell? ⟨b3, o3 + k * 4 + 1, none⟩ = some (ci N)) (i2 : w.cell? ⟨b3, o3 + k * 4 + 2, none⟩ = some (ci t)) (i3 : w.cell? ⟨b3, o3 + k * 4 + 3, none⟩ = some (.int .u64 b))
    (hm : s.tr.length ≤ 32) (hsl : s.st.length ≤ 512) (htl : (encTr s.tr).length ≤ 1000000) (hos : OkS s)
    (kr : ∀ W, Calls Tryz.prog 31 #[ci 16] W fun e w' => e = .returned (.tuple #[.agg #[ct nm, ci by', ci lo', ci hi', ci 0, ci ta, ci pu, ci (-1), .bool false], .bool true]) ∧ Fr (fun _ => False) W w')
    (kh : ∀ W, Fr (fun _ => False) w W → Calls Tryz.prog 59 #[.pointer (some ⟨q, 0, none⟩), .agg #[ci 16, ci N, ci t, .int .u64 b], ci 0] W fun e w' => e = .returned (.bool true) ∧ Fr (fun _ => False) W w')
    (ks : ∀ W, Fr (fun _ => False) w W → Calls Tryz.prog 60 #[.pointer (some ⟨q, 0, none⟩), .agg #[ci 16, ci N, ci t, .int .u64 b], .agg #[ct nm, ci by', ci lo', ci hi', ci 0, ci ta, ci pu, ci (-1), .bool false], ct (encSt s.st)] W fun e w' => e = .returned (.tuple #[ct (encSt s.st), .bool true]) ∧ Fr (fun _ => False) W w') :
    Calls Tryz.prog 38 #[.pointer (some ⟨q, 0, none⟩), ci (k : Int)] w fun e w' => ∃ v, e = .returned (.tuple #[v, ci (wyU k n s).1]) ∧ Fr (fun _ => False) w w' ∧ Wy w' w.heap.size v (wyU k n s).2 := by
  have hkn : k < n := by rw [← h.len]; exact (List.getElem?_eq_some_iff.1 hk).1
  obtain ⟨_, _, _, d3, _, _, d6, d7⟩ := box8 h.box
  obtain ⟨a0, a1, a2⟩ := ah_at h.ah hk
  simp only [shO] at a0 a1 a2
  obtain ⟨x, hx⟩ : ∃ x, x = encSt s.st := ⟨_, rfl⟩
  obtain ⟨y, hy⟩ : ∃ y, y = encTr s.tr := ⟨_, rfl⟩
  obtain ⟨m, hmm⟩ : ∃ m, m = s.tr.length := ⟨_, rfl⟩
  rw [← hx] at a0 ks
  rw [← hy] at a1
  rw [← hmm] at a2 hm
  have hxH : Hidden (x = encSt s.st) := hx
  have hyH : Hidden (y = encTr s.tr) := hy
  have hmH : Hidden (m = s.tr.length) := hmm
  have hkz : (k : Int) < (n : Int) := by omega
  have q3 := World.new_ne w _ d3
  have q7 := World.new_ne w _ d7
  have p0 := World.new_ne w _ i0
  have p1 := World.new_ne w _ a0
  clear h hk hx hy hmm d6
  go_enter Tryz.func38, Tryz.ntmps38
  go_upto_region 1 with fail
  go_cut [6, 7] (fun p6 p7 wx => ∃ g6 g7, p6 = .pointer (some ⟨g6, 0, none⟩) ∧ p7 = .pointer (some ⟨g7, 0, none⟩) ∧ wx.heap[g6]? = some (.cells #[ci 16, ci N, ci t, .int .u64 b] 64 (0, 0)) ∧ wx.heap[g7]? = some (.cells #[ct x, ct y, ci (m : Int)] 77 (0, 0)) ∧ Fr (fun _ => False) w wx)
  case first =>
    go_region_held3 (fun w' => w'.cell? ⟨q, 3, none⟩ = some (.slice (some ⟨b3, o3, none⟩) n c3) ∧ w'.cell? ⟨q, 7, none⟩ = some (.slice (some ⟨ga, 0, none⟩) n n) ∧ w'.cell? ⟨b3, o3 + k * 4, none⟩ = some (ci 16) ∧ w'.cell? ⟨b3, o3 + k * 4 + 1, none⟩ = some (ci N) ∧ w'.cell? ⟨b3, o3 + k * 4 + 2, none⟩ = some (ci t) ∧ w'.cell? ⟨b3, o3 + k * 4 + 3, none⟩ = some (.int .u64 b) ∧ w'.cell? ⟨ga, k * 3, none⟩ = some (ct x) ∧ w'.cell? ⟨ga, k * 3 + 1, none⟩ = some (ct y) ∧ w'.cell? ⟨ga, k * 3 + 2, none⟩ = some (ci (m : Int))) (first | (refine ⟨by with_reducible assumption, by with_reducible assumption, by with_reducible assumption, by with_reducible assumption, by with_reducible assumption, by with_reducible assumption, by with_reducible assumption, by with_reducible assumption, by with_reducible assumption⟩) | go_keep) (fail)
    · go_wp2_with fail
      go_meet
      exact ⟨_, _, rfl, rfl, (Fr.drew (fun _ => False) _).heap (heap_alloc2_old _ _ _) (fun f => f), (Fr.drew (fun _ => False) _).heap (heap_alloc2_new _ _ _) (fun f => f), ((Fr.alloc _ _ _).same (Fr.alloc _ _ _)).same (Fr.drew _ _)⟩
    · go_wp2_with fail
      go_meet
      exact ⟨_, _, rfl, rfl, (Fr.drew (fun _ => False) _).heap (heap_alloc2_new _ _ _) (fun f => f), (Fr.drew (fun _ => False) _).heap (heap_alloc2_old _ _ _) (fun f => f), ((Fr.alloc _ _ _).same (Fr.alloc _ _ _)).same (Fr.drew _ _)⟩
  case rest =>
    obtain ⟨g6, g7, rfl, rfl, h6, h7, fc⟩ := hcut
    obtain ⟨r0, r1, r2, r3⟩ := box4 h6
    obtain ⟨t0, t1, t2⟩ := box3 h7
    have h6H : Hidden (wc.heap[g6]? = some (.cells #[ci 16, ci N, ci t, .int .u64 b] 64 (0, 0))) := h6
    have h7H : Hidden (wc.heap[g7]? = some (.cells #[ct x, ct y, ci (m : Int)] 77 (0, 0))) := h7
    have fcH : Hidden (Fr (fun _ => False) w wc) := fc
    have e3 := fc.cellN d3
    clear h6 h7 q3 q7 p0 p1 a0 a1 a2 i0 i1 i2 i3 d3 d7
    go_upto_region 3 with (first
      | (go_at_call 31; refine (kr _).mono ?_; rintro e w1 ⟨rfl, f1⟩))
    obtain ⟨V, hV⟩ : ∃ V, V = w1.alloc (.cells #[ct nm, ci by', ci lo', ci hi', ci 0, ci ta, ci pu, ci (-1), .bool false] 92 (0, 0)) := ⟨_, rfl⟩
    have fV : Fr (fun _ => False) wc V := by rw [hV]; exact f1.same (Fr.alloc _ _ _)
    have hrow : V.heap[w1.heap.size]? = some (.cells #[ct nm, ci by', ci lo', ci hi', ci 0, ci ta, ci pu, ci (-1), .bool false] 92 (0, 0)) := by rw [hV]; exact alloc_new _ _
    obtain ⟨s0, s1, s2, s3, s4, s5, s6, s7, s8⟩ := box9 hrow
    have hrowH : Hidden (V.heap[w1.heap.size]? = some (.cells #[ct nm, ci by', ci lo', ci hi', ci 0, ci ta, ci pu, ci (-1), .bool false] 92 (0, 0))) := hrow
    replace r0 := fV.cellN r0
    replace r1 := fV.cellN r1
    replace r2 := fV.cellN r2
    replace r3 := fV.cellN r3
    replace t0 := fV.cellN t0
    replace t1 := fV.cellN t1
    replace t2 := fV.cellN t2
    replace e3 := fV.cellN e3
    have h6V : Hidden (V.heap[g6]? = some (.cells #[ci 16, ci N, ci t, .int .u64 b] 64 (0, 0))) := fV.heap h6H (fun f => f)
    have h7V : Hidden (V.heap[g7]? = some (.cells #[ct x, ct y, ci (m : Int)] 77 (0, 0))) := fV.heap h7H (fun f => f)
    have fwV : Hidden (Fr (fun _ => False) w V) := (show Fr (fun _ => False) w wc from fcH).same fV
    generalize w1.heap.size = g8 at *
    rw [← hV]
    clear hV fV hrow h6H h7H fcH f1 kr
    have khV : ∀ W, Fr (fun _ => False) V W → Calls Tryz.prog 59 #[.pointer (some ⟨q, 0, none⟩), .agg #[ci 16, ci N, ci t, .int .u64 b], ci 0] W fun e w' => e = .returned (.bool true) ∧ Fr (fun _ => False) W w' := fun W hW => kh W ((show Fr (fun _ => False) w V from fwV).same hW)
    clear kh
    have hw2 : IntKind.i64.wrap ((m : Int) + -1) = (m : Int) + -1 := by rw [IntKind.wrap_i64]; omega
    have hw3 : IntKind.i64.wrap ((m : Int) - 1) = (m : Int) - 1 := by rw [IntKind.wrap_i64]; omega
    go_cut [70] (fun c wx => c = .bool (decide (k + 1 = n) || decide (m = 0)) ∧ Fr (fun _ => False) V wx)
    case first =>
      refine wp_region_grow (by kernel_rfl) (by kernel_rfl) ?_
      have hw1 : IntKind.i64.wrap ((k : Int) + 1) = (k : Int) + 1 := by rw [IntKind.wrap_i64]; omega
      by_cases hl : k + 1 = n
      · have hkn2 : ((k : Int) + 1 == (n : Int)) = true := by simp; omega
        have hlH : Hidden (k + 1 = n) := hl
        clear hl
        (repeat (first | (refine grow_op (v := ?_) ?_ ?_ ?_; rotate_left; (focus (first | exact wanted_none rfl | (go_simp; done))); (focus (intro w' hw'; have r0 := hw'.cellN r0; have r1 := hw'.cellN r1; have r2 := hw'.cellN r2; have r3 := hw'.cellN r3; have t2 := hw'.cellN t2; have s4 := hw'.cellN s4; have s7 := hw'.cellN s7; have s8 := hw'.cellN s8; have e3 := hw'.cellN e3; (go_simp; first | with_reducible rfl | (go_at_call 59; refine calls_grow hw' ?_; first | (have q := khV w' hw'; with_reducible exact q))))); (intro a' ha; simp only [Act.put, List.setIfInBounds_toArray, List.set_cons_zero, List.set_cons_succ] at ha; subst ha)) | (refine grow_no ?_ ?_; (focus (first | (go_simp; done) | rfl)); (intro a' ha; simp only [Act.put, List.setIfInBounds_toArray, List.set_cons_zero, List.set_cons_succ] at ha; subst ha)))); refine grow_nil ?_; intro w2 k2
        go_wp2_with fail
        go_meet
        exact ⟨congrArg Value.bool (by rw [decide_eq_true (show k + 1 = n from hlH)]; rfl), k2⟩
      · have hkn2 : ((k : Int) + 1 == (n : Int)) = false := by rw [beq_eq_false_iff_ne]; omega
        have hlH : Hidden (¬ k + 1 = n) := hl
        clear hl
        by_cases hm0 : m = 0
        · subst hm0
          (repeat (first | (refine grow_op (v := ?_) ?_ ?_ ?_; rotate_left; (focus (first | exact wanted_none rfl | (go_simp; done))); (focus (intro w' hw'; have r0 := hw'.cellN r0; have r1 := hw'.cellN r1; have r2 := hw'.cellN r2; have r3 := hw'.cellN r3; have t2 := hw'.cellN t2; have s4 := hw'.cellN s4; have s7 := hw'.cellN s7; have s8 := hw'.cellN s8; have e3 := hw'.cellN e3; (go_simp; first | with_reducible rfl | (go_at_call 59; refine calls_grow hw' ?_; first | (have q := khV w' hw'; with_reducible exact q))))); (intro a' ha; simp only [Act.put, List.setIfInBounds_toArray, List.set_cons_zero, List.set_cons_succ] at ha; subst ha)) | (refine grow_no ?_ ?_; (focus (first | (go_simp; done) | rfl)); (intro a' ha; simp only [Act.put, List.setIfInBounds_toArray, List.set_cons_zero, List.set_cons_succ] at ha; subst ha)))); refine grow_nil ?_; intro w2 k2
          go_wp2_with fail
          go_meet
          exact ⟨congrArg Value.bool (by rw [decide_eq_false (show ¬ k + 1 = n from hlH)]; rfl), k2⟩
        · have hm2 : decide ((m : Int) + -1 < 0) = false := by simp; omega
          have hm3 : decide ((m : Int) - 1 < 0) = false := by simp; omega
          have hm4 : decide ((m : Int) < 1) = false := by simp; omega
          have hm0H : Hidden (¬ m = 0) := hm0
          clear hm0
          (repeat (first | (refine grow_op (v := ?_) ?_ ?_ ?_; rotate_left; (focus (first | exact wanted_none rfl | (go_simp; done))); (focus (intro w' hw'; have r0 := hw'.cellN r0; have r1 := hw'.cellN r1; have r2 := hw'.cellN r2; have r3 := hw'.cellN r3; have t2 := hw'.cellN t2; have s4 := hw'.cellN s4; have s7 := hw'.cellN s7; have s8 := hw'.cellN s8; have e3 := hw'.cellN e3; (go_simp; first | with_reducible rfl | (go_at_call 59; refine calls_grow hw' ?_; first | (have q := khV w' hw'; with_reducible exact q))))); (intro a' ha; simp only [Act.put, List.setIfInBounds_toArray, List.set_cons_zero, List.set_cons_succ] at ha; subst ha)) | (refine grow_no ?_ ?_; (focus (first | (go_simp; done) | rfl)); (intro a' ha; simp only [Act.put, List.setIfInBounds_toArray, List.set_cons_zero, List.set_cons_succ] at ha; subst ha)))); refine grow_nil ?_; intro w2 k2
          go_wp2_with fail
          go_meet
          exact ⟨congrArg Value.bool (by rw [decide_eq_false (show ¬ k + 1 = n from hlH), decide_eq_false (show ¬ m = 0 from hm0H)]; rfl), k2⟩
    case rest =>
      obtain ⟨rfl, fc⟩ := hcut
      have hmE : Hidden (s.tr.length = m) := (show m = s.tr.length from hmH).symm
      by_cases hbad : k + 1 = n ∨ m = 0
      · have eb : (decide (k + 1 = n) || decide (m = 0)) = true := by
          rcases hbad with e | e2
          · rw [decide_eq_true e]; rfl
          · rw [decide_eq_true e2]; simp
        have er : wyU k n s = (51, []) := by
          unfold wyU
          rw [show s.tr.length = m from hmE, if_pos hbad]
        rw [eb]
        have erH : Hidden (wyU k n s = (51, [])) := er
        clear er eb hbad
        go_wp2_with fail
        go_ret2
        exact ⟨_, (by rw [show wyU k n s = _ from erH]; rfl), (show Fr (fun _ => False) w V from fwV).same fc, by rw [show wyU k n s = _ from erH]; exact Wy.nil _ _⟩
      · have eb : (decide (k + 1 = n) || decide (m = 0)) = false := by
          rw [decide_eq_false (fun e => hbad (Or.inl e)), decide_eq_false (fun e => hbad (Or.inr e))]
          rfl
        have hm1 : 1 ≤ m := by omega
        have er : Hidden (wyU k n s = (0, [((k : Int) + 1, ⟨s.st, s.tr.dropLast⟩)])) := by
          show _ = _
          unfold wyU
          rw [show s.tr.length = m from hmE, if_neg hbad]
        rw [eb]
        have ksV : ∀ W, Fr (fun _ => False) V W → Calls Tryz.prog 60 #[.pointer (some ⟨q, 0, none⟩), .agg #[ci 16, ci N, ci t, .int .u64 b], .agg #[ct nm, ci by', ci lo', ci hi', ci 0, ci ta, ci pu, ci (-1), .bool false], ct x] W fun e w' => e = .returned (.tuple #[ct x, .bool true]) ∧ Fr (fun _ => False) W w' := fun W hW => ks W ((show Fr (fun _ => False) w V from fwV).same hW)
        obtain ⟨R, hR⟩ : ∃ R, R = wyU k n s := ⟨_, rfl⟩
        rw [← hR] at er
        have hRH : Hidden (R = wyU k n s) := hR
        clear ks khV eb hbad hR
        replace r0 := fc.cellN r0
        replace r1 := fc.cellN r1
        replace r2 := fc.cellN r2
        replace r3 := fc.cellN r3
        replace t0 := fc.cellN t0
        replace t1 := fc.cellN t1
        replace t2 := fc.cellN t2
        replace s0 := fc.cellN s0
        replace s1 := fc.cellN s1
        replace s2 := fc.cellN s2
        replace s3 := fc.cellN s3
        replace s4 := fc.cellN s4
        replace s5 := fc.cellN s5
        replace s6 := fc.cellN s6
        replace s7 := fc.cellN s7
        replace s8 := fc.cellN s8
        have fcH : Hidden (Fr (fun _ => False) V wc) := fc
        have ksC : ∀ W, Fr (fun _ => False) wc W → Calls Tryz.prog 60 #[.pointer (some ⟨q, 0, none⟩), .agg #[ci 16, ci N, ci t, .int .u64 b], .agg #[ct nm, ci by', ci lo', ci hi', ci 0, ci ta, ci pu, ci (-1), .bool false], ct x] W fun e w' => e = .returned (.tuple #[ct x, .bool true]) ∧ Fr (fun _ => False) W w' := fun W hW => ksV W (fc.same hW)
        clear ksV fc e3
        go_upto_region 5 with fail
        refine wp_region_grow (by kernel_rfl) (by kernel_rfl) ?_
        (repeat (first | (refine grow_op (v := ?_) ?_ ?_ ?_; rotate_left; (focus (first | exact wanted_none rfl | (go_simp; done))); (focus (intro w' hw'; have r0 := hw'.cellN r0; have r1 := hw'.cellN r1; have r2 := hw'.cellN r2; have r3 := hw'.cellN r3; have t0 := hw'.cellN t0; have s0 := hw'.cellN s0; have s1 := hw'.cellN s1; have s2 := hw'.cellN s2; have s3 := hw'.cellN s3; have s4 := hw'.cellN s4; have s5 := hw'.cellN s5; have s6 := hw'.cellN s6; have s7 := hw'.cellN s7; have s8 := hw'.cellN s8; (go_simp; first | with_reducible rfl | (go_at_call 60; refine calls_grow hw' ?_; first | (have q := ksC w' hw'; with_reducible exact q))))); (intro a' ha; simp only [Act.put, List.setIfInBounds_toArray, List.set_cons_zero, List.set_cons_succ] at ha; subst ha)) | (refine grow_no ?_ ?_; (focus (first | (go_simp; done) | rfl)); (intro a' ha; simp only [Act.put, List.setIfInBounds_toArray, List.set_cons_zero, List.set_cons_succ] at ha; subst ha)))); refine grow_nil ?_; intro w3 k3
        have hstl := str_len x
        have hxlH : Hidden (x.length = s.st.length) := by show _ = _; rw [show x = encSt s.st from hxH]; simp [encSt]
        have fw3 : Hidden (Fr (fun _ => False) w w3) := ((show Fr (fun _ => False) w V from fwV).same fcH).same k3
        replace t2 := k3.cellN t2
        replace t0 := k3.cellN t0
        replace t1 := k3.cellN t1
        replace s7 := k3.cellN s7
        replace s8 := k3.cellN s8
        replace s4 := k3.cellN s4
        replace r0 := k3.cellN r0
        replace r1 := k3.cellN r1
        have hxl5 : x.length ≤ 512 := by rw [show x.length = s.st.length from hxlH]; exact hsl
        have hb5 : decide (512 < (x.length : Int)) = false := by simp; omega
        have hm32 : decide (32 < (m : Int) + -1) = false := by simp; omega
        have hm33 : decide (32 < (m : Int) - 1) = false := by simp; omega
        have kw := fun W => with_any x y x (m : Int) W
        go_upto_region 11 with (first
          | (go_at_call 61; refine (kw _).mono ?_; rintro e w4 ⟨rfl, f4⟩))
        obtain ⟨V4, hV4⟩ : ∃ V, V = w4.alloc (.cells #[ct x, ct y, ci (m : Int)] 77 (0, 0)) := ⟨_, rfl⟩
        have f5 : Fr (fun _ => False) w3 V4 := by rw [hV4]; exact f4.same (Fr.alloc _ _ _)
        have h12 : V4.heap[w4.heap.size]? = some (.cells #[ct x, ct y, ci (m : Int)] 77 (0, 0)) := by rw [hV4]; exact alloc_new _ _
        obtain ⟨j0, j1, j2⟩ := box3 h12
        have hlt12 := lt_of_heap h12
        generalize w4.heap.size = g12 at *
        rw [← hV4]
        replace r0 := f5.cellN r0
        replace r1 := f5.cellN r1
        replace s4 := f5.cellN s4
        replace s8 := f5.cellN s8
        have fw5 : Hidden (Fr (fun _ => False) w V4) := (show Fr (fun _ => False) w w3 from fw3).same f5
        have x0 := World.new_ne V4 _ j0
        clear hV4 f5 h12 f4 kw fw3 t0 t1 t2 s7
        go_cut [13, 14] (fun p13 p14 wx => ∃ g13 g14, p13 = .pointer (some ⟨g13, 0, none⟩) ∧ p14 = .pointer (some ⟨g14, 0, none⟩) ∧ wx.heap[g13]? = some (.cells #[ct x, ct y, ci (m : Int)] 77 (0, 0)) ∧ wx.heap[g14]? = some (.cells #[ct x, ct y, ci (m : Int)] 77 (0, 0)) ∧ Fr (fun _ => False) V4 wx ∧ g13 ≠ g14 ∧ V4.heap.size ≤ g13 ∧ V4.heap.size ≤ g14)
        case first =>
          go_region_held3 (fun w' => w'.cell? ⟨g12, 0, none⟩ = some (ct x) ∧ w'.cell? ⟨g12, 1, none⟩ = some (ct y) ∧ w'.cell? ⟨g12, 2, none⟩ = some (ci (m : Int))) (first | (refine ⟨by with_reducible assumption, by with_reducible assumption, by with_reducible assumption⟩) | go_keep) (fail)
          · go_wp2_with fail
            go_meet
            exact ⟨_, _, rfl, rfl, (Fr.drew (fun _ => False) _).heap (heap_alloc2_old _ _ _) (fun f => f), (Fr.drew (fun _ => False) _).heap (heap_alloc2_new _ _ _) (fun f => f), ((Fr.alloc _ _ _).same (Fr.alloc _ _ _)).same (Fr.drew _ _), by omega, by omega, by omega⟩
          · go_wp2_with fail
            go_meet
            exact ⟨_, _, rfl, rfl, (Fr.drew (fun _ => False) _).heap (heap_alloc2_new _ _ _) (fun f => f), (Fr.drew (fun _ => False) _).heap (heap_alloc2_old _ _ _) (fun f => f), ((Fr.alloc _ _ _).same (Fr.alloc _ _ _)).same (Fr.drew _ _), by omega, by omega, by omega⟩
        case rest =>
          obtain ⟨g13, g14, rfl, rfl, h13, h14, fd, hne, hg13, hg14⟩ := hcut
          have fwd : Hidden (Fr (fun _ => False) w wc) := (show Fr (fun _ => False) w V4 from fw5).same fd
          have hszH : Hidden (w.heap.size ≤ V4.heap.size) := (show Fr (fun _ => False) w V4 from fw5).size
          have n13 : g12 ≠ g13 := by omega
          have n6a : g6 ≠ g13 := by have h1 := World.block_lt_of_cell? V4 _ r1; simp only [] at h1; omega
          have n6b : g6 ≠ g14 := by have h1 := World.block_lt_of_cell? V4 _ r1; simp only [] at h1; omega
          have n8a : g8 ≠ g13 := by have h1 := World.block_lt_of_cell? V4 _ s4; simp only [] at h1; omega
          have n8b : g8 ≠ g14 := by have h1 := World.block_lt_of_cell? V4 _ s4; simp only [] at h1; omega
          have n34 : g14 ≠ g13 := fun e => hne e.symm
          have n14 : g12 ≠ g14 := by omega
          have h6c : Hidden (g6 ≠ g13 ∧ g6 ≠ g14) := by
            have h1 := World.block_lt_of_cell? V4 _ r1
            simp only [] at h1
            exact ⟨by omega, by omega⟩
          have h8c : Hidden (g8 ≠ g13 ∧ g8 ≠ g14) := by
            have h1 := World.block_lt_of_cell? V4 _ s4
            simp only [] at h1
            exact ⟨by omega, by omega⟩
          replace r0 := fd.cellN r0
          replace r1 := fd.cellN r1
          replace s4 := fd.cellN s4
          replace s8 := fd.cellN s8
          replace j0 := fd.cellN j0
          replace j1 := fd.cellN j1
          replace j2 := fd.cellN j2
          have hlen13 : Hidden (V4.heap.size ≤ g13 ∧ V4.heap.size ≤ g14) := ⟨hg13, hg14⟩
          have hneT : s.tr ≠ [] := by intro e; have : s.tr.length = m := hmE; rw [e] at this; simp at this; omega
          have hye : y = encTr s.tr.dropLast ++ encLn (s.tr.getLast hneT) ++ [10] := by rw [show y = encTr s.tr from hyH]; exact encTr_last hneT
          have kcl := fun W => closing_any x y (encTr s.tr.dropLast) (encLn (s.tr.getLast hneT)) m hye (encTr_end _) (encLn_no10 (hos.tr _ (List.getLast_mem hneT))) (by omega) (by rw [show y = encTr s.tr from hyH]; exact htl) (by omega) W
          obtain ⟨Y, hY⟩ : ∃ Y, Y = encTr s.tr.dropLast := ⟨_, rfl⟩
          rw [← hY] at kcl
          have hYH : Hidden (Y = encTr s.tr.dropLast) := hY
          have h13H : Hidden (wc.heap[g13]? = some (.cells #[ct x, ct y, ci (m : Int)] 77 (0, 0))) := h13
          have h14H : Hidden (wc.heap[g14]? = some (.cells #[ct x, ct y, ci (m : Int)] 77 (0, 0))) := h14
          have y0 := frozen_of_row h13 0
          have y1 := frozen_of_row h13 1
          have y2 := frozen_of_row h13 2
          have z0 := frozen_of_row h14 0
          have z1 := frozen_of_row h14 1
          have z2 := frozen_of_row h14 2
          have hneH : Hidden (g13 ≠ g14) := hne
          clear h14 hY hye fd hg13 hg14 hlt12 x0
          have m1' := (box3 h13).1
          obtain ⟨a0, a1, a2⟩ := box3 h13
          clear h13 m1'
          go_upto_region 17 with (first
            | (go_at_call 64; refine (kcl _).mono ?_; rintro e wd ⟨rfl, fd⟩
               have hd13 := fd.heap (show wc.heap[g13]? = _ from h13H) (fun f => f)
               have ya0 := frozen_of_row hd13 0
               have ya1 := frozen_of_row hd13 1
               have ya2 := frozen_of_row hd13 2
               obtain ⟨b0, b1, b2⟩ := box3 hd13
               clear hd13))
          obtain ⟨U, hU⟩ : ∃ U, U = (((wd.setCell ⟨g13, 0, none⟩ (ct x)).setCell ⟨g13, 1, none⟩ (ct Y)).setCell ⟨g13, 2, none⟩ (ci ((m : Int) - 1))) := ⟨_, rfl⟩
          have hU13 : U.heap[g13]? = some (.cells #[ct x, ct Y, ci ((m : Int) - 1)] 77 (0, 0)) := by rw [hU]; exact three_put (fd.heap (show wc.heap[g13]? = _ from h13H) (fun f => f)) _ _ _
          have hUf : Fr (fun k => k = g13) wc U := by rw [hU]; exact (fd.mono (fun _ _ f => f.elim)).same (three_fr _ g13 _ _ _)
          rw [← hU]
          clear hU
          have r0 := hUf.cell r0 n6a
          have r1 := hUf.cell r1 n6a
          have s4 := hUf.cell s4 n8a
          have s8 := hUf.cell s8 n8a
          obtain ⟨m0, m1, m2⟩ := box3 hU13
          have hgs : V4.heap.size ≤ g13 ∧ V4.heap.size ≤ g14 := hlen13
          have hws : w.heap.size ≤ V4.heap.size := hszH
          have fwU : Hidden (Fr (fun _ => False) w U) := Fr.over (show Fr (fun _ => False) w wc from fwd) hUf (fun k e => by omega)
          have hszU : Hidden (w.heap.size ≤ U.heap.size) := (show Fr (fun _ => False) w U from fwU).size
          have hw1 : IntKind.i64.wrap ((k : Int) + 1) = (k : Int) + 1 := by rw [IntKind.wrap_i64]; omega
          have hcA : Hidden (wyC ((k : Int) + 1, ⟨s.st, s.tr.dropLast⟩) = [ci ((k : Int) + 1), ct x, ct Y, ci ((m : Int) - 1)]) := by
            show [ci ((k : Int) + 1), ct (encSt s.st), ct (encTr s.tr.dropLast), ci ((s.tr.dropLast.length : Nat) : Int)] = _
            rw [← (show x = _ from hxH), ← (show Y = _ from hYH), List.length_dropLast, show s.tr.length = m from hmE, show ((m - 1 : Nat) : Int) = (m : Int) - 1 by omega]
          clear hUf hU13 hgs hws fd j0 j1 j2 h6c h8c y0 y1 y2 z0 z1 z2 n13 n14 n6a n6b n8a n8b n34 hne a0 a1 a2 b0 b1 b2 ya0 ya1 ya2
          go_wp2_with (first
            | (at_builtin
               refine wpl_way rfl _ _ rfl w.heap.size (.slice none 0 0) [] ((k : Int) + 1, ⟨s.st, s.tr.dropLast⟩) U.heap.size rfl ?e0 rfl ?e1 ?e2 ?e3 ?_
               case e0 => exact Wy.nil _ _
               case e1 => intro j u hu; rw [(show wyC ((k : Int) + 1, _) = _ from hcA)] at hu; exact (cell_of_row _ _ j _ _ _ (alloc_new _ _)).trans (by simpa using hu)
               case e2 => decide
               case e3 => have : w.heap.size ≤ U.heap.size := hszU; simp; omega
               intro v5 w5 hr5 a5
               have f55 : Fr (fun _ => False) U w5 := (Fr.alloc _ _ _).same a5.none
               have z4 := f55.cellN s4
               have z1 := f55.cellN r1))
          go_ret2
          rw [← (show R = _ from hRH), show R = _ from er]
          exact ⟨_, rfl, (show Fr (fun _ => False) w U from fwU).same f55, hr5⟩
end Go.Proofs.YtnmcehpdiopaiaaGreatDoor.Cd
