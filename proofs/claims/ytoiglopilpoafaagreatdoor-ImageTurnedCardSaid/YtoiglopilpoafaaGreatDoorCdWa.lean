/- What each instruction makes of the stack: operators, what takes any one; what the site tells. -/
import Derived.Test.YtoiglopilpoafaaGreatDoorPk20
namespace Go.Proofs.YtoiglopilpoafaaGreatDoor.Cd
open Go.RowKit Ty
set_option linter.unusedSimpArgs false
set_option linter.unusedVariables false

set_option maxRecDepth 20000 in
set_option maxHeartbeats 1000000 in
theorem put_making (q : Nat) (op N t b by' lo' hi' nu ta tr : Int) (nm : Bs) (en : Bool) (s : Bs) (u e : Int) (hu : u = 0 ∨ valued u = true) (w : World)
    (km : ∀ W, Calls Tryz.prog 114 #[ci N, ct s] W fun x w' => x = .returned (.tuple #[ci u, ci e]) ∧ Fr (fun _ => False) W w') :
    Calls Tryz.prog 107 #[.pointer (some ⟨q, 0, none⟩), .agg #[ci op, ci N, ci t, .int .u64 b], .agg #[ct nm, ci by', ci lo', ci hi', ci nu, ci ta, ci 10, ci tr, .bool en], ct s] w fun x w' => x = .returned (.tuple #[ct (encSt (oneS u)), .bool (e == 0)]) ∧ Fr (fun _ => False) w w' := by
  have ks := fun W => single_any u hu W
  generalize encSt (oneS u) = T at ks ⊢
  clear hu
  go_enter Tryz.func107, Tryz.ntmps107
  go_wp2_with (first
    | (go_at_call 114; refine (km _).mono ?_; rintro e w1 ⟨rfl, f1⟩)
    | (go_at_call 97; refine (ks _).mono ?_; rintro e w2 ⟨rfl, f2⟩))
  go_ret2
  exact ⟨rfl, (((Fr.alloc _ _ _).same (Fr.alloc _ _ _)).same f1).same f2⟩
theorem tp_none {st : List Int} (h : tp st = none) : st = [] := by
  unfold tp at h
  split at h
  · rename_i e; exact List.getLast?_eq_none_iff.1 e
  · cases h
theorem top_one {st r : List Int} {t : Int} (h : tp st = some (r, t)) (T : Bs) : takenT 1 (encSt st) T = (encSt [t], true) := by
  have e := (tp_sub h).2.2
  subst e
  unfold takenT
  rw [if_pos rfl, encSt_app]
  have h1 : (encSt r ++ encSt [t]).length = (encSt r).length + 1 := by simp [encSt]
  rw [h1, if_neg (by omega), Nat.add_sub_cancel, List.drop_left]
  simp
theorem top_two {st r r' : List Int} {t u : Int} (h : tp st = some (r, t)) (h' : tp r = some (r', u)) (T : Bs) : takenT 2 (encSt st) T = (encSt [u, t], true) := by
  have e := (tp_sub h).2.2
  have e' := (tp_sub h').2.2
  subst e
  subst e'
  unfold takenT
  rw [if_neg (by decide), if_pos rfl, List.append_assoc, encSt_app]
  have h1 : (encSt r' ++ encSt ([u] ++ [t])).length = (encSt r').length + 2 := by simp [encSt]
  rw [h1, if_neg (by omega), Nat.add_sub_cancel, List.drop_left]
  simp
theorem take_top {r x : List Int} : (encSt (r ++ x)).take ((encSt (r ++ x)).length - (encSt x).length) = encSt r := by
  rw [encSt_app, List.length_append, Nat.add_sub_cancel, List.take_left]
/-- stackBehind of what takes X off r ++ X, and puts T. -/
theorem behind_x (q : Nat) (op N t b by' lo' hi' nu ta pu tr : Int) (nm : Bs) (en : Bool) (r x : List Int) (T : Bs) (fit : Bool) (hl : (r ++ x).length ≤ 100000) (hT : T.length ≤ 100000) (hta : ta = 1 ∨ ta = 2) (htk : takenT ta (encSt (r ++ x)) [] = (encSt x, true)) (w : World)
    (kp : ∀ W, Fr (fun _ => False) w W → Calls Tryz.prog 107 #[.pointer (some ⟨q, 0, none⟩), .agg #[ci op, ci N, ci t, .int .u64 b], .agg #[ct nm, ci by', ci lo', ci hi', ci nu, ci ta, ci pu, ci tr, .bool en], ct (encSt x)] W fun e w' => e = .returned (.tuple #[ct T, .bool fit]) ∧ Fr (fun _ => False) W w') :
    Calls Tryz.prog 94 #[.pointer (some ⟨q, 0, none⟩), .agg #[ci op, ci N, ci t, .int .u64 b], .agg #[ct nm, ci by', ci lo', ci hi', ci nu, ci ta, ci pu, ci tr, .bool en], ct (encSt (r ++ x))] w fun e w' => e = .returned (.tuple #[ct (encSt r ++ T), .bool fit]) ∧ Fr (fun _ => False) w w' := by
  have tkn := fun W => taken_any q op N t b by' lo' hi' nu ta pu tr nm en (encSt (r ++ x)) [] (by rw [encSt_len]; exact hl) W (fun h1 h2 => by rcases hta with e | e; exact absurd e h1; exact absurd e h2)
  rw [htk] at tkn
  have := behind_ok q op N t b by' lo' hi' nu ta pu tr nm en (encSt (r ++ x)) (encSt x) T fit (by rw [encSt_len]; exact hl) (by rw [encSt_len, encSt_len]; simp) hT w (fun W _ => tkn W) kp
  rw [take_top] at this
  exact this
theorem behind_xno (q : Nat) (op N t b by' lo' hi' nu ta pu tr : Int) (nm : Bs) (en : Bool) (st : List Int) (X : Bs) (hl : st.length ≤ 100000) (hta : ta = 1 ∨ ta = 2) (htk : takenT ta (encSt st) [] = (X, false)) (w : World) :
    Calls Tryz.prog 94 #[.pointer (some ⟨q, 0, none⟩), .agg #[ci op, ci N, ci t, .int .u64 b], .agg #[ct nm, ci by', ci lo', ci hi', ci nu, ci ta, ci pu, ci tr, .bool en], ct (encSt st)] w fun e w' => e = .returned (.tuple #[ct [], .bool false]) ∧ Fr (fun _ => False) w w' := by
  have tkn := fun W => taken_any q op N t b by' lo' hi' nu ta pu tr nm en (encSt st) [] (by rw [encSt_len]; exact hl) W (fun h1 h2 => by rcases hta with e | e; exact absurd e h1; exact absurd e h2)
  rw [htk] at tkn
  exact behind_no q op N t b by' lo' hi' nu ta pu tr nm en (encSt st) X w (fun W _ => tkn W)

/-- A walk at a place, and all that lies around it. -/
structure Ct (w : World) (f : Fu) (p : Fm) (q gs ga n k b3 o3 c2 c3 c4 c5 : Nat) (v0 : Value) (a2 a4 a5 : Option Addr) (L : Cs) (s : Sp) (g : Bool) : Prop where
  wk : Wk w q gs ga n v0 (ci f.sg.res) (.slice a2 f.loc.length c2) (.slice (some ⟨b3, o3, none⟩) n c3) (.slice a4 p.fns.length c4) (.slice a5 p.vars.length c5) L
  at' : L[k]? = some (some (g, s))
  n1 : n ≤ 4096
  le : n ≤ c3
  le2 : c3 ≤ 9223372036854775807
  len : f.cd.length = n
  cell : ∀ (j : Nat) (u : Value), (inC (f.cd.getD k default))[j]? = some u → w.cell? ⟨b3, o3 + k * 4 + j, none⟩ = some u
  right : rightS (f.cd.getD k default) = true
  ov : over s = false
  ok : OkS s
  okF : OkF f p
  loc : InL w a2 c2 f.loc
  vars : InL w a5 c5 p.vars
  fns : SgL w a4 c4 p.fns
  tab : F.Tab w
abbrev KW (w : World) (f : Fu) (p : Fm) (q k : Nat) (s : Sp) : Prop := Calls Tryz.prog 73 #[.pointer (some ⟨q, 0, none⟩), ci (k : Int)] w fun e w' => ∃ v, e = .returned (.tuple #[v, ci (wayS f p k s).1]) ∧ Fr (fun _ => False) w w' ∧ Wy w' w.heap.size v ((wayS f p k s).2.map fun x => ((x.1 : Int), x.2))
abbrev toldC (q : Nat) (op N t b : Int) (word : Int) (T : Bs) (W : World) : Prop := Calls Tryz.prog 112 #[.pointer (some ⟨q, 0, none⟩), .agg #[ci op, ci N, ci t, .int .u64 b], .agg #[ct (nmR op), ci (byR op), ci (lo op), ci (hi op), ci (nuR op), ci (taR op), ci (puR op), ci (trR op), .bool (enR op)], ci word] W fun e w' => e = .returned (ct T) ∧ Fr (fun _ => False) W w'
variable {w : World} {f : Fu} {p : Fm} {q gs ga n k b3 o3 c2 c3 c4 c5 : Nat} {v0 : Value} {a2 a4 a5 : Option Addr} {L : Cs} {s : Sp} {g : Bool}
theorem tk_len {st l r : List Int} (h : tk st l = some r) : r.length ≤ st.length := by
  unfold tk at h
  split at h
  · cases h; rw [List.length_take]; omega
  · cases h
/-- Instructions that take and put what is told. -/
theorem kw_told (c : Ct w f p q gs ga n k b3 o3 c2 c3 c4 c5 v0 a2 a4 a5 L s g) (op N t b : Int) (hi : f.cd.getD k default = ⟨op, N, t, b⟩) (A B : List Int) (hA : Vd A) (hB : Vd B) (hBl : B.length ≤ 100000)
    (h15 : op ≠ 15) (h16 : op ≠ 16) (h1 : taR op ≠ 1) (h2 : taR op ≠ 2) (hpu : (puR op == 10) = false)
    (kt : hasS (nuR op) N f.loc.length n p.fns.length p.vars.length = true → ∀ W, Fr (fun _ => False) w W → toldC q op N t b (taR op) (encSt A) W)
    (kp : hasS (nuR op) N f.loc.length n p.fns.length p.vars.length = true → ∀ W, Fr (fun _ => False) w W → toldC q op N t b (puR op) (encSt B) W)
    (hen : enR op = true → B = [])
    (hst : stepS f p ⟨op, N, t, b⟩ s = if hasS (nuR op) N f.loc.length n p.fns.length p.vars.length = true then (match tk s.st A with | none => none | some r => some ((if enR op then none else some ⟨r ++ B, s.tr⟩), (if nuR op = 4 then some ⟨r ++ B, s.tr⟩ else none))) else none) :
    KW w f p q k s := by
  have hl := over_len c.ov
  have kb : hasS (nuR op) N f.loc.length n p.fns.length p.vars.length = true → ∀ W, Fr (fun _ => False) w W → Calls Tryz.prog 94 #[.pointer (some ⟨q, 0, none⟩), inV ⟨op, N, t, b⟩, rwV op, ct (encSt s.st)] W fun e w' => e = .returned (.tuple #[ct (behT s.st A B).1, .bool (behT s.st A B).2]) ∧ Fr (fun _ => False) W w' := fun hh W hW =>
    behind_told q op N t b (byR op) (lo op) (Cd.hi op) (nuR op) (taR op) (puR op) (trR op) (nmR op) (enR op) s.st A B c.ok.st hA hB (by omega) hBl h1 h2 hpu W
      (fun W' hW' => kt hh W' (hW.same hW')) (fun W' hW' => kp hh W' (hW.same hW'))
  have hr : rightS ⟨op, N, t, b⟩ = true := by have := c.right; rw [hi] at this; exact this
  have hcell := c.cell
  rw [hi] at hcell
  cases hk2 : tk s.st A with
  | none =>
    rw [hk2] at hst
    rw [behT_none hk2] at kb
    refine ways_of f p q gs ga n k b3 o3 c2 c3 c4 c5 v0 a2 a4 a5 L s g ⟨op, N, t, b⟩ [] [] false w c.wk c.at' c.n1 c.le c.le2 c.len hcell hi hr h15 h16 c.ov kb (fun e => by cases e) (by simp) ?_ ?_
    · rw [hst]; simp
    · intro _ _; simp
  | some r =>
    rw [hk2] at hst
    have hrl := tk_len hk2
    rw [behT_some hk2] at kb
    refine ways_of f p q gs ga n k b3 o3 c2 c3 c4 c5 v0 a2 a4 a5 L s g ⟨op, N, t, b⟩ (encSt (r ++ B)) (r ++ B) true w c.wk c.at' c.n1 c.le c.le2 c.len hcell hi hr h15 h16 c.ov kb (fun _ => rfl) (by rw [encSt_len, List.length_append]; omega) ?_ ?_
    · rw [hst]; simp
    · intro he _
      rw [hen he, List.append_nil]
      omega
/-- Instructions that take any one, or any two. -/
theorem kw_any (c : Ct w f p q gs ga n k b3 o3 c2 c3 c4 c5 v0 a2 a4 a5 L s g) (op N t b : Int) (hi : f.cd.getD k default = ⟨op, N, t, b⟩) (r x : List Int) (B : List Int) (fit : Bool) (hBl : B.length ≤ 100000) (hsx : s.st = r ++ x)
    (h15 : op ≠ 15) (h16 : op ≠ 16) (hta : taR op = 1 ∨ taR op = 2) (htk : takenT (taR op) (encSt (r ++ x)) [] = (encSt x, true)) (hnu : nuR op = 0) (hen : enR op = false)
    (kp : ∀ W, Fr (fun _ => False) w W → Calls Tryz.prog 107 #[.pointer (some ⟨q, 0, none⟩), .agg #[ci op, ci N, ci t, .int .u64 b], rwV op, ct (encSt x)] W fun e w' => e = .returned (.tuple #[ct (encSt B), .bool fit]) ∧ Fr (fun _ => False) W w')
    (hst : stepS f p ⟨op, N, t, b⟩ s = if fit = true then some (some ⟨r ++ B, s.tr⟩, none) else none) :
    KW w f p q k s := by
  have hl := over_len c.ov
  have hl2 : (r ++ x).length ≤ 512 := by rw [← hsx]; exact hl.1
  have hr : rightS ⟨op, N, t, b⟩ = true := by have := c.right; rw [hi] at this; exact this
  have hcell := c.cell
  rw [hi] at hcell
  refine ways_of f p q gs ga n k b3 o3 c2 c3 c4 c5 v0 a2 a4 a5 L s g ⟨op, N, t, b⟩ (encSt r ++ encSt B) (r ++ B) fit w c.wk c.at' c.n1 c.le c.le2 c.len hcell hi hr h15 h16 c.ov (fun _ W hW => ?_) (fun _ => (encSt_app r B).symm) (by rw [List.length_append, encSt_len, encSt_len]; rw [List.length_append] at hl2; omega) ?_ ?_
  · rw [hsx]
    exact behind_x q op N t b (byR op) (lo op) (Cd.hi op) (nuR op) (taR op) (puR op) (trR op) (nmR op) (enR op) r x (encSt B) fit (by omega) (by rw [encSt_len]; exact hBl) hta htk W (fun W' hW' => kp W' (hW.same hW'))
  · rw [hst]
    have e : hasS (nuR op) N f.loc.length n p.fns.length p.vars.length = true := by rw [hnu]; rfl
    rw [e, hen, hnu]
    cases fit <;> simp
  · intro e; rw [hen] at e; cases e
theorem kw_none (c : Ct w f p q gs ga n k b3 o3 c2 c3 c4 c5 v0 a2 a4 a5 L s g) (op N t b : Int) (hi : f.cd.getD k default = ⟨op, N, t, b⟩) (X : Bs)
    (h15 : op ≠ 15) (h16 : op ≠ 16) (hta : taR op = 1 ∨ taR op = 2) (htk : takenT (taR op) (encSt s.st) [] = (X, false))
    (hst : stepS f p ⟨op, N, t, b⟩ s = none) :
    KW w f p q k s := by
  have hl := over_len c.ov
  have hr : rightS ⟨op, N, t, b⟩ = true := by have := c.right; rw [hi] at this; exact this
  have hcell := c.cell
  rw [hi] at hcell
  refine ways_of f p q gs ga n k b3 o3 c2 c3 c4 c5 v0 a2 a4 a5 L s g ⟨op, N, t, b⟩ [] [] false w c.wk c.at' c.n1 c.le c.le2 c.len hcell hi hr h15 h16 c.ov (fun _ W hW => ?_) (fun e => by cases e) (by simp) ?_ ?_
  · exact behind_xno q op N t b (byR op) (lo op) (Cd.hi op) (nuR op) (taR op) (puR op) (trR op) (nmR op) (enR op) s.st X (by omega) hta htk W
  · rw [hst]; simp
  · intro _ _; simp
end Go.Proofs.YtoiglopilpoafaaGreatDoor.Cd
