/- Texts of ours, in one. -/
import Derived.Test.YtoiglopilpoafaaGreatDoorPk13
import Derived.Deep.QuietTactic
import Derived.BigQuiet
namespace Go.Proofs.YtoiglopilpoafaaGreatDoor.Cd
open Go.RowKit Ty
set_option linter.unusedSimpArgs false
set_option linter.unusedVariables false

/-- The place of the first of which p holds, from a place on; -1: none. -/
def idxP {α : Type} (p : α → Bool) : List α → Nat → Int
  | [], _ => -1
  | x :: r, i => if p x = true then (i : Int) else idxP p r (i + 1)
theorem idxP_spec {α : Type} (p : α → Bool) : ∀ (l : List α) (i : Nat), ((∀ x ∈ l, p x = false) ∧ idxP p l i = -1 ∧ l.findIdx? p = none) ∨ ∃ k x, l[k]? = some x ∧ p x = true ∧ idxP p l i = ((i + k : Nat) : Int) ∧ l.findIdx? p = some k
  | [], i => Or.inl ⟨by simp, rfl, rfl⟩
  | x :: r, i => by
    unfold idxP
    by_cases h : p x = true
    · rw [if_pos h]
      exact Or.inr ⟨0, x, rfl, h, by simp, by simp [List.findIdx?_cons, h]⟩
    · rw [if_neg h]
      have h' : p x = false := by simpa using h
      rcases idxP_spec p r (i + 1) with ⟨h1, h2, h3⟩ | ⟨k, y, h1, h2, h3, h4⟩
      · refine Or.inl ⟨fun y hy => ?_, h2, by simp [List.findIdx?_cons, h', h3]⟩
        rcases List.mem_cons.1 hy with rfl | hy
        · exact h'
        · exact h1 y hy
      · exact Or.inr ⟨k + 1, y, by simpa using h1, h2, by rw [h3]; congr 1; omega, by simp [List.findIdx?_cons, h', h4]⟩
theorem idxP_any {α : Type} (p : α → Bool) (l : List α) : decide (0 ≤ idxP p l 0) = l.any p := by
  rcases idxP_spec p l 0 with ⟨h1, h2, _⟩ | ⟨k, x, h1, h2, h3, _⟩
  · rw [h2]
    have : l.any p = false := by rw [List.any_eq_false]; intro x hx; simp [h1 x hx]
    rw [this]; rfl
  · rw [h3]
    have : l.any p = true := List.any_eq_true.2 ⟨x, List.mem_of_getElem? h1, h2⟩
    rw [this]; simp


set_option maxHeartbeats 1000000 in
theorem ifuncIA (g : Nat) (lb : Array Value) (eg : ∀ args w, (callFunc g args).run Tryz.prog w = .ok (.enter g args) w) (ao : Option Addr) (n cap : Nat) (l : List (In)) (p : In → Bool) (R : Int) (w : World) (hn : Hidden (l.length = n)) (h1 : n ≤ cap) (h2 : cap ≤ 9223372036854775807)
    (ha : Hidden (l = [] ∨ ∃ b off, ao = some ⟨b, off, none⟩ ∧ ∀ (i : Nat) (x : In), l[i]? = some x → ∀ (j : Nat) (u : Value), (inC x)[j]? = some u → w.cell? ⟨b, off + i * 4 + j, none⟩ = some u))
    (hp : ∀ W, Fr (fun _ => False) w W → ∀ x ∈ l, Calls Tryz.prog g (#[inV x] ++ lb) W fun e w' => e = .returned (.bool (p x)) ∧ Fr (fun _ => False) W w') (hR : Hidden (idxP p l 0 = R)) :
    Calls Tryz.prog 54 #[.slice ao n cap, .func (.func g) #[] lb] w fun e w' => e = .returned (.int .i64 R) ∧ Fr (fun _ => False) w w' := by
  go_enter Tryz.func54, Tryz.ntmps54
  go_wp2
  go_loopg [5, 8] n (fun k _ iv wr => ∃ j : Nat, iv = .int .i64 (j : Int) ∧ j ≤ n ∧ k = n - j ∧ Fr (fun _ => False) w wr ∧ idxP p (l.drop j) j = R)
  case atStart => exact ⟨0, rfl, by omega, rfl, Fr.refl _ _, hR⟩
  case round =>
    obtain ⟨j, rfl, hj, hk, hf, hd⟩ := hrel
    have hkH : Hidden (gk = n - j) := hk
    have hfH : Hidden (Fr (fun _ => False) w wr) := hf
    have hn' : l.length = n := hn
    clear hk hR
    by_cases hjl : j < n
    · obtain ⟨x, hx⟩ : ∃ x, l[j]? = some x := ⟨l[j], List.getElem?_eq_getElem (by omega)⟩
      rcases (show l = [] ∨ _ from ha) with h0 | ⟨b, o, rfl, hc⟩
      · rw [h0] at hx; simp at hx
      obtain ⟨c0, c1, c2, c3⟩ := IL.at' (cap := cap) (fun i x hx j u hu => hf.cellN (hc i x hx j u hu)) hx
      have kp := hp wr hf x (List.mem_of_getElem? hx)
      clear hp
      rw [drop_at hx, idxP] at hd
      clear hc hn' hx hf
      cases hpx : p x
      · rw [hpx] at kp hd
        have hdH : Hidden (idxP p (l.drop (j + 1)) (j + 1) = R) := by show _ = _; simpa using hd
        have hltz : (j : Int) < (n : Int) := by omega
        clear hd hpx
        go_wp2_with fail
        refine kp.mono ?_
        rintro e w1 ⟨rfl, f1⟩
        have f1H : Hidden (Fr (fun _ => False) wr w1) := f1
        clear f1
        go_wp2
        go_roundg (n - (j + 1))
        case measure => have := (show gk = n - j from hkH); omega
        case rel => exact ⟨j + 1, by go_num, by omega, rfl, Fr.same hfH f1H, hdH⟩
      · rw [hpx] at kp hd
        obtain rfl : (j : Int) = R := by simpa using hd
        have hltz : (j : Int) < (n : Int) := by omega
        clear hd hpx
        go_wp2_with fail
        refine kp.mono ?_
        rintro e w1 ⟨rfl, f1⟩
        have f1H : Hidden (Fr (fun _ => False) wr w1) := f1
        clear f1
        go_wp2
        go_ret
        exact ⟨rfl, Fr.same hfH f1H⟩
    · obtain rfl : j = n := by omega
      rw [List.drop_eq_nil_of_le (by omega)] at hd
      obtain rfl : (-1 : Int) = R := hd
      clear hn' hf
      go_wp2
      go_ret
      exact ⟨rfl, hfH⟩

set_option maxHeartbeats 1000000 in
theorem ifuncZA (g : Nat) (lb : Array Value) (eg : ∀ args w, (callFunc g args).run Tryz.prog w = .ok (.enter g args) w) (ao : Option Addr) (n cap : Nat) (l : List (Int)) (p : Int → Bool) (R : Int) (w : World) (hn : Hidden (l.length = n)) (h1 : n ≤ cap) (h2 : cap ≤ 9223372036854775807)
    (ha : Hidden (l = [] ∨ ∃ b off, ao = some ⟨b, off, none⟩ ∧ ∀ (i : Nat) (x : Int), l[i]? = some x → w.cell? ⟨b, off + i, none⟩ = some (ci x)))
    (hp : ∀ W, Fr (fun _ => False) w W → ∀ x ∈ l, Calls Tryz.prog g (#[ci x] ++ lb) W fun e w' => e = .returned (.bool (p x)) ∧ Fr (fun _ => False) W w') (hR : Hidden (idxP p l 0 = R)) :
    Calls Tryz.prog 104 #[.slice ao n cap, .func (.func g) #[] lb] w fun e w' => e = .returned (.int .i64 R) ∧ Fr (fun _ => False) w w' := by
  go_enter Tryz.func104, Tryz.ntmps104
  go_wp2
  go_loopg [5, 8] n (fun k _ iv wr => ∃ j : Nat, iv = .int .i64 (j : Int) ∧ j ≤ n ∧ k = n - j ∧ Fr (fun _ => False) w wr ∧ idxP p (l.drop j) j = R)
  case atStart => exact ⟨0, rfl, by omega, rfl, Fr.refl _ _, hR⟩
  case round =>
    obtain ⟨j, rfl, hj, hk, hf, hd⟩ := hrel
    have hkH : Hidden (gk = n - j) := hk
    have hfH : Hidden (Fr (fun _ => False) w wr) := hf
    have hn' : l.length = n := hn
    clear hk hR
    by_cases hjl : j < n
    · obtain ⟨x, hx⟩ : ∃ x, l[j]? = some x := ⟨l[j], List.getElem?_eq_getElem (by omega)⟩
      rcases (show l = [] ∨ _ from ha) with h0 | ⟨b, o, rfl, hc⟩
      · rw [h0] at hx; simp at hx
      have c1 := hf.cellN (hc j x hx)
      have kp := hp wr hf x (List.mem_of_getElem? hx)
      clear hp
      rw [drop_at hx, idxP] at hd
      clear hc hn' hx hf
      cases hpx : p x
      · rw [hpx] at kp hd
        have hdH : Hidden (idxP p (l.drop (j + 1)) (j + 1) = R) := by show _ = _; simpa using hd
        have hltz : (j : Int) < (n : Int) := by omega
        clear hd hpx
        go_wp2_with fail
        refine kp.mono ?_
        rintro e w1 ⟨rfl, f1⟩
        have f1H : Hidden (Fr (fun _ => False) wr w1) := f1
        clear f1
        go_wp2
        go_roundg (n - (j + 1))
        case measure => have := (show gk = n - j from hkH); omega
        case rel => exact ⟨j + 1, by go_num, by omega, rfl, Fr.same hfH f1H, hdH⟩
      · rw [hpx] at kp hd
        obtain rfl : (j : Int) = R := by simpa using hd
        have hltz : (j : Int) < (n : Int) := by omega
        clear hd hpx
        go_wp2_with fail
        refine kp.mono ?_
        rintro e w1 ⟨rfl, f1⟩
        have f1H : Hidden (Fr (fun _ => False) wr w1) := f1
        clear f1
        go_wp2
        go_ret
        exact ⟨rfl, Fr.same hfH f1H⟩
    · obtain rfl : j = n := by omega
      rw [List.drop_eq_nil_of_le (by omega)] at hd
      obtain rfl : (-1 : Int) = R := hd
      clear hn' hf
      go_wp2
      go_ret
      exact ⟨rfl, hfH⟩

theorem cfuncZA (g : Nat) (lb : Array Value) (eg : ∀ args w, (callFunc g args).run Tryz.prog w = .ok (.enter g args) w) (ao : Option Addr) (n cap : Nat) (l : List (Int)) (p : Int → Bool) (r' : Bool) (w : World) (hn : Hidden (l.length = n)) (h1 : n ≤ cap) (h2 : cap ≤ 9223372036854775807)
    (ha : Hidden (l = [] ∨ ∃ b off, ao = some ⟨b, off, none⟩ ∧ ∀ (i : Nat) (x : Int), l[i]? = some x → w.cell? ⟨b, off + i, none⟩ = some (ci x)))
    (hp : ∀ W, Fr (fun _ => False) w W → ∀ x ∈ l, Calls Tryz.prog g (#[ci x] ++ lb) W fun e w' => e = .returned (.bool (p x)) ∧ Fr (fun _ => False) W w') (hr : Hidden (l.any p = r')) :
    Calls Tryz.prog 89 #[.slice ao n cap, .func (.func g) #[] lb] w fun e w' => e = .returned (.bool r') ∧ Fr (fun _ => False) w w' := by
  obtain ⟨R, hR⟩ : ∃ R, idxP p l 0 = R := ⟨_, rfl⟩
  have ki := ifuncZA g lb eg ao n cap l p R w hn h1 h2 ha hp hR
  obtain rfl : decide (0 ≤ R) = r' := by rw [← hR, idxP_any]; exact hr
  clear hn ha hp hr hR
  go_enter Tryz.func89, Tryz.ntmps89
  go_wp2_with (go_at_call 104; refine ki.mono ?_; rintro e w1 ⟨rfl, f1⟩; have f1H : Hidden (Fr (fun _ => False) w w1) := f1; clear f1)
  go_ret
  exact ⟨rfl, f1H⟩
end Go.Proofs.YtoiglopilpoafaaGreatDoor.Cd

namespace Go.Proofs.YtoiglopilpoafaaGreatDoor.Cd
open Go.RowKit Ty
set_option linter.unusedSimpArgs false
set_option linter.unusedVariables false

theorem ofvals_any (t : Int) (w : World) : Calls Tryz.prog 91 #[ci t] w fun e w' => e = .returned (.bool (valued t)) ∧ w' = w := by
  have key : valued t = (decide (1 ≤ t) && decide (t ≤ 3)) := by
    rw [Bool.eq_iff_iff, valued_iff]
    simp
    omega
  rw [key]
  by_cases h1 : 1 ≤ t
  · have h1b : decide (1 ≤ t) = true := by simpa using h1
    go_enter Tryz.func91, Tryz.ntmps91
    go_wp2
    all_goals
      go_ret
      refine ⟨ret_bl ?_, rfl⟩
      simp_all
  · have h1b : decide (1 ≤ t) = false := by simpa using h1
    rw [h1b]
    go_enter Tryz.func91, Tryz.ntmps91
    go_wp2
    all_goals
      go_ret
      exact ⟨rfl, rfl⟩
theorem notof_any (t : Int) (w : World) : Calls Tryz.prog 90 #[ci t] w fun e w' => e = .returned (.bool (!valued t)) ∧ w' = w := by
  have kv := fun w => ofvals_any t w
  generalize valued t = v at kv ⊢
  go_enter Tryz.func90, Tryz.ntmps90
  go_wp2_with (go_at_call 91; refine (kv _).mono ?_; rintro e w1 ⟨rfl, rfl⟩)
  go_ret
  exact ⟨rfl, rfl⟩
theorem any_not (l : List Int) : l.any (fun t => !valued t) = !l.all valued := by
  induction l with
  | nil => rfl
  | cons x r ih => simp [ih, Bool.not_and]
set_option maxRecDepth 20000 in
theorem allof_any (ao : Option Addr) (n cap : Nat) (l : List Int) (w : World) (hn : n = l.length) (h : InL w ao cap l) :
    Calls Tryz.prog 69 #[.slice ao n cap] w fun e w' => e = .returned (.bool (l.all valued)) ∧ Fr (fun _ => False) w w' := by
  have kc := cfuncZA 90 #[] (fun _ _ => rfl) ao n cap l (fun t => !valued t) (!l.all valued) w hn.symm (by rw [hn]; exact h.1) (by have := h.2.1; simpa [maxLen] using this) h.2.2.2
    (fun W _ x _ => (notof_any x W).mono (fun e w' g => ⟨g.1, by rw [g.2]; exact Fr.refl _ _⟩)) (any_not l)
  generalize l.all valued = r at kc ⊢
  clear hn h
  go_enter Tryz.func69, Tryz.ntmps69
  go_wp2_with (go_at_call 89; refine kc.mono ?_; rintro e w1 ⟨rfl, f1⟩)
  go_ret
  exact ⟨ret_bl (by simp), f1⟩
/-- A signature in memory. -/
def SgI (w : World) (s : Sg) (v : Value) : Prop := ∃ ao cap, v = .agg #[.slice ao s.ps.length cap, ci s.res] ∧ InL w ao cap s.ps
set_option maxRecDepth 20000 in
set_option maxHeartbeats 1000000 in
theorem rsig_any (s : Sg) (v : Value) (w : World) (h : SgI w s v) : Calls Tryz.prog 70 #[v] w fun e w' => e = .returned (.bool (sgS s)) ∧ Fr (fun _ => False) w w' := by
  obtain ⟨ao, cap, rfl, hl⟩ := h
  obtain ⟨ps, res⟩ := s
  simp only [] at hl ⊢
  obtain ⟨n, hn⟩ : ∃ n, n = ps.length := ⟨_, rfl⟩
  rw [← hn]
  have ka : Calls Tryz.prog 69 #[.slice ao n cap] (w.alloc (.cells #[.slice ao n cap, ci res] 43 (0, 0))) fun e w' => e = .returned (.bool (ps.all valued)) ∧ Fr (fun _ => False) (w.alloc (.cells #[.slice ao n cap, ci res] 43 (0, 0))) w' := allof_any ao n cap ps _ hn (hl.keep (Fr.alloc _ _ _))
  have kv := fun w => ofvals_any res w
  have es : sgS ⟨ps, res⟩ = (ps.all valued && (res == 0 || valued res)) := rfl
  rw [es]
  clear es hn hl
  generalize ps.all valued = r at ka ⊢
  generalize valued res = rv at kv ⊢
  by_cases h0 : res = 0
  · subst h0
    cases r
    all_goals
      go_enter Tryz.func70, Tryz.ntmps70
      go_wp2_with (first
        | (go_at_call 69; refine ka.mono ?_; rintro e w1 ⟨rfl, f1⟩
           have hb := f1.heap (alloc_new _ _) (fun f => f)
           have c1 := cell_of_row _ _ 1 _ _ _ hb
           clear hb))
      go_ret
      exact ⟨rfl, (Fr.alloc _ _ _).same f1⟩
  · have h0b : (res == 0) = false := by simp [h0]
    rw [h0b]
    clear h0
    cases r
    all_goals
      go_enter Tryz.func70, Tryz.ntmps70
      go_wp2_with (first
        | (go_at_call 69; refine ka.mono ?_; rintro e w1 ⟨rfl, f1⟩
           have hb := f1.heap (alloc_new _ _) (fun f => f)
           have c1 := cell_of_row _ _ 1 _ _ _ hb
           clear hb)
        | (go_at_call 91; refine (kv _).mono ?_; rintro e w2 ⟨rfl, rfl⟩))
      go_ret
      exact ⟨ret_bl (by simp), (Fr.alloc _ _ _).same f1⟩
set_option maxRecDepth 20000 in
theorem wrong_any (i : In) (hb : U64 i.b) (w : World) : Calls Tryz.prog 52 #[inV i] w fun e w' => e = .returned (.bool (!rightS i)) ∧ Fr (fun _ => False) w w' := by
  have kr := fun w => right_any i hb w
  generalize rightS i = r at kr ⊢
  obtain ⟨op, n, t, b⟩ := i
  go_enter Tryz.func52, Tryz.ntmps52
  go_wp2_with (go_at_call 53; refine (kr _).mono ?_; rintro e w1 ⟨rfl, f1⟩)
  go_ret
  exact ⟨rfl, (Fr.alloc _ _ _).same f1⟩
set_option maxRecDepth 20000 in
/-- The first instruction that is not right. -/
theorem firstbad_any (ao : Option Addr) (n cap : Nat) (l : List In) (w : World) (hn : n = l.length) (h : IL w ao cap l) (hok : ∀ i ∈ l, U64 i.b) :
    Calls Tryz.prog 54 #[.slice ao n cap, .func (.func 52) #[] #[]] w fun e w' => e = .returned (ci (idxP (fun i => !rightS i) l 0)) ∧ Fr (fun _ => False) w w' :=
  ifuncIA 52 #[] (fun _ _ => rfl) ao n cap l (fun i => !rightS i) _ w hn.symm (by rw [hn]; exact h.1) (by have := h.2.1; simpa [maxLen] using this) h.2.2.2 (fun W _ x hx => wrong_any x (hok x hx) W) rfl
end Go.Proofs.YtoiglopilpoafaaGreatDoor.Cd
