/- slices.IndexFunc, slices.ContainsFunc: of a predicate that leaves what was there as it was. -/
import Derived.Test.YtphpmaimgndjmaaDoorCdNAll
import Derived.Deep.QuietTactic
import Derived.BigQuiet
namespace Go.Proofs.YtphpmaimgndjmaaDoor.Cd
open Go.RowKit Ty
set_option linter.unusedSimpArgs false
set_option linter.unusedVariables false

/-- The place of the first of which p holds, from a place on; -1: none. -/
def idxP {α : Type} (p : α → Bool) : List α → Nat → Int
  | [], _ => -1
  | x :: r, i => if p x = true then (i : Int) else idxP p r (i + 1)
theorem idxP_spec {α : Type} (p : α → Bool) : ∀ (l : List α) (i : Nat), ((∀ x ∈ l, p x = false) ∧ idxP p l i = -1 ∧ l.findIdx? p = none) ∨ ∃ k x, l[k]? = some x ∧ p x = true ∧ idxP p l i = ((i + k : Nat) : Int) ∧ l.findIdx? p = some k
  | [], i => Or.inl ⟨by simp, rfl, rfl⟩
  | x :: r, i => by
    unfold idxP
    by_cases h : p x = true
    · rw [if_pos h]
      exact Or.inr ⟨0, x, rfl, h, by simp, by simp [List.findIdx?_cons, h]⟩
    · rw [if_neg h]
      have h' : p x = false := by simpa using h
      rcases idxP_spec p r (i + 1) with ⟨h1, h2, h3⟩ | ⟨k, y, h1, h2, h3, h4⟩
      · refine Or.inl ⟨fun y hy => ?_, h2, by simp [List.findIdx?_cons, h', h3]⟩
        rcases List.mem_cons.1 hy with rfl | hy
        · exact h'
        · exact h1 y hy
      · exact Or.inr ⟨k + 1, y, by simpa using h1, h2, by rw [h3]; congr 1; omega, by simp [List.findIdx?_cons, h', h4]⟩
theorem idxP_any {α : Type} (p : α → Bool) (l : List α) : decide (0 ≤ idxP p l 0) = l.any p := by
  rcases idxP_spec p l 0 with ⟨h1, h2, _⟩ | ⟨k, x, h1, h2, h3, _⟩
  · rw [h2]
    have : l.any p = false := by rw [List.any_eq_false]; intro x hx; simp [h1 x hx]
    rw [this]; rfl
  · rw [h3]
    have : l.any p = true := List.any_eq_true.2 ⟨x, List.mem_of_getElem? h1, h2⟩
    rw [this]; simp


set_option maxHeartbeats 1000000 in
theorem ifuncIA (g : Nat) (lb : Array Value) (eg : ∀ args w, (callFunc g args).run Tryd.prog w = .ok (.enter g args) w) (ao : Option Addr) (n cap : Nat) (l : List (In)) (p : In → Bool) (R : Int) (w : World) (hn : Hidden (l.length = n)) (h1 : n ≤ cap) (h2 : cap ≤ 9223372036854775807)
    (ha : Hidden (l = [] ∨ ∃ b off, ao = some ⟨b, off, none⟩ ∧ ∀ (i : Nat) (x : In), l[i]? = some x → ∀ (j : Nat) (u : Value), (inC x)[j]? = some u → w.cell? ⟨b, off + i * 4 + j, none⟩ = some u))
    (hp : ∀ W, Fr (fun _ => False) w W → ∀ x ∈ l, Calls Tryd.prog g (#[inV x] ++ lb) W fun e w' => e = .returned (.bool (p x)) ∧ Fr (fun _ => False) W w') (hR : Hidden (idxP p l 0 = R)) :
    Calls Tryd.prog 28 #[.slice ao n cap, .func (.func g) #[] lb] w fun e w' => e = .returned (.int .i64 R) ∧ Fr (fun _ => False) w w' := by
  go_enter Tryd.func28, Tryd.ntmps28
  go_wp2
  go_loopg [5, 8] n (fun k _ iv wr => ∃ j : Nat, iv = .int .i64 (j : Int) ∧ j ≤ n ∧ k = n - j ∧ Fr (fun _ => False) w wr ∧ idxP p (l.drop j) j = R)
  case atStart => exact ⟨0, rfl, by omega, rfl, Fr.refl _ _, hR⟩
  case round =>
    obtain ⟨j, rfl, hj, hk, hf, hd⟩ := hrel
    have hkH : Hidden (gk = n - j) := hk
    have hfH : Hidden (Fr (fun _ => False) w wr) := hf
    have hn' : l.length = n := hn
    clear hk hR
    by_cases hjl : j < n
    · obtain ⟨x, hx⟩ : ∃ x, l[j]? = some x := ⟨l[j], List.getElem?_eq_getElem (by omega)⟩
      rcases (show l = [] ∨ _ from ha) with h0 | ⟨b, o, rfl, hc⟩
      · rw [h0] at hx; simp at hx
      obtain ⟨c0, c1, c2, c3⟩ := IL.at' (cap := cap) (fun i x hx j u hu => hf.cellN (hc i x hx j u hu)) hx
      have kp := hp wr hf x (List.mem_of_getElem? hx)
      clear hp
      rw [drop_at hx, idxP] at hd
      clear hc hn' hx hf
      cases hpx : p x
      · rw [hpx] at kp hd
        have hdH : Hidden (idxP p (l.drop (j + 1)) (j + 1) = R) := by show _ = _; simpa using hd
        have hltz : (j : Int) < (n : Int) := by omega
        clear hd hpx
        go_wp2_with fail
        refine kp.mono ?_
        rintro e w1 ⟨rfl, f1⟩
        have f1H : Hidden (Fr (fun _ => False) wr w1) := f1
        clear f1
        go_wp2
        go_roundg (n - (j + 1))
        case measure => have := (show gk = n - j from hkH); omega
        case rel => exact ⟨j + 1, by go_num, by omega, rfl, Fr.same hfH f1H, hdH⟩
      · rw [hpx] at kp hd
        obtain rfl : (j : Int) = R := by simpa using hd
        have hltz : (j : Int) < (n : Int) := by omega
        clear hd hpx
        go_wp2_with fail
        refine kp.mono ?_
        rintro e w1 ⟨rfl, f1⟩
        have f1H : Hidden (Fr (fun _ => False) wr w1) := f1
        clear f1
        go_wp2
        go_ret
        exact ⟨rfl, Fr.same hfH f1H⟩
    · obtain rfl : j = n := by omega
      rw [List.drop_eq_nil_of_le (by omega)] at hd
      obtain rfl : (-1 : Int) = R := hd
      clear hn' hf
      go_wp2
      go_ret
      exact ⟨rfl, hfH⟩

set_option maxHeartbeats 1000000 in
theorem ifuncZA (g : Nat) (lb : Array Value) (eg : ∀ args w, (callFunc g args).run Tryd.prog w = .ok (.enter g args) w) (ao : Option Addr) (n cap : Nat) (l : List (Int)) (p : Int → Bool) (R : Int) (w : World) (hn : Hidden (l.length = n)) (h1 : n ≤ cap) (h2 : cap ≤ 9223372036854775807)
    (ha : Hidden (l = [] ∨ ∃ b off, ao = some ⟨b, off, none⟩ ∧ ∀ (i : Nat) (x : Int), l[i]? = some x → w.cell? ⟨b, off + i, none⟩ = some (ci x)))
    (hp : ∀ W, Fr (fun _ => False) w W → ∀ x ∈ l, Calls Tryd.prog g (#[ci x] ++ lb) W fun e w' => e = .returned (.bool (p x)) ∧ Fr (fun _ => False) W w') (hR : Hidden (idxP p l 0 = R)) :
    Calls Tryd.prog 64 #[.slice ao n cap, .func (.func g) #[] lb] w fun e w' => e = .returned (.int .i64 R) ∧ Fr (fun _ => False) w w' := by
  go_enter Tryd.func64, Tryd.ntmps64
  go_wp2
  go_loopg [5, 8] n (fun k _ iv wr => ∃ j : Nat, iv = .int .i64 (j : Int) ∧ j ≤ n ∧ k = n - j ∧ Fr (fun _ => False) w wr ∧ idxP p (l.drop j) j = R)
  case atStart => exact ⟨0, rfl, by omega, rfl, Fr.refl _ _, hR⟩
  case round =>
    obtain ⟨j, rfl, hj, hk, hf, hd⟩ := hrel
    have hkH : Hidden (gk = n - j) := hk
    have hfH : Hidden (Fr (fun _ => False) w wr) := hf
    have hn' : l.length = n := hn
    clear hk hR
    by_cases hjl : j < n
    · obtain ⟨x, hx⟩ : ∃ x, l[j]? = some x := ⟨l[j], List.getElem?_eq_getElem (by omega)⟩
      rcases (show l = [] ∨ _ from ha) with h0 | ⟨b, o, rfl, hc⟩
      · rw [h0] at hx; simp at hx
      have c1 := hf.cellN (hc j x hx)
      have kp := hp wr hf x (List.mem_of_getElem? hx)
      clear hp
      rw [drop_at hx, idxP] at hd
      clear hc hn' hx hf
      cases hpx : p x
      · rw [hpx] at kp hd
        have hdH : Hidden (idxP p (l.drop (j + 1)) (j + 1) = R) := by show _ = _; simpa using hd
        have hltz : (j : Int) < (n : Int) := by omega
        clear hd hpx
        go_wp2_with fail
        refine kp.mono ?_
        rintro e w1 ⟨rfl, f1⟩
        have f1H : Hidden (Fr (fun _ => False) wr w1) := f1
        clear f1
        go_wp2
        go_roundg (n - (j + 1))
        case measure => have := (show gk = n - j from hkH); omega
        case rel => exact ⟨j + 1, by go_num, by omega, rfl, Fr.same hfH f1H, hdH⟩
      · rw [hpx] at kp hd
        obtain rfl : (j : Int) = R := by simpa using hd
        have hltz : (j : Int) < (n : Int) := by omega
        clear hd hpx
        go_wp2_with fail
        refine kp.mono ?_
        rintro e w1 ⟨rfl, f1⟩
        have f1H : Hidden (Fr (fun _ => False) wr w1) := f1
        clear f1
        go_wp2
        go_ret
        exact ⟨rfl, Fr.same hfH f1H⟩
    · obtain rfl : j = n := by omega
      rw [List.drop_eq_nil_of_le (by omega)] at hd
      obtain rfl : (-1 : Int) = R := hd
      clear hn' hf
      go_wp2
      go_ret
      exact ⟨rfl, hfH⟩

theorem cfuncZA (g : Nat) (lb : Array Value) (eg : ∀ args w, (callFunc g args).run Tryd.prog w = .ok (.enter g args) w) (ao : Option Addr) (n cap : Nat) (l : List (Int)) (p : Int → Bool) (r' : Bool) (w : World) (hn : Hidden (l.length = n)) (h1 : n ≤ cap) (h2 : cap ≤ 9223372036854775807)
    (ha : Hidden (l = [] ∨ ∃ b off, ao = some ⟨b, off, none⟩ ∧ ∀ (i : Nat) (x : Int), l[i]? = some x → w.cell? ⟨b, off + i, none⟩ = some (ci x)))
    (hp : ∀ W, Fr (fun _ => False) w W → ∀ x ∈ l, Calls Tryd.prog g (#[ci x] ++ lb) W fun e w' => e = .returned (.bool (p x)) ∧ Fr (fun _ => False) W w') (hr : Hidden (l.any p = r')) :
    Calls Tryd.prog 48 #[.slice ao n cap, .func (.func g) #[] lb] w fun e w' => e = .returned (.bool r') ∧ Fr (fun _ => False) w w' := by
  obtain ⟨R, hR⟩ : ∃ R, idxP p l 0 = R := ⟨_, rfl⟩
  have ki := ifuncZA g lb eg ao n cap l p R w hn h1 h2 ha hp hR
  obtain rfl : decide (0 ≤ R) = r' := by rw [← hR, idxP_any]; exact hr
  clear hn ha hp hr hR
  go_enter Tryd.func48, Tryd.ntmps48
  go_wp2_with (go_at_call 64; refine ki.mono ?_; rintro e w1 ⟨rfl, f1⟩; have f1H : Hidden (Fr (fun _ => False) w w1) := f1; clear f1)
  go_ret
  exact ⟨rfl, f1H⟩
end Go.Proofs.YtphpmaimgndjmaaDoor.Cd
