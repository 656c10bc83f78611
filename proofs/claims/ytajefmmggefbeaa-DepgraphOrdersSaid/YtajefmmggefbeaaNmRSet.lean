/- The document's Set, Union, Minus, Both. -/
import Derived.Test.YtajefmmggefbeaaNmPut
namespace Go.Proofs.Ytajefmmggefbeaa
open Go.RowKit Go.Sort
set_option linter.unusedSimpArgs false
set_option linter.unusedVariables false

theorem To.lower {w : World} {B B' : Nat} {v : Value} {l : List Str} (h : To w B v l) (hb : B' ≤ B) : To w B' v l := by
  refine ⟨h.1, ?_⟩
  rcases h.2 with h0 | ⟨g, cap, cur, rfl, hB, rest⟩
  · exact Or.inl h0
  · exact Or.inr ⟨g, cap, cur, rfl, by omega, rest⟩
theorem Tl.cellAt {w : World} {ao : Option Addr} {n cap : Nat} {l : List Str} (h : Tl w (.slice ao n cap) l) : l = [] ∨ ∃ b off, ao = some ⟨b, off, none⟩ ∧ ∀ (i : Nat) (x : Str), l[i]? = some x → w.cell? ⟨b, off + i, none⟩ = some (encStr x) := by
  obtain ⟨ao', cap', e, _, _, _, h4⟩ := h
  cases e
  exact h4
theorem take_next {α : Type} {l : List α} {j : Nat} {x : α} (h : l[j]? = some x) : l.take (j + 1) = l.take j ++ [x] := by
  rw [List.take_add_one, h]
  rfl
theorem foldl_len : ∀ (b a : List Str), (b.foldl putS a).length ≤ a.length + b.length
  | [], a => by simp
  | s :: b, a => by
    have := foldl_len b (putS a s)
    have := putS_len a s
    rw [List.foldl_cons, List.length_cons]
    omega
theorem mem_fold {a b : List Str} {x : Str} (ha : SS a) (h : x ∈ b.foldl putS a) : x ∈ a ∨ x ∈ b := ((foldl_put b a ha).2 x).1 h

set_option maxHeartbeats 1000000 in
theorem rset_walk (ao : Option Addr) (n cap : Nat) (l : List Str) (w : World) (hn : Hidden (l.length = n)) (h1 : n ≤ cap) (h2 : cap ≤ 9223372036854775807) (hsm : n ≤ 4194304)
    (hv : Hidden (Tl w (.slice ao n cap) l)) (hx : Hidden (∀ x ∈ l, x.length ≤ 9223372036854775807)) :
    Calls Try.prog 39 #[.slice ao n cap] w fun e w' => ∃ v', e = .returned v' ∧ To w' w.heap.size v' (setS l) ∧ Fr (fun _ => False) w w' := by
  go_enter Try.func39, Try.ntmps39
  go_wp2
  go_loopg [3, 4] n (fun k ov iv wr => ∃ j : Nat, iv = .int .i64 (j : Int) ∧ j ≤ n ∧ k = n - j ∧ To wr w.heap.size ov ((l.take j).foldl putS []) ∧ Fr (fun _ => False) w wr)
  case atStart => exact ⟨0, rfl, by omega, rfl, To.nil _ _, Fr.refl _ _⟩
  case round =>
    obtain ⟨j, rfl, hj, hk, ht, hf⟩ := hrel
    have hkH : Hidden (gk = n - j) := hk
    have htH : Hidden (To wr w.heap.size u3 ((l.take j).foldl putS [])) := ht
    have hfH : Hidden (Fr (fun _ => False) w wr) := hf
    have hn' : l.length = n := hn
    clear hk
    by_cases hjl : j < n
    · obtain ⟨x, hxj⟩ : ∃ x, l[j]? = some x := ⟨l[j], List.getElem?_eq_getElem (by omega)⟩
      have hxl := (show ∀ x ∈ l, x.length ≤ 9223372036854775807 from hx) x (List.mem_of_getElem? hxj)
      rcases ((show Tl w _ l from hv).later hf).cellAt with h0 | ⟨b, off, rfl, hc⟩
      · rw [h0] at hxj; simp at hxj
      have c1 := hc j x hxj
      have kp := rput_any u3 _ x wr ht.tn.tl (by have := foldl_len (l.take j) []; rw [List.length_take] at this; simp at this; omega) hxl (fun y hy => (show ∀ x ∈ l, x.length ≤ 9223372036854775807 from hx) y (by
        rcases mem_fold List.Pairwise.nil hy with h | h
        · cases h
        · exact List.mem_of_mem_take h))
      have e1 : putS ((l.take j).foldl putS []) x = (l.take (j + 1)).foldl putS [] := by rw [take_next hxj, List.foldl_append]; rfl
      rw [e1] at kp
      clear hc hn' hxj ht hf e1 hxl
      go_wp2_with (go_at_call 65; refine kp.mono ?_; rintro e w1 ⟨v1, rfl, t1, f1⟩)
      go_roundg (n - (j + 1))
      case measure => have := (show gk = n - j from hkH); omega
      case rel => exact ⟨j + 1, by go_num, by omega, rfl, t1.lower (show Fr (fun _ => False) w wr from hfH).size, (show Fr (fun _ => False) w wr from hfH).same f1⟩
    · obtain rfl : j = n := by omega
      have e1 : l.take j = l := List.take_of_length_le (by omega)
      have t1 : To wr w.heap.size u3 (setS l) := by rw [← foldl_put_set, ← e1]; exact ht
      clear ht hf hn' e1
      go_wp2_with fail
      go_ret
      exact ⟨_, rfl, t1, hfH⟩
theorem rset_any (v : Value) (l : List Str) (w : World) (h : Tl w v l) (hl : l.length ≤ 4194304) (hx : ∀ x ∈ l, x.length ≤ 9223372036854775807) :
    Calls Try.prog 39 #[v] w fun e w' => ∃ v', e = .returned v' ∧ To w' w.heap.size v' (setS l) ∧ Fr (fun _ => False) w w' := by
  obtain ⟨ao, cap, rfl, h1, h2, h3, h4⟩ := id h
  exact rset_walk ao _ cap l w rfl h1 h2 hl h hx

set_option maxHeartbeats 1000000 in
theorem runion_walk (va : Value) (bo : Option Addr) (nb cb : Nat) (a b : List Str) (w : World) (hn : Hidden (b.length = nb)) (h1 : nb ≤ cb) (h2 : cb ≤ 9223372036854775807) (hsm : nb ≤ 2097152) (hsa : Hidden (a.length ≤ 2097152))
    (hv : Hidden (Tl w (.slice bo nb cb) b)) (hx : Hidden (∀ x ∈ b, x.length ≤ 9223372036854775807)) (hxa : Hidden (∀ x ∈ a, x.length ≤ 9223372036854775807)) (hva : Tl w va a) :
    Calls Try.prog 69 #[va, .slice bo nb cb] w fun e w' => ∃ v', e = .returned v' ∧ To w' w.heap.size v' (setS (a ++ b)) ∧ Fr (fun _ => False) w w' := by
  have ks := rset_any va a w hva (by have : a.length ≤ 2097152 := hsa; omega) hxa
  obtain ⟨ao, ca, rfl, a1, a2, _, _⟩ := hva
  obtain ⟨na, hna⟩ : ∃ n, a.length = n := ⟨_, rfl⟩
  rw [hna] at ks a1 ⊢
  clear hna
  go_enter Try.func69, Try.ntmps69
  go_wp2_with (go_at_call 39; refine ks.mono ?_; rintro e w0 ⟨v0, rfl, t0, f0⟩)
  have t0H : Hidden (To w0 w.heap.size v0 (setS a)) := t0
  have f0H : Hidden (Fr (fun _ => False) w w0) := f0
  clear ks t0 f0
  go_loopg [5, 6] nb (fun k ov iv wr => ∃ j : Nat, iv = .int .i64 (j : Int) ∧ j ≤ nb ∧ k = nb - j ∧ To wr w.heap.size ov ((b.take j).foldl putS (setS a)) ∧ Fr (fun _ => False) w wr)
  case atStart => exact ⟨0, rfl, by omega, rfl, t0H, f0H⟩
  case round =>
    obtain ⟨j, rfl, hj, hk, ht, hf⟩ := hrel
    have hkH : Hidden (gk = nb - j) := hk
    have hfH : Hidden (Fr (fun _ => False) w wr) := hf
    have hn' : b.length = nb := hn
    clear hk t0H f0H
    by_cases hjl : j < nb
    · obtain ⟨x, hxj⟩ : ∃ x, b[j]? = some x := ⟨b[j], List.getElem?_eq_getElem (by omega)⟩
      have hxl := (show ∀ x ∈ b, x.length ≤ 9223372036854775807 from hx) x (List.mem_of_getElem? hxj)
      rcases ((show Tl w _ b from hv).later hf).cellAt with h0 | ⟨bb, off, rfl, hc⟩
      · rw [h0] at hxj; simp at hxj
      have c1 := hc j x hxj
      have kp := rput_any u5 _ x wr ht.tn.tl (by
        have := foldl_len (b.take j) (setS a)
        have h3 := setS_len a
        have h4 : a.length ≤ 2097152 := hsa
        rw [List.length_take] at this
        omega) hxl (fun y hy => by
        rcases mem_fold (setS_ss a) hy with h | h
        · exact (show ∀ x ∈ a, x.length ≤ 9223372036854775807 from hxa) y (mem_setS.1 h)
        · exact (show ∀ x ∈ b, x.length ≤ 9223372036854775807 from hx) y (List.mem_of_mem_take h))
      have e1 : putS ((b.take j).foldl putS (setS a)) x = (b.take (j + 1)).foldl putS (setS a) := by rw [take_next hxj, List.foldl_append]; rfl
      rw [e1] at kp
      clear hc hn' hxj ht hf e1 hxl
      go_wp2_with (go_at_call 65; refine kp.mono ?_; rintro e w1 ⟨v1, rfl, t1, f1⟩)
      go_roundg (nb - (j + 1))
      case measure => have := (show gk = nb - j from hkH); omega
      case rel => exact ⟨j + 1, by go_num, by omega, rfl, t1.lower (show Fr (fun _ => False) w wr from hfH).size, (show Fr (fun _ => False) w wr from hfH).same f1⟩
    · obtain rfl : j = nb := by omega
      have e1 : b.take j = b := List.take_of_length_le (by omega)
      have t1 : To wr w.heap.size u5 (setS (a ++ b)) := by rw [← foldl_put_union]; rw [e1] at ht; exact ht
      clear ht hf hn' e1
      go_wp2_with fail
      go_ret
      exact ⟨_, rfl, t1, hfH⟩
theorem runion_any (va vb : Value) (a b : List Str) (w : World) (ha : Tl w va a) (hb : Tl w vb b) (la : a.length ≤ 2097152) (lb : b.length ≤ 2097152) (xa : ∀ x ∈ a, x.length ≤ 9223372036854775807) (xb : ∀ x ∈ b, x.length ≤ 9223372036854775807) :
    Calls Try.prog 69 #[va, vb] w fun e w' => ∃ v', e = .returned v' ∧ To w' w.heap.size v' (setS (a ++ b)) ∧ Fr (fun _ => False) w w' := by
  obtain ⟨bo, cb, rfl, h1, h2, h3, h4⟩ := id hb
  exact runion_walk va bo _ cb a b w rfl h1 h2 lb la hb xb xa ha

theorem filter_next {l : List Str} {j : Nat} {x : Str} (p : Str → Bool) (h : l[j]? = some x) : (l.take (j + 1)).filter p = (l.take j).filter p ++ (if p x then [x] else []) := by
  rw [take_next h, List.filter_append]
  congr 1
  cases hp : p x <;> simp [hp]

set_option maxHeartbeats 2000000 in
theorem chosen_walk (ao : Option Addr) (n cap : Nat) (vb : Value) (l b : List Str) (sh : Bool) (w : World) (hn : Hidden (l.length = n)) (h1 : n ≤ cap) (h2 : cap ≤ 9223372036854775807) (hsm : n ≤ 4194304)
    (hv : Hidden (Tl w (.slice ao n cap) l)) (hb : Hidden (Tl w vb b)) (hbv : Hidden (n ≤ n)) :
    Calls Try.prog 80 #[.slice ao n cap, vb, .bool sh] w fun e w' => ∃ v', e = .returned v' ∧ To w' w.heap.size v' (l.filter fun x => decide (x ∈ b) == sh) ∧ Fr (fun _ => False) w w' := by
  go_enter Try.func80, Try.ntmps80
  go_wp2
  go_loopg [7, 8] n (fun k ov iv wr => ∃ j : Nat, iv = .int .i64 (j : Int) ∧ j ≤ n ∧ k = n - j ∧ To wr w.heap.size ov ((l.take j).filter fun x => decide (x ∈ b) == sh) ∧ Fr (fun _ => False) w wr)
  case atStart => exact ⟨0, rfl, by omega, rfl, To.nil _ _, Fr.refl _ _⟩
  case round =>
    obtain ⟨j, rfl, hj, hk, ht, hf⟩ := hrel
    have hkH : Hidden (gk = n - j) := hk
    have htH : Hidden (To wr w.heap.size u7 ((l.take j).filter fun x => decide (x ∈ b) == sh)) := ht
    have hfH : Hidden (Fr (fun _ => False) w wr) := hf
    have hn' : l.length = n := hn
    clear hk
    by_cases hjl : j < n
    · obtain ⟨x, hxj⟩ : ∃ x, l[j]? = some x := ⟨l[j], List.getElem?_eq_getElem (by omega)⟩
      rcases ((show Tl w _ l from hv).later hf).cellAt with h0 | ⟨bb, off, rfl, hc⟩
      · rw [h0] at hxj; simp at hxj
      have c1 := hc j x hxj
      have kf := rfind_any vb b x _ rfl wr ((show Tl w vb b from hb).later hf)
      rw [findS_mem] at kf
      generalize (findS b x).1 = q at kf
      have hfl := filter_next (fun x => decide (x ∈ b) == sh) hxj
      have hlen : ((l.take j).filter fun x => decide (x ∈ b) == sh).length ≤ 4194304 := by
        refine Nat.le_trans (List.length_filter_le _ _) ?_
        rw [List.length_take]; omega
      have hnx : Hidden (∀ v W, To W w.heap.size v ((l.take j).filter (fun x => decide (x ∈ b) == sh) ++ (if decide (x ∈ b) == sh then [x] else [])) → To W w.heap.size v ((l.take (j + 1)).filter fun x => decide (x ∈ b) == sh)) := fun v W h => by rw [hfl]; exact h
      generalize ((l.take j).filter fun x => decide (x ∈ b) == sh) = F at htH hlen hnx
      generalize decide (x ∈ b) = r at kf hnx
      clear hc hn' hxj ht hf hfl
      cases hrs : (r == sh)
      · rw [hrs] at hnx
        simp only [Bool.false_eq_true, if_false, List.append_nil] at hnx
        go_wp2_with (go_at_call 59; refine kf.mono ?_; rintro e w1 ⟨rfl, rfl⟩)
        go_roundg (n - (j + 1))
        case measure => have := (show gk = n - j from hkH); omega
        case rel => exact ⟨j + 1, by go_num, by omega, rfl, hnx _ _ htH, hfH⟩
      · rw [hrs] at hnx
        simp only [if_true] at hnx
        have hr1 : Hidden ((F.length + [x].length) * 16 ≤ 140737488355328) := by show _ ≤ _; simp only [List.length_singleton]; omega
        clear hlen
        go_wp2_with (first
          | (go_at_call 59; refine kf.mono ?_; rintro e w1 ⟨rfl, rfl⟩; have t1 : To w1 w.heap.size u7 F := htH; have g1 : Fr (fun _ => False) w w1 := hfH)
          | (at_builtin; refine wpList_app rfl _ _ rfl w.heap.size _ _ F [x] rfl (t1.later (Fr.alloc _ _ _)) rfl (Tl.one _ x) (Nat.le_trans (show Fr (fun _ => False) w w1 from g1).size (Fr.alloc (fun _ => False) _ _).size) hr1 ?_; intro v2 w2 t2 f2 _))
        go_roundg (n - (j + 1))
        case measure => have := (show gk = n - j from hkH); omega
        case rel => exact ⟨j + 1, by go_num, by omega, rfl, hnx _ _ t2, app_fr g1 t1 (Fr.alloc _ _ _) f2⟩
    · obtain rfl : j = n := by omega
      have e1 : l.take j = l := List.take_of_length_le (by omega)
      have t1 : To wr w.heap.size u7 (l.filter fun x => decide (x ∈ b) == sh) := by rw [e1] at ht; exact ht
      clear ht hf hn' e1 htH
      go_wp2_with fail
      go_ret
      exact ⟨_, rfl, t1, hfH⟩
theorem chosen_any (va vb : Value) (l b : List Str) (sh : Bool) (w : World) (ha : Tl w va l) (hb : Tl w vb b) (hl : l.length ≤ 4194304) :
    Calls Try.prog 80 #[va, vb, .bool sh] w fun e w' => ∃ v', e = .returned v' ∧ To w' w.heap.size v' (l.filter fun x => decide (x ∈ b) == sh) ∧ Fr (fun _ => False) w w' := by
  obtain ⟨ao, cap, rfl, h1, h2, h3, h4⟩ := id ha
  exact chosen_walk ao _ cap vb l b sh w rfl h1 h2 hl ha hb (Nat.le_refl _)
end Go.Proofs.Ytajefmmggefbeaa
