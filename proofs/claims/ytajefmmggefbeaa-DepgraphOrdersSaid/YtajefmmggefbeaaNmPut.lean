/- The document's Put. -/
import Derived.Test.YtajefmmggefbeaaNmLive
namespace Go.Proofs.Ytajefmmggefbeaa
open Go.RowKit Go.Sort
set_option linter.unusedSimpArgs false
set_option linter.unusedVariables false

theorem app_fr {w wr w1 w2 : World} {ov : Value} {out : List Str} (g : Fr (fun _ => False) w wr) (t : To wr w.heap.size ov out) (f1 : Fr (fun _ => False) wr w1) (f2 : Fr (fun k => ov.ownBlock = some k) w1 w2) : Fr (fun _ => False) w w2 :=
  (g.same f1).over f2 (fun k hk => (t.own k hk).1)
theorem apart_lt {b w : Nat} (h : w ≤ b) (h2 : Hidden (b < w)) : False := by have : b < w := h2; omega
theorem To.later {w w' : World} {B : Nat} {v : Value} {l : List Str} (h : To w B v l) (hf : Fr (fun _ => False) w w') : To w' B v l := h.keep hf (fun _ _ f => f)
theorem Tl.one (w : World) (s : Str) : Tl (w.alloc (.cells #[.string ⟨s.toArray⟩] 9)) (.slice (some ⟨w.heap.size, 0, none⟩) 1 1) [s] := (Tn.lit w [s] (by simp)).tl
theorem cmpS_gt {x y : Str} (h : y < x) : cmpS x y = 1 := by unfold cmpS; rw [if_neg (fun g => Std.lt_irrefl (Std.lt_trans g h)), if_pos h]
theorem cmpS_lt' {x y : Str} (h : x < y) : cmpS x y = -1 := by unfold cmpS; rw [if_pos h]
theorem cmpS_eq (x : Str) : cmpS x x = 0 := by unfold cmpS; rw [if_neg Std.lt_irrefl, if_neg Std.lt_irrefl]

set_option maxHeartbeats 4000000 in
set_option maxRecDepth 20000 in
theorem rput_walk (ao : Option Addr) (n cap : Nat) (l : List Str) (s : Str) (R : List Str) (w : World) (hn : Hidden (l.length = n)) (h1 : n ≤ cap) (h2 : cap ≤ 9223372036854775807) (hsm : n ≤ 8388608)
    (hv : Hidden (Tl w (.slice ao n cap) l)) (hs : s.length ≤ 9223372036854775807) (hx : Hidden (∀ x ∈ l, x.length ≤ 9223372036854775807)) (hR : Hidden (putGo s l [] false = R)) :
    Calls Try.prog 65 #[.slice ao n cap, .string ⟨s.toArray⟩] w fun e w' => ∃ v', e = .returned v' ∧ To w' w.heap.size v' R ∧ Fr (fun _ => False) w w' := by
  go_enter Try.func65, Try.ntmps65
  go_wp2
  go_loopg [5, 6, 7] n (fun k ov dv iv wr => ∃ (j : Nat) (out : List Str) (done : Bool), dv = .bool done ∧ iv = .int .i64 (j : Int) ∧ j ≤ n ∧ k = n - j ∧ To wr w.heap.size ov out ∧ Fr (fun _ => False) w wr ∧ putGo s (l.drop j) out done = R ∧ out.length ≤ 2 * j)
  case atStart => exact ⟨0, [], false, rfl, rfl, by omega, rfl, To.nil _ _, Fr.refl _ _, hR, by simp⟩
  case round =>
    obtain ⟨j, out, done, rfl, rfl, hj, hk, ht, hf, hp, hol⟩ := hrel
    have hkH : Hidden (gk = n - j) := hk
    have htH : Hidden (To wr w.heap.size u5 out) := ht
    have hfH : Hidden (Fr (fun _ => False) w wr) := hf
    have hoH : Hidden (out.length ≤ 2 * j) := hol
    have hn' : l.length = n := hn
    clear hk hR hol
    by_cases hjl : j < n
    · obtain ⟨x, hxj⟩ : ∃ x, l[j]? = some x := ⟨l[j], List.getElem?_eq_getElem (by omega)⟩
      have hxl := (show ∀ x ∈ l, x.length ≤ 9223372036854775807 from hx) x (List.mem_of_getElem? hxj)
      have hL : Tl wr _ l := (show Tl w _ l from hv).later hf
      obtain ⟨ao', cap', e, _, _, _, h4⟩ := hL
      simp only [Value.slice.injEq] at e
      obtain ⟨rfl, h, rfl⟩ := e
      clear h
      rcases h4 with h0 | ⟨b, off, rfl, hc⟩
      · rw [h0] at hxj; simp at hxj
      have c1 := hc j x hxj
      have hcH : Hidden (wr.cell? ⟨b, off + j, none⟩ = some (encStr x)) := c1
      rw [drop_at hxj, putGo] at hp
      have hblH : Hidden (b < wr.heap.size) := World.block_lt_of_cell? wr _ c1
      have hbwH : Hidden (b < w.heap.size) := by
        have hw : Tl w _ l := hv
        obtain ⟨_, _, e, _, _, _, q4⟩ := hw
        cases e
        rcases q4 with h0 | ⟨b', off', e, hc'⟩
        · rw [h0] at hxj; simp at hxj
        · cases e
          exact World.block_lt_of_cell? w _ (hc' j x hxj)
      clear hc hn' hxj ht hf
      rcases Std.lt_trichotomy s x with hsx | hsx | hsx
      · have hne : s ≠ x := fun e => Std.lt_irrefl (e ▸ hsx)
        rw [if_neg hne] at hp
        cases done with
        | true =>
        rw [if_neg (by simp)] at hp
        have hpH : Hidden (putGo s (l.drop (j + 1)) (out ++ [x]) true = R) := hp
        have kc := rcmp_any s x (-1) (cmpS_lt' hsx) hs hxl
        have hr1 : Hidden ((out.length + [x].length) * 16 ≤ 140737488355328) := by
          have : out.length ≤ 2 * j := hoH
          show _ ≤ _
          simp only [List.length_singleton]
          omega
        clear hp hsx hne
        go_wp2_with fail
        refine (kc _).mono ?_
        rintro e w1 ⟨rfl, f1⟩
        have c2 := f1.cell c1 (fun f => f)
        have g1 : Fr (fun _ => False) w w1 := (show Fr (fun _ => False) w wr from hfH).same f1
        have t1 : To w1 w.heap.size u5 out := (show To wr w.heap.size u5 out from htH).later f1
        go_wp2_with (at_builtin; refine wpList_app rfl _ _ rfl w.heap.size _ _ (out) [x] rfl (t1.later (Fr.alloc _ _ _)) rfl (Tl.one _ x) (Nat.le_trans (show Fr (fun _ => False) w w1 from g1).size (Fr.alloc (fun _ => False) _ _).size) hr1 ?_; intro v2 w2 t2 f2 _)
        go_wp2_with fail
        go_roundg (n - (j + 1))
        case measure => have := (show gk = n - j from hkH); omega
        case rel => exact ⟨j + 1, out ++ [x], true, rfl, by go_num, by omega, rfl, t2, app_fr g1 t1 (Fr.alloc _ _ _) f2, hpH, by have : out.length ≤ 2 * j := hoH; rw [List.length_append, List.length_singleton]; omega⟩
        | false =>
        rw [if_pos ⟨hsx, rfl⟩] at hp
        have hpH : Hidden (putGo s (l.drop (j + 1)) (out ++ [s] ++ [x]) true = R) := hp
        have kc := rcmp_any s x (-1) (cmpS_lt' hsx) hs hxl
        have hr1 : Hidden ((out.length + [s].length) * 16 ≤ 140737488355328) := by
          have : out.length ≤ 2 * j := hoH
          show _ ≤ _
          simp only [List.length_singleton]
          omega
        have hr2 : Hidden (((out ++ [s]).length + [x].length) * 16 ≤ 140737488355328) := by
          have : out.length ≤ 2 * j := hoH
          show _ ≤ _
          simp only [List.length_append, List.length_singleton]
          omega
        clear hp hsx hne
        go_wp2_with fail
        refine (kc _).mono ?_
        rintro e w1 ⟨rfl, f1⟩
        have c2 := f1.cell c1 (fun f => f)
        have g1 : Fr (fun _ => False) w w1 := (show Fr (fun _ => False) w wr from hfH).same f1
        have t1 : To w1 w.heap.size u5 out := (show To wr w.heap.size u5 out from htH).later f1
        go_wp2_with (first
          | (at_builtin; have q3 := c3; refine wpList_app rfl _ _ rfl w.heap.size _ _ (out ++ [s]) [x] rfl (t2.later (Fr.alloc _ _ _)) rfl (Tl.one _ x) (Nat.le_trans (show Fr (fun _ => False) w w2 from g2).size (Fr.alloc (fun _ => False) _ _).size) hr2 ?_; intro v3 w3 t3 f3 _)
          | (at_builtin; refine wpList_app rfl _ _ rfl w.heap.size _ _ (out) [s] rfl (t1.later (Fr.alloc _ _ _)) rfl (Tl.one _ s) (Nat.le_trans (show Fr (fun _ => False) w w1 from g1).size (Fr.alloc (fun _ => False) _ _).size) hr1 ?_; intro v2 w2 t2 f2 _; have g2 : Fr (fun _ => False) w w2 := app_fr g1 t1 (Fr.alloc _ _ _) f2; have c3 : w2.cell? ⟨b, off + j, none⟩ = some (encStr x) := f2.cell ((Fr.alloc (fun _ => False) _ _).cell c2 (fun f => f)) (fun hk => apart_lt (t1.own _ hk).1 hbwH)))
        go_wp2_with fail
        go_roundg (n - (j + 1))
        case measure => have := (show gk = n - j from hkH); omega
        case rel => exact ⟨j + 1, out ++ [s] ++ [x], true, rfl, by go_num, by omega, rfl, t3, app_fr g2 t2 (Fr.alloc _ _ _) f3, hpH, by have : out.length ≤ 2 * j := hoH; rw [List.length_append, List.length_append, List.length_singleton, List.length_singleton]; omega⟩
      · subst hsx
        rw [if_pos rfl] at hp
        have hpH : Hidden (putGo s (l.drop (j + 1)) (out ++ [s]) true = R) := hp
        have kc := rcmp_any s s (0) (cmpS_eq s) hs hxl
        have hr1 : Hidden ((out.length + [s].length) * 16 ≤ 140737488355328) := by
          have : out.length ≤ 2 * j := hoH
          show _ ≤ _
          simp only [List.length_singleton]
          omega
        clear hp
        go_wp2_with fail
        refine (kc _).mono ?_
        rintro e w1 ⟨rfl, f1⟩
        have c2 := f1.cell c1 (fun f => f)
        have g1 : Fr (fun _ => False) w w1 := (show Fr (fun _ => False) w wr from hfH).same f1
        have t1 : To w1 w.heap.size u5 out := (show To wr w.heap.size u5 out from htH).later f1
        go_wp2_with (at_builtin; refine wpList_app rfl _ _ rfl w.heap.size _ _ (out) [s] rfl (t1.later (Fr.alloc _ _ _)) rfl (Tl.one _ s) (Nat.le_trans (show Fr (fun _ => False) w w1 from g1).size (Fr.alloc (fun _ => False) _ _).size) hr1 ?_; intro v2 w2 t2 f2 _)
        go_wp2_with fail
        go_roundg (n - (j + 1))
        case measure => have := (show gk = n - j from hkH); omega
        case rel => exact ⟨j + 1, out ++ [s], true, rfl, by go_num, by omega, rfl, t2, app_fr g1 t1 (Fr.alloc _ _ _) f2, hpH, by have : out.length ≤ 2 * j := hoH; rw [List.length_append, List.length_singleton]; omega⟩
      · have hne : s ≠ x := fun e => Std.lt_irrefl (e ▸ hsx)
        rw [if_neg hne, if_neg (fun h => Std.lt_irrefl (Std.lt_trans h.1 hsx))] at hp
        have hpH : Hidden (putGo s (l.drop (j + 1)) (out ++ [x]) done = R) := hp
        have kc := rcmp_any s x (1) (cmpS_gt hsx) hs hxl
        have hr1 : Hidden ((out.length + [x].length) * 16 ≤ 140737488355328) := by
          have : out.length ≤ 2 * j := hoH
          show _ ≤ _
          simp only [List.length_singleton]
          omega
        clear hp hsx hne
        go_wp2_with fail
        refine (kc _).mono ?_
        rintro e w1 ⟨rfl, f1⟩
        have c2 := f1.cell c1 (fun f => f)
        have g1 : Fr (fun _ => False) w w1 := (show Fr (fun _ => False) w wr from hfH).same f1
        have t1 : To w1 w.heap.size u5 out := (show To wr w.heap.size u5 out from htH).later f1
        go_wp2_with (at_builtin; refine wpList_app rfl _ _ rfl w.heap.size _ _ (out) [x] rfl (t1.later (Fr.alloc _ _ _)) rfl (Tl.one _ x) (Nat.le_trans (show Fr (fun _ => False) w w1 from g1).size (Fr.alloc (fun _ => False) _ _).size) hr1 ?_; intro v2 w2 t2 f2 _)
        go_wp2_with fail
        go_roundg (n - (j + 1))
        case measure => have := (show gk = n - j from hkH); omega
        case rel => exact ⟨j + 1, out ++ [x], done, rfl, by go_num, by omega, rfl, t2, app_fr g1 t1 (Fr.alloc _ _ _) f2, hpH, by have : out.length ≤ 2 * j := hoH; rw [List.length_append, List.length_singleton]; omega⟩
    · obtain rfl : j = n := by omega
      rw [List.drop_eq_nil_of_le (by omega), putGo] at hp
      cases done with
      | true =>
      obtain rfl : out = R := hp
      clear ht hf hn'
      go_wp2_with fail
      go_ret
      exact ⟨_, rfl, htH, hfH⟩
      | false =>
      obtain rfl : out ++ [s] = R := hp
      have hr1 : Hidden ((out.length + [s].length) * 16 ≤ 140737488355328) := by
        have : out.length ≤ 2 * j := hoH
        show _ ≤ _
        simp only [List.length_singleton]
        omega
      clear ht hf hn'
      have g1 : Fr (fun _ => False) w wr := hfH
      have t1 : To wr w.heap.size u5 out := htH
      go_wp2_with (at_builtin; refine wpList_app rfl _ _ rfl w.heap.size _ _ (out) [s] rfl (t1.later (Fr.alloc _ _ _)) rfl (Tl.one _ s) (Nat.le_trans (show Fr (fun _ => False) w wr from g1).size (Fr.alloc (fun _ => False) _ _).size) hr1 ?_; intro v2 w2 t2 f2 _)
      go_ret
      exact ⟨v2, rfl, t2, app_fr g1 t1 (Fr.alloc _ _ _) f2⟩
theorem rput_any (v : Value) (l : List Str) (s : Str) (w : World) (h : Tl w v l) (hl : l.length ≤ 8388608) (hs : s.length ≤ 9223372036854775807) (hx : ∀ x ∈ l, x.length ≤ 9223372036854775807) :
    Calls Try.prog 65 #[v, .string ⟨s.toArray⟩] w fun e w' => ∃ v', e = .returned v' ∧ To w' w.heap.size v' (putS l s) ∧ Fr (fun _ => False) w w' := by
  obtain ⟨ao, cap, rfl, h1, h2, h3, h4⟩ := id h
  exact rput_walk ao _ cap l s _ w rfl h1 h2 hl h hs hx rfl
end Go.Proofs.Ytajefmmggefbeaa
