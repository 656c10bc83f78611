/- The program's Uses. -/
import Derived.Test.YtddedomocnpdjaaGreatDoorNzA
import Derived.Test.YtddedomocnpdjaaGreatDoorTrD2
import Derived.Test.YtddedomocnpdjaaGreatDoorTrG
namespace Go.Proofs.YtddedomocnpdjaaGreatDoor
open Go.RowKit Te
set_option linter.unusedSimpArgs false
set_option linter.unusedVariables false

theorem u_fr {S : Nat → Prop} {w w' : World} (h : U.Fr S w w') : Fr S w w' := ⟨h.os, h.output, h.size, h.block⟩
theorem fr_u {S : Nat → Prop} {w w' : World} (h : Fr S w w') : U.Fr S w w' := ⟨h.os, h.output, h.size, h.block⟩
/-- The row that a call hands back lies where the one that it got lay, or is new. -/
def Near (w : World) (v v' : Value) : Prop := v'.ownBlock = v.ownBlock ∨ ∀ b, v'.ownBlock = some b → w.heap.size ≤ b
theorem Near.refl (w : World) (v : Value) : Near w v v := Or.inl rfl
theorem near_fr {w w1 w2 : World} {v v1 : Value} (h : Fr (fun b => v.ownBlock = some b) w w1) (n : Near w v v1) (g : Fr (fun b => v1.ownBlock = some b) w1 w2) : Fr (fun b => v.ownBlock = some b) w w2 := by
  refine h.trans g (fun k hk hb => ?_)
  rcases n with n | n
  · rw [← n]; exact hb
  · have := n k hb; omega
theorem near_trans {w w1 : World} {v v1 v2 : Value} (hs : w.heap.size ≤ w1.heap.size) (n : Near w v v1) (m : Near w1 v1 v2) : Near w v v2 := by
  rcases m with m | m
  · rcases n with n | n
    · exact Or.inl (m.trans n)
    · exact Or.inr (fun b hb => n b (by rw [← m]; exact hb))
  · exact Or.inr (fun b hb => Nat.le_trans hs (m b hb))
def AddE (k : Exs) : Prop := ∀ (ao : Option Addr) (cap : Nat) (w0 w : World) (v : Value) (l : List Bs), ExL w0 ao cap k → Fr (fun _ => False) w0 w → U.To w w0.heap.size v l → (l.length + (usE k).length) * 16 ≤ 140737488355328 →
  Calls Tryz.prog 17 #[v, .slice ao k.len cap] w fun e w' => ∃ v', e = .returned v' ∧ U.To w' w0.heap.size v' (l ++ usE k) ∧ Fr (fun b => v.ownBlock = some b) w w' ∧ Near w v v'
set_option maxRecDepth 20000 in
set_option maxHeartbeats 4000000 in
theorem addE_step (k : Exs) (ih : ∀ k' : Exs, k'.size < k.size → AddE k') : AddE k := by
  intro ao cap w0 w v l hk hf0 ht hb
  have hrest := hk.rest
  obtain ⟨hcap, hmax, _⟩ := hk
  have hlen : k.len ≤ 9223372036854775807 := by unfold maxLen at hmax; omega
  obtain ⟨R, hR⟩ : ∃ R, l ++ usE k = R := ⟨_, rfl⟩
  have hRl : R.length * 16 ≤ 140737488355328 := by rw [← hR, List.length_append]; exact hb
  rw [hR]
  obtain ⟨vao, vcap, rfl, _, _⟩ := ht.shape
  go_enter Tryz.func17, Tryz.ntmps17
  go_wp2_with fail
  go_loopg [0, 9] k.len (fun g mv iv wr => ∃ (i : Nat) (r : Exs) (l1 : List Bs), iv = ci (i : Int) ∧ i + r.len = k.len ∧ r.size ≤ k.size ∧ ExR w0 ao i r ∧ U.To wr w0.heap.size mv l1 ∧ l1 ++ usE r = R ∧ g = r.len ∧ Fr (fun b => (Value.slice vao l.length vcap).ownBlock = some b) w wr ∧ Near w (.slice vao l.length vcap) mv ∧ Fr (fun _ => False) w0 wr)
  case atStart => exact ⟨0, k, l, rfl, by omega, Nat.le_refl _, hrest, ht, hR, rfl, Fr.refl _ _, Near.refl _ _, hf0⟩
  case round =>
    obtain ⟨i, r, l1, rfl, hlen2, hsize, hrow, hto, hdk, hgk, hfr, hnear, hfr0⟩ := hrel
    have hgkH : Hidden (gk = r.len) := hgk
    have hdkH : Hidden (l1 ++ usE r = R) := hdk
    have hlenH : Hidden (i + r.len = k.len) := hlen2
    have hl1 : l1.length ≤ R.length := by rw [← hdk, List.length_append]; omega
    clear hgk hdk hlen2 hrest hR
    cases r with
    | nil =>
      have hi : i = k.len := hlenH
      subst hi
      obtain rfl : l1 = R := by have h0 : l1 ++ [] = R := hdkH; simpa using h0
      clear hdkH
      go_wp2_with fail
      go_ret
      exact ⟨_, rfl, hto, hfr, hnear⟩
    | cons h' k' r' =>
      have hil : i < k.len := by have : i + (r'.len + 1) = k.len := hlenH; omega
      obtain ⟨b, off, ao', cap', rfl, hL, hrow2, d0, d1, d2, d3, d4, d5, d6⟩ := hrow.next
      have d0 := hfr0.cellN d0
      have d1 := hfr0.cellN d1
      have d2 := hfr0.cellN d2
      have d3 := hfr0.cellN d3
      have d4 := hfr0.cellN d4
      have d5 := hfr0.cellN d5
      have d6 := hfr0.cellN d6
      simp only [Exs.size] at hsize
      have hbx : Hidden ((wr.alloc (.cells #[ci h'.kind, ci h'.op, ct h'.mod, ct h'.name, ci h'.vt, .int .u64 h'.vb, .slice ao' k'.len cap'] 43)).heap[wr.heap.size]? = some (.cells #[ci h'.kind, ci h'.op, ct h'.mod, ct h'.name, ci h'.vt, .int .u64 h'.vb, .slice ao' k'.len cap'] 43 (0, 0))) := alloc_new _ _
      have f1 : Fr (fun _ => False) wr (wr.alloc (.cells #[ci h'.kind, ci h'.op, ct h'.mod, ct h'.name, ci h'.vt, .int .u64 h'.vb, .slice ao' k'.len cap'] 43)) := Fr.alloc _ _ _
      have hown := hto.own
      have hto1 := hto.later (fr_u f1)
      have hfr1 : Fr (fun b => (Value.slice vao l.length vcap).ownBlock = some b) w (wr.alloc (.cells #[ci h'.kind, ci h'.op, ct h'.mod, ct h'.name, ci h'.vt, .int .u64 h'.vb, .slice ao' k'.len cap'] 43)) := hfr.trans f1 (fun _ _ f => f.elim)
      have hfr01 := hfr0.same f1
      have ke := ih k' (by omega)
      unfold AddE at ke
      by_cases hk35 : h'.kind = 3 ∨ h'.kind = 5
      · have hd2 : Hidden ((l1 ++ [h'.mod]) ++ usE k' ++ usE r' = R) := by
          have h0 : l1 ++ ((if h'.kind = 3 ∨ h'.kind = 5 then [h'.mod] else []) ++ usE k' ++ usE r') = R := hdkH
          rw [if_pos hk35] at h0
          rw [← h0]
          simp [Hidden]
        have hl2 : l1.length + 1 + (usE k').length ≤ R.length := by
          have h0 := congrArg List.length (show _ = R from hd2)
          simp only [List.length_append, List.length_cons, List.length_nil] at h0
          omega
        have hr1 : (l1.length + [h'.mod].length) * 16 ≤ 140737488355328 := by simp; omega
        have hk3 : ((h'.kind == 3) = true) ∨ ((h'.kind == 3) = false ∧ (h'.kind == 5) = true) := by
          rcases hk35 with h | h <;> simp [h]
        have hone : U.Tl ((wr.alloc (.cells #[ci h'.kind, ci h'.op, ct h'.mod, ct h'.name, ci h'.vt, .int .u64 h'.vb, .slice ao' k'.len cap'] 43)).alloc (.cells #[ct h'.mod] 9)) (.slice (some ⟨wr.heap.size + 1, 0, none⟩) 1 1) [h'.mod] := by
          rw [show wr.heap.size + 1 = (wr.alloc (.cells #[ci h'.kind, ci h'.op, ct h'.mod, ct h'.name, ci h'.vt, .int .u64 h'.vb, .slice ao' k'.len cap'] 43)).heap.size by simp]
          exact U.Tl.one _ _
        clear hdkH hk35
        rcases hk3 with t1 | ⟨t1, t2⟩
        all_goals
          go_wp2_with (at_builtin; refine U.wpList_app rfl _ _ rfl w0.heap.size _ _ l1 [h'.mod] rfl (hto1.later (fr_u (Fr.alloc _ _ _))) rfl hone (Nat.le_trans (show Fr (fun _ => False) w0 _ from hfr01).size (Fr.alloc (fun _ => False) _ _).size) hr1 ?_; intro v2 w2 to2 f2 n2; have y2 := (u_fr f2).heap ((Fr.alloc (fun _ => False) _ _).heap hbx (fun f => f)) (fun hc => by have := (hown _ hc).2; omega); obtain ⟨c0, c1, c2, c3, c4, c5, c6⟩ := ex_box y2)
          have fA : Fr (fun _ => False) w0 w2 := (hfr01.same (Fr.alloc _ _ _)).over (u_fr f2) (fun b hb2 => (hown b hb2).1)
          have fB := near_fr (hfr1.trans (Fr.alloc (fun _ => False) _ _) (fun _ _ f => f.elim)) hnear (u_fr f2)
          have nB : Near w (.slice vao l.length vcap) v2 := near_trans (Nat.le_trans hfr1.size (Fr.alloc (fun _ => False) _ (.cells #[ct h'.mod] 9)).size) hnear (n2.imp id (fun hh b hb2 => by rw [hh] at hb2; exact Nat.le_of_eq (Option.some.inj hb2)))
          have kc := ke ao' cap' w0 w2 v2 (l1 ++ [h'.mod]) hL fA to2 (by simp only [List.length_append, List.length_cons, List.length_nil]; omega)
          go_at_call 17
          refine kc.mono ?_
          rintro e w3 ⟨v3, rfl, to3, f3, n3⟩
          go_wp2_with fail
          go_roundg r'.len
          case measure =>
            have : gk = r'.len + 1 := hgkH
            omega
          case rel =>
            refine ⟨i + 1, r', _, by go_num, ?_, by omega, hrow2, to3, hd2, rfl, near_fr fB nB f3, near_trans fB.size nB n3, fA.over f3 (fun b hb2 => (to2.own b hb2).1)⟩
            have : i + (r'.len + 1) = k.len := hlenH
            omega
      · have t1 : (h'.kind == 3) = false := by simp only [beq_eq_false_iff_ne, ne_eq]; exact fun h => hk35 (Or.inl h)
        have t2 : (h'.kind == 5) = false := by simp only [beq_eq_false_iff_ne, ne_eq]; exact fun h => hk35 (Or.inr h)
        have hd2 : Hidden (l1 ++ usE k' ++ usE r' = R) := by
          have h0 : l1 ++ ((if h'.kind = 3 ∨ h'.kind = 5 then [h'.mod] else []) ++ usE k' ++ usE r') = R := hdkH
          rw [if_neg hk35] at h0
          rw [← h0]
          simp [Hidden]
        have hl2 : l1.length + (usE k').length ≤ R.length := by
          have h0 := congrArg List.length (show _ = R from hd2)
          simp only [List.length_append] at h0
          omega
        have kc := ke ao' cap' w0 _ _ l1 hL hfr01 hto1 (by omega)
        clear hdkH hk35
        go_wp2_with fail
        go_at_call 17
        refine kc.mono ?_
        rintro e w3 ⟨v3, rfl, to3, f3, n3⟩
        go_wp2_with fail
        go_roundg r'.len
        case measure =>
          have : gk = r'.len + 1 := hgkH
          omega
        case rel =>
          refine ⟨i + 1, r', _, by go_num, ?_, by omega, hrow2, to3, hd2, rfl, near_fr hfr1 hnear f3, near_trans hfr1.size hnear n3, hfr01.over f3 (fun b hb2 => (hown b hb2).1)⟩
          have : i + (r'.len + 1) = k.len := hlenH
          omega
theorem addE_any (k : Exs) : AddE k := by
  have : ∀ (n : Nat) (k : Exs), k.size < n → AddE k := by
    intro n
    induction n with
    | zero => intro k hk; omega
    | succ n ih => intro k hk; exact addE_step k (fun k' hk' => ih k' (by omega))
  exact this (k.size + 1) k (by omega)
end Go.Proofs.YtddedomocnpdjaaGreatDoor
