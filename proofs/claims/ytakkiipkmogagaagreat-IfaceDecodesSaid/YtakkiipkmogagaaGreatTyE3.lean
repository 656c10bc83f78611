/- The document's look at an item, and its text. -/
import Derived.Test.YtakkiipkmogagaaGreatTyE
import Derived.Deep.QuietTactic
import Derived.BigQuiet
namespace Go.Proofs.YtakkiipkmogagaaGreat.Ty
open Go.RowKit
set_option linter.unusedSimpArgs false
set_option linter.unusedVariables false


theorem n_fr {S : Nat → Prop} {w w' : World} (h : N.Fr S w w') : Fr S w w' := ⟨h.os, h.output, h.size, h.block⟩
set_option maxRecDepth 20000 in
set_option maxHeartbeats 4000000 in
theorem rrightItem_fn (typ bits : Int) (name : Bs) (params : List Int) (ao : Option Addr) (cap : Nat) (w : World) (h : InL w ao cap params) (hrn : N.rightS name = 0) (hn : OkN name) (h8 : params.length ≤ 8) (r : Int) (hr : Hidden ((if fitsFn ⟨3, name, typ, bits, params⟩ then 0 else 1) = r)) :
    Calls Tryz.prog 44 #[.agg #[ci 3, ct name, ci typ, .int .u64 bits, .slice ao params.length cap]] w fun e w' => e = .returned (ci r) ∧ Fr (fun _ => False) w w' := by
  obtain ⟨W0, hW0⟩ : ∃ W, W = w.alloc (.cells #[ci 3, ct name, ci typ, .int .u64 bits, .slice ao params.length cap] 47) := ⟨_, rfl⟩
  have f0 : Fr (fun _ => False) w W0 := by rw [hW0]; exact Fr.alloc _ _ _
  have hb1H : Hidden (W0.heap[w.heap.size]? = some (.cells #[ci 3, ct name, ci typ, .int .u64 bits, .slice ao params.length cap] 47 (0, 0))) := by rw [hW0]; exact alloc_new _ _
  obtain ⟨c0, c1, c2, c3, c4⟩ := box5 hb1H
  have hW0H : Hidden (W0 = _) := hW0
  clear hW0
  have kn := fun w => (N.rright_any name _ hrn hn w).mono (fun e w' h => (⟨h.1, n_fr h.2⟩ : _ ∧ Fr (fun _ => False) w w'))
  have kv := fun w => rvalued_any typ w
  have hcH : Hidden (InL w ao cap params) := h
  have m1 := h.1
  have m2 : cap ≤ 9223372036854775807 := by have := h.2.1; unfold maxLen at this; omega
  have h8' : decide ((8 : Int) < (params.length : Int)) = false := by simp; omega
  have hr1 : Hidden ((if ((typ == 0 || valued typ) && bits == 0 && params.all valued) = true then (0 : Int) else 1) = r) := hr
  clear hr h hrn hn
  cases hb : (bits == 0)
  · have hr2 : Hidden (1 = r) := by rw [← (show _ = r from hr1), hb]; simp [Hidden]
    have hb' : (bits != 0) = true := by simp [bne, hb]
    clear hr1
    go_enter Tryz.func44, Tryz.ntmps44
    go_wp2_with fail
    rw [← (show W0 = _ from hW0H)]
    go_at_call 43
    refine (kn _).mono ?_
    rintro e w1 ⟨rfl, f1⟩
    have hb2H := f1.heap hb1H (fun f => f)
    replace hb2H : Hidden _ := hb2H
    obtain ⟨c0, c1, c2, c3, c4⟩ := box5 hb2H
    have g1 : Fr (fun _ => False) w w1 := f0.same f1
    go_wp2_with fail
    go_ret
    exact ⟨ret_ci hr2, g1⟩
  have hb' : (bits != 0) = false := by simp [bne, hb]
  by_cases ht0 : typ = 0 ∨ valued typ = true
  · have hr2 : Hidden ((if params.all valued = true then (0 : Int) else 1) = r) := by
      rw [← (show _ = r from hr1), hb]
      rcases ht0 with h | h <;> simp [Hidden, h]
    have hq : ((typ == 0) = true ∧ (typ != 0) = false) ∨ ((typ == 0) = false ∧ (typ != 0) = true ∧ valued typ = true) := by
      by_cases h0 : typ = 0
      · exact Or.inl ⟨by simp [h0], by simp [h0]⟩
      · exact Or.inr ⟨by simp [h0], by simp [h0], by rcases ht0 with h | h; exact absurd h h0; exact h⟩
    clear hr1 ht0
    generalize valued typ = vt at kv hq
    rcases hq with ⟨h0, h0'⟩ | ⟨h0, h0', rfl⟩
    all_goals
      go_enter Tryz.func44, Tryz.ntmps44
      go_wp2_with fail
      rw [← (show W0 = _ from hW0H)]
      go_at_call 43
      refine (kn _).mono ?_
      rintro e w1 ⟨rfl, f1⟩
      have hb2H := f1.heap hb1H (fun f => f)
      replace hb2H : Hidden _ := hb2H
      obtain ⟨c0, c1, c2, c3, c4⟩ := box5 hb2H
      have g1 : Fr (fun _ => False) w w1 := f0.same f1
      go_wp2_with (go_at_call 73; refine (kv _).mono ?_; rintro e w3 ⟨rfl, hw3⟩; rw [hw3]; clear hw3)
      go_loopg [4] params.length (fun k iv wr => ∃ j : Nat, iv = ci (j : Int) ∧ j ≤ params.length ∧ k = params.length - j ∧ wr = w1 ∧ (params.drop j).all valued = params.all valued)
      case atStart => exact ⟨0, rfl, by omega, rfl, rfl, by simp⟩
      case round =>
        obtain ⟨j, rfl, hj, hk, hwr, hI⟩ := hrel
        subst hwr
        have hkH : Hidden (gk = params.length - j) := hk
        have hIH : Hidden ((params.drop j).all valued = params.all valued) := hI
        clear hk hI
        by_cases hjl : j < params.length
        · obtain ⟨x, hx⟩ : ∃ x, params[j]? = some x := ⟨params[j], List.getElem?_eq_getElem hjl⟩
          rcases (show InL w ao cap params from hcH).2.2.2 with h0 | ⟨b, off, rfl, hc⟩
          · rw [h0] at hx; simp at hx
          have e1 := g1.cellN (hc j x hx)
          have kx := fun w => rvalued_any x w
          have hd := drop_at hx
          clear hx hc kv
          cases hv : valued x
          · rw [hv] at kx
            have hRR : Hidden (1 = r) := by
              rw [← (show _ = r from hr2), ← (show _ = params.all valued from hIH), hd, List.all_cons, hv]
              rfl
            clear hIH hd hv
            go_wp2_with (go_at_call 73; refine (kx _).mono ?_; rintro e w3 ⟨rfl, hw3⟩; rw [hw3]; clear hw3)
            go_ret
            exact ⟨ret_ci hRR, g1⟩
          · rw [hv] at kx
            have hI2 : Hidden ((params.drop (j + 1)).all valued = params.all valued) := by
              rw [← (show _ = params.all valued from hIH), hd, List.all_cons, hv]
              rfl
            clear hIH hd hv
            go_wp2_with (go_at_call 73; refine (kx _).mono ?_; rintro e w3 ⟨rfl, hw3⟩; rw [hw3]; clear hw3)
            go_roundg (params.length - (j + 1))
            case measure => have := (show gk = params.length - j from hkH); omega
            case rel => exact ⟨j + 1, by go_num, by omega, rfl, rfl, hI2⟩
        · obtain rfl : j = params.length := by omega
          have hRR : Hidden (0 = r) := by
            rw [← (show _ = r from hr2), ← (show _ = params.all valued from hIH), List.drop_length]
            rfl
          clear hIH kv
          go_wp2
          go_ret
          exact ⟨ret_ci hRR, g1⟩
  · have hr2 : Hidden (1 = r) := by
      rw [← (show _ = r from hr1)]
      have e0 : (typ == 0) = false := by simp; exact fun h => ht0 (Or.inl h)
      have e1 : valued typ = false := by rw [← Bool.not_eq_true]; exact fun h => ht0 (Or.inr h)
      simp [Hidden, e0, e1]
    have e0 : (typ == 0) = false := by simp; exact fun h => ht0 (Or.inl h)
    have e0' : (typ != 0) = true := by simp; exact fun h => ht0 (Or.inl h)
    have e1 : valued typ = false := by rw [← Bool.not_eq_true]; exact fun h => ht0 (Or.inr h)
    rw [e1] at kv
    clear hr1 ht0 e1
    go_enter Tryz.func44, Tryz.ntmps44
    go_wp2_with fail
    rw [← (show W0 = _ from hW0H)]
    go_at_call 43
    refine (kn _).mono ?_
    rintro e w1 ⟨rfl, f1⟩
    have hb2H := f1.heap hb1H (fun f => f)
    replace hb2H : Hidden _ := hb2H
    obtain ⟨c0, c1, c2, c3, c4⟩ := box5 hb2H
    have g1 : Fr (fun _ => False) w w1 := f0.same f1
    go_wp2_with (go_at_call 73; refine (kv _).mono ?_; rintro e w3 ⟨rfl, hw3⟩; rw [hw3]; clear hw3)
    go_ret
    exact ⟨ret_ci hr2, g1⟩
set_option maxRecDepth 20000 in
set_option maxHeartbeats 4000000 in
theorem rrightItem_const (typ bits : Int) (name : Bs) (params : List Int) (ao : Option Addr) (cap : Nat) (hbt : U64 bits) (w : World) (m1 : params.length ≤ cap) (m2 : cap ≤ 9223372036854775807) (hrn : N.rightS name = 0) (hn : OkN name) (h8 : params.length ≤ 8) (r : Int) (hr : Hidden ((if fitsConst ⟨1, name, typ, bits, params⟩ then 0 else 1) = r)) :
    Calls Tryz.prog 44 #[.agg #[ci 1, ct name, ci typ, .int .u64 bits, .slice ao params.length cap]] w fun e w' => e = .returned (ci r) ∧ Fr (fun _ => False) w w' := by
  obtain ⟨W0, hW0⟩ : ∃ W, W = w.alloc (.cells #[ci 1, ct name, ci typ, .int .u64 bits, .slice ao params.length cap] 47) := ⟨_, rfl⟩
  have f0 : Fr (fun _ => False) w W0 := by rw [hW0]; exact Fr.alloc _ _ _
  have hb1H : Hidden (W0.heap[w.heap.size]? = some (.cells #[ci 1, ct name, ci typ, .int .u64 bits, .slice ao params.length cap] 47 (0, 0))) := by rw [hW0]; exact alloc_new _ _
  obtain ⟨c0, c1, c2, c3, c4⟩ := box5 hb1H
  have hW0H : Hidden (W0 = _) := hW0
  clear hW0
  have kn := fun w => (N.rright_any name _ hrn hn w).mono (fun e w' h => (⟨h.1, n_fr h.2⟩ : _ ∧ Fr (fun _ => False) w w'))
  have kr := fun w => rrightv_any typ bits hbt w
  have h8' : decide ((8 : Int) < (params.length : Int)) = false := by simp; omega
  have hr1 : Hidden ((if (rightV typ bits && decide (params.length = 0)) = true then (0 : Int) else 1) = r) := hr
  clear hr hrn hn
  generalize rightV typ bits = rv at kr hr1
  generalize params.length = n at *
  by_cases h0 : n = 0
  · subst h0
    have hr2 : Hidden ((if rv = true then (0 : Int) else 1) = r) := by rw [← (show _ = r from hr1)]; simp [Hidden]
    clear hr1
    cases rv
    all_goals
      go_enter Tryz.func44, Tryz.ntmps44
      go_wp2_with fail
      rw [← (show W0 = _ from hW0H)]
      go_at_call 43
      refine (kn _).mono ?_
      rintro e w1 ⟨rfl, f1⟩
      have hb2H := f1.heap hb1H (fun f => f)
      replace hb2H : Hidden _ := hb2H
      obtain ⟨c0, c1, c2, c3, c4⟩ := box5 hb2H
      have g1 : Fr (fun _ => False) w w1 := f0.same f1
      go_wp2_with (go_at_call 72; refine (kr _).mono ?_; rintro e w2 ⟨rfl, f2⟩)
      go_ret
      exact ⟨ret_ci hr2, g1.same f2⟩
  · have hr2 : Hidden (1 = r) := by rw [← (show _ = r from hr1)]; simp [Hidden, h0]
    have hp : decide ((0 : Int) < (n : Int)) = true := by simp; omega
    have hp2 : 0 < n := by omega
    clear hr1 kr h0
    go_enter Tryz.func44, Tryz.ntmps44
    go_wp2_with fail
    rw [← (show W0 = _ from hW0H)]
    go_at_call 43
    refine (kn _).mono ?_
    rintro e w1 ⟨rfl, f1⟩
    have hb2H := f1.heap hb1H (fun f => f)
    replace hb2H : Hidden _ := hb2H
    obtain ⟨c0, c1, c2, c3, c4⟩ := box5 hb2H
    have g1 : Fr (fun _ => False) w w1 := f0.same f1
    go_wp2_with fail
    go_ret
    exact ⟨ret_ci hr2, g1⟩
set_option maxRecDepth 20000 in
set_option maxHeartbeats 2000000 in
theorem rrightItem_any (i : It) (v : Value) (w : World) (hi : ItI w i v) (ho : OkI i) : Calls Tryz.prog 44 #[v] w fun e w' => e = .returned (ci (rightI i)) ∧ Fr (fun _ => False) w w' := by
  obtain ⟨kind, name, typ, bits, params⟩ := i
  obtain ⟨ao, cap, rfl, h⟩ := hi
  have m1 := h.1
  have m2 : cap ≤ 9223372036854775807 := by have := h.2.1; unfold maxLen at this; omega
  have hn : OkN name := ho.name
  have hbt : U64 bits := ho.bits
  simp only at m1
  have e : rightI ⟨kind, name, typ, bits, params⟩ = if kind ≠ 1 ∧ kind ≠ 3 then 1 else if N.rightS name ≠ 0 then N.rightS name else if 8 < params.length then 3 else if kind = 1 then (if fitsConst ⟨kind, name, typ, bits, params⟩ then 0 else 1) else (if fitsFn ⟨kind, name, typ, bits, params⟩ then 0 else 1) := rfl
  rw [e]
  clear e
  simp only [itV]
  by_cases hk : kind ≠ 1 ∧ kind ≠ 3
  · rw [if_pos hk]
    obtain ⟨k1, k3⟩ := hk
    have b1 : (kind == 1) = false := by simp [k1]
    have b3 : (kind == 3) = false := by simp [k3]
    have c1 : (kind != 1) = true := by simp [k1]
    have c3 : (kind != 3) = true := by simp [k3]
    clear k1 k3 h ho hn hbt
    go_enter Tryz.func44, Tryz.ntmps44
    go_wp2_with fail
    go_ret
    exact ⟨rfl, Fr.alloc _ _ _⟩
  rw [if_neg hk]
  by_cases hrn : N.rightS name = 0
  · rw [if_neg (by simp [hrn])]
    by_cases h8 : 8 < params.length
    · rw [if_pos h8]
      have kn := fun w => (N.rright_any name _ hrn hn w).mono (fun e w' h => (⟨h.1, n_fr h.2⟩ : _ ∧ Fr (fun _ => False) w w'))
      have h8' : decide ((8 : Int) < (params.length : Int)) = true := by simp; omega
      have hk' : kind = 1 ∨ kind = 3 := by omega
      clear hk ho hbt hrn hn h
      rcases hk' with rfl | rfl
      · clear h8
        obtain ⟨W0, hW0⟩ : ∃ W, W = w.alloc (.cells #[ci 1, ct name, ci typ, .int .u64 bits, .slice ao params.length cap] 47) := ⟨_, rfl⟩
        have f0 : Fr (fun _ => False) w W0 := by rw [hW0]; exact Fr.alloc _ _ _
        have hb1H : Hidden (W0.heap[w.heap.size]? = some (.cells #[ci 1, ct name, ci typ, .int .u64 bits, .slice ao params.length cap] 47 (0, 0))) := by rw [hW0]; exact alloc_new _ _
        obtain ⟨c0, c1, c2, c3, c4⟩ := box5 hb1H
        have hW0H : Hidden (W0 = _) := hW0
        clear hW0
        go_enter Tryz.func44, Tryz.ntmps44
        go_wp2_with fail
        rw [← (show W0 = _ from hW0H)]
        go_at_call 43
        refine (kn _).mono ?_
        rintro e w1 ⟨rfl, f1⟩
        have hb2H := f1.heap hb1H (fun f => f)
        replace hb2H : Hidden _ := hb2H
        obtain ⟨c0, c1, c2, c3, c4⟩ := box5 hb2H
        have g1 : Fr (fun _ => False) w w1 := f0.same f1
        go_wp2_with fail
        go_ret
        exact ⟨rfl, g1⟩
      · clear h8
        obtain ⟨W0, hW0⟩ : ∃ W, W = w.alloc (.cells #[ci 3, ct name, ci typ, .int .u64 bits, .slice ao params.length cap] 47) := ⟨_, rfl⟩
        have f0 : Fr (fun _ => False) w W0 := by rw [hW0]; exact Fr.alloc _ _ _
        have hb1H : Hidden (W0.heap[w.heap.size]? = some (.cells #[ci 3, ct name, ci typ, .int .u64 bits, .slice ao params.length cap] 47 (0, 0))) := by rw [hW0]; exact alloc_new _ _
        obtain ⟨c0, c1, c2, c3, c4⟩ := box5 hb1H
        have hW0H : Hidden (W0 = _) := hW0
        clear hW0
        go_enter Tryz.func44, Tryz.ntmps44
        go_wp2_with fail
        rw [← (show W0 = _ from hW0H)]
        go_at_call 43
        refine (kn _).mono ?_
        rintro e w1 ⟨rfl, f1⟩
        have hb2H := f1.heap hb1H (fun f => f)
        replace hb2H : Hidden _ := hb2H
        obtain ⟨c0, c1, c2, c3, c4⟩ := box5 hb2H
        have g1 : Fr (fun _ => False) w w1 := f0.same f1
        go_wp2_with fail
        go_ret
        exact ⟨rfl, g1⟩
    · rw [if_neg h8]
      by_cases h1 : kind = 1
      · subst h1
        rw [if_pos rfl]
        exact rrightItem_const typ bits name params ao cap hbt w m1 m2 hrn hn (by omega) _ rfl
      · have h3 : kind = 3 := by omega
        subst h3
        rw [if_neg h1]
        exact rrightItem_fn typ bits name params ao cap w h hrn hn (by omega) _ rfl
  · rw [if_pos hrn]
    have kn := fun w => (N.rright_any name _ rfl hn w).mono (fun e w' h => (⟨h.1, n_fr h.2⟩ : _ ∧ Fr (fun _ => False) w w'))
    generalize N.rightS name = rn at kn hrn ⊢
    have b0 : (rn == 0) = false := by simp [hrn]
    have b1 : (rn != 0) = true := by simp [hrn]
    have hk' : kind = 1 ∨ kind = 3 := by omega
    clear hk ho hbt hrn hn h
    rcases hk' with rfl | rfl
    all_goals
      go_enter Tryz.func44, Tryz.ntmps44
      go_wp2_with (go_at_call 43; refine (kn _).mono ?_; rintro e w1 ⟨rfl, f1⟩)
      go_ret
      exact ⟨rfl, (Fr.alloc _ _ _).same f1⟩
end Go.Proofs.YtakkiipkmogagaaGreat.Ty
