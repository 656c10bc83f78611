/- The document's look at an item, and its text. -/
import Derived.Test.YtddkmefpfhdliaaDoorTyE
import Derived.Deep.QuietTactic
import Derived.BigQuiet
namespace Go.Proofs.YtddkmefpfhdliaaDoor.Ty
open Go.RowKit
set_option linter.unusedSimpArgs false
set_option linter.unusedVariables false


theorem n_fr {S : Nat → Prop} {w w' : World} (h : N.Fr S w w') : Fr S w w' := ⟨h.os, h.output, h.size, h.block⟩
set_option maxRecDepth 20000 in
set_option maxHeartbeats 4000000 in
theorem rrightItem_fn (typ bits : Int) (name : Bs) (params : List Int) (ao : Option Addr) (cap : Nat) (w : World) (h : InL w ao cap params) (hrn : N.rightS name = 0) (hn : OkN name) (h8 : params.length ≤ 8) (r : Int) (hr : Hidden ((if fitsFn ⟨3, name, typ, bits, params⟩ then 0 else 1) = r)) :
    Calls Tryd.prog 24 #[.agg #[ci 3, ct name, ci typ, .int .u64 bits, .slice ao params.length cap]] w fun e w' => e = .returned (ci r) ∧ Fr (fun _ => False) w w' := by
  obtain ⟨W0, hW0⟩ : ∃ W, W = w.alloc (.cells #[ci 3, ct name, ci typ, .int .u64 bits, .slice ao params.length cap] 40) := ⟨_, rfl⟩
  have f0 : Fr (fun _ => False) w W0 := by rw [hW0]; exact Fr.alloc _ _ _
  have hb1H : Hidden (W0.heap[w.heap.size]? = some (.cells #[ci 3, ct name, ci typ, .int .u64 bits, .slice ao params.length cap] 40 (0, 0))) := by rw [hW0]; exact alloc_new _ _
  obtain ⟨c0, c1, c2, c3, c4⟩ := box5 hb1H
  have hW0H : Hidden (W0 = _) := hW0
  clear hW0
  have kn := fun w => (N.rright_any name _ hrn hn w).mono (fun e w' h => (⟨h.1, n_fr h.2⟩ : _ ∧ Fr (fun _ => False) w w'))
  have kv := fun w => rvalued_any typ w
  have hcH : Hidden (InL w ao cap params) := h
  have m1 := h.1
  have m2 : cap ≤ 9223372036854775807 := by have := h.2.1; unfold maxLen at this; omega
  have h8' : decide ((8 : Int) < (params.length : Int)) = false := by simp; omega
  have hr1 : Hidden ((if ((typ == 0 || valued typ) && bits == 0 && params.all valued) = true then (0 : Int) else 1) = r) := hr
  clear hr h hrn hn
  cases hb : (bits == 0)
  · have hr2 : Hidden (1 = r) := by rw [← (show _ = r from hr1), hb]; simp [Hidden]
    have hb' : (bits != 0) = true := by simp [bne, hb]
    clear hr1
    go_enter Tryd.func24, Tryd.ntmps24
    go_wp2_with fail
    rw [← (show W0 = _ from hW0H)]
    go_at_call 41
    refine (kn _).mono ?_
    rintro e w1 ⟨rfl, f1⟩
    have hb2H := f1.heap hb1H (fun f => f)
    replace hb2H : Hidden _ := hb2H
    obtain ⟨c0, c1, c2, c3, c4⟩ := box5 hb2H
    have g1 : Fr (fun _ => False) w w1 := f0.same f1
    go_wp2_with fail
    go_ret
    exact ⟨ret_ci hr2, g1⟩
  have hb' : (bits != 0) = false := by simp [bne, hb]
  by_cases ht0 : typ = 0 ∨ valued typ = true
  · have hr2 : Hidden ((if params.all valued = true then (0 : Int) else 1) = r) := by
      rw [← (show _ = r from hr1), hb]
      rcases ht0 with h | h <;> simp [Hidden, h]
    have hq : ((typ == 0) = true ∧ (typ != 0) = false) ∨ ((typ == 0) = false ∧ (typ != 0) = true ∧ valued typ = true) := by
      by_cases h0 : typ = 0
      · exact Or.inl ⟨by simp [h0], by simp [h0]⟩
      · exact Or.inr ⟨by simp [h0], by simp [h0], by rcases ht0 with h | h; exact absurd h h0; exact h⟩
    clear hr1 ht0
    generalize valued typ = vt at kv hq
    rcases hq with ⟨h0, h0'⟩ | ⟨h0, h0', rfl⟩
    all_goals
      go_enter Tryd.func24, Tryd.ntmps24
      go_wp2_with fail
      rw [← (show W0 = _ from hW0H)]
      go_at_call 41
      refine (kn _).mono ?_
      rintro e w1 ⟨rfl, f1⟩
      have hb2H := f1.heap hb1H (fun f => f)
      replace hb2H : Hidden _ := hb2H
      obtain ⟨c0, c1, c2, c3, c4⟩ := box5 hb2H
      have g1 : Fr (fun _ => False) w w1 := f0.same f1
      go_wp2_with (go_at_call 37; refine (kv _).mono ?_; rintro e w3 ⟨rfl, hw3⟩; rw [hw3]; clear hw3)
      go_loopg [4] params.length (fun k iv wr => ∃ j : Nat, iv = ci (j : Int) ∧ j ≤ params.length ∧ k = params.length - j ∧ wr = w1 ∧ (params.drop j).all valued = params.all valued)
      case atStart => exact ⟨0, rfl, by omega, rfl, rfl, by simp⟩
      case round =>
        obtain ⟨j, rfl, hj, hk, hwr, hI⟩ := hrel
        subst hwr
        have hkH : Hidden (gk = params.length - j) := hk
        have hIH : Hidden ((params.drop j).all valued = params.all valued) := hI
        clear hk hI
        by_cases hjl : j < params.length
        · obtain ⟨x, hx⟩ : ∃ x, params[j]? = some x := ⟨params[j], List.getElem?_eq_getElem hjl⟩
          rcases (show InL w ao cap params from hcH).2.2.2 with h0 | ⟨b, off, rfl, hc⟩
          · rw [h0] at hx; simp at hx
          have e1 := g1.cellN (hc j x hx)
          have kx := fun w => rvalued_any x w
          have hd := drop_at hx
          clear hx hc kv
          cases hv : valued x
          · rw [hv] at kx
            have hRR : Hidden (1 = r) := by
              rw [← (show _ = r from hr2), ← (show _ = params.all valued from hIH), hd, List.all_cons, hv]
              rfl
            clear hIH hd hv
            go_wp2_with (go_at_call 37; refine (kx _).mono ?_; rintro e w3 ⟨rfl, hw3⟩; rw [hw3]; clear hw3)
            go_ret
            exact ⟨ret_ci hRR, g1⟩
          · rw [hv] at kx
            have hI2 : Hidden ((params.drop (j + 1)).all valued = params.all valued) := by
              rw [← (show _ = params.all valued from hIH), hd, List.all_cons, hv]
              rfl
            clear hIH hd hv
            go_wp2_with (go_at_call 37; refine (kx _).mono ?_; rintro e w3 ⟨rfl, hw3⟩; rw [hw3]; clear hw3)
            go_roundg (params.length - (j + 1))
            case measure => have := (show gk = params.length - j from hkH); omega
            case rel => exact ⟨j + 1, by go_num, by omega, rfl, rfl, hI2⟩
        · obtain rfl : j = params.length := by omega
          have hRR : Hidden (0 = r) := by
            rw [← (show _ = r from hr2), ← (show _ = params.all valued from hIH), List.drop_length]
            rfl
          clear hIH kv
          go_wp2
          go_ret
          exact ⟨ret_ci hRR, g1⟩
  · have hr2 : Hidden (1 = r) := by
      rw [← (show _ = r from hr1)]
      have e0 : (typ == 0) = false := by simp; exact fun h => ht0 (Or.inl h)
      have e1 : valued typ = false := by rw [← Bool.not_eq_true]; exact fun h => ht0 (Or.inr h)
      simp [Hidden, e0, e1]
    have e0 : (typ == 0) = false := by simp; exact fun h => ht0 (Or.inl h)
    have e0' : (typ != 0) = true := by simp; exact fun h => ht0 (Or.inl h)
    have e1 : valued typ = false := by rw [← Bool.not_eq_true]; exact fun h => ht0 (Or.inr h)
    rw [e1] at kv
    clear hr1 ht0 e1
    go_enter Tryd.func24, Tryd.ntmps24
    go_wp2_with fail
    rw [← (show W0 = _ from hW0H)]
    go_at_call 41
    refine (kn _).mono ?_
    rintro e w1 ⟨rfl, f1⟩
    have hb2H := f1.heap hb1H (fun f => f)
    replace hb2H : Hidden _ := hb2H
    obtain ⟨c0, c1, c2, c3, c4⟩ := box5 hb2H
    have g1 : Fr (fun _ => False) w w1 := f0.same f1
    go_wp2_with (go_at_call 37; refine (kv _).mono ?_; rintro e w3 ⟨rfl, hw3⟩; rw [hw3]; clear hw3)
    go_ret
    exact ⟨ret_ci hr2, g1⟩
set_option maxRecDepth 20000 in
set_option maxHeartbeats 4000000 in
theorem rrightItem_const (typ bits : Int) (name : Bs) (params : List Int) (ao : Option Addr) (cap : Nat) (hbt : U64 bits) (w : World) (m1 : params.length ≤ cap) (m2 : cap ≤ 9223372036854775807) (hrn : N.rightS name = 0) (hn : OkN name) (h8 : params.length ≤ 8) (r : Int) (hr : Hidden ((if fitsConst ⟨1, name, typ, bits, params⟩ then 0 else 1) = r)) :
    Calls Tryd.prog 24 #[.agg #[ci 1, ct name, ci typ, .int .u64 bits, .slice ao params.length cap]] w fun e w' => e = .returned (ci r) ∧ Fr (fun _ => False) w w' := by
  obtain ⟨W0, hW0⟩ : ∃ W, W = w.alloc (.cells #[ci 1, ct name, ci typ, .int .u64 bits, .slice ao params.length cap] 40) := ⟨_, rfl⟩
  have f0 : Fr (fun _ => False) w W0 := by rw [hW0]; exact Fr.alloc _ _ _
  have hb1H : Hidden (W0.heap[w.heap.size]? = some (.cells #[ci 1, ct name, ci typ, .int .u64 bits, .slice ao params.length cap] 40 (0, 0))) := by rw [hW0]; exact alloc_new _ _
  obtain ⟨c0, c1, c2, c3, c4⟩ := box5 hb1H
  have hW0H : Hidden (W0 = _) := hW0
  clear hW0
  have kn := fun w => (N.rright_any name _ hrn hn w).mono (fun e w' h => (⟨h.1, n_fr h.2⟩ : _ ∧ Fr (fun _ => False) w w'))
  have kr := fun w => rrightv_any typ bits hbt w
  have h8' : decide ((8 : Int) < (params.length : Int)) = false := by simp; omega
  have hr1 : Hidden ((if (rightV typ bits && decide (params.length = 0)) = true then (0 : Int) else 1) = r) := hr
  clear hr hrn hn
  generalize rightV typ bits = rv at kr hr1
  generalize params.length = n at *
  by_cases h0 : n = 0
  · subst h0
    have hr2 : Hidden ((if rv = true then (0 : Int) else 1) = r) := by rw [← (show _ = r from hr1)]; simp [Hidden]
    clear hr1
    cases rv
    all_goals
      go_enter Tryd.func24, Tryd.ntmps24
      go_wp2_with fail
      rw [← (show W0 = _ from hW0H)]
      go_at_call 41
      refine (kn _).mono ?_
      rintro e w1 ⟨rfl, f1⟩
      have hb2H := f1.heap hb1H (fun f => f)
      replace hb2H : Hidden _ := hb2H
      obtain ⟨c0, c1, c2, c3, c4⟩ := box5 hb2H
      have g1 : Fr (fun _ => False) w w1 := f0.same f1
      go_wp2_with (go_at_call 13; refine (kr _).mono ?_; rintro e w2 ⟨rfl, f2⟩)
      go_ret
      exact ⟨ret_ci hr2, g1.same f2⟩
  · have hr2 : Hidden (1 = r) := by rw [← (show _ = r from hr1)]; simp [Hidden, h0]
    have hp : decide ((0 : Int) < (n : Int)) = true := by simp; omega
    have hp2 : 0 < n := by omega
    clear hr1 kr h0
    go_enter Tryd.func24, Tryd.ntmps24
    go_wp2_with fail
    rw [← (show W0 = _ from hW0H)]
    go_at_call 41
    refine (kn _).mono ?_
    rintro e w1 ⟨rfl, f1⟩
    have hb2H := f1.heap hb1H (fun f => f)
    replace hb2H : Hidden _ := hb2H
    obtain ⟨c0, c1, c2, c3, c4⟩ := box5 hb2H
    have g1 : Fr (fun _ => False) w w1 := f0.same f1
    go_wp2_with fail
    go_ret
    exact ⟨ret_ci hr2, g1⟩
set_option maxRecDepth 20000 in
set_option maxHeartbeats 2000000 in
theorem rrightItem_any (i : It) (v : Value) (w : World) (hi : ItI w i v) (ho : OkI i) : Calls Tryd.prog 24 #[v] w fun e w' => e = .returned (ci (rightI i)) ∧ Fr (fun _ => False) w w' := by
  obtain ⟨kind, name, typ, bits, params⟩ := i
  obtain ⟨ao, cap, rfl, h⟩ := hi
  have m1 := h.1
  have m2 : cap ≤ 9223372036854775807 := by have := h.2.1; unfold maxLen at this; omega
  have hn : OkN name := ho.name
  have hbt : U64 bits := ho.bits
  simp only at m1
  have e : rightI ⟨kind, name, typ, bits, params⟩ = if kind ≠ 1 ∧ kind ≠ 3 then 1 else if N.rightS name ≠ 0 then N.rightS name else if 8 < params.length then 3 else if kind = 1 then (if fitsConst ⟨kind, name, typ, bits, params⟩ then 0 else 1) else (if fitsFn ⟨kind, name, typ, bits, params⟩ then 0 else 1) := rfl
  rw [e]
  clear e
  simp only [itV]
  by_cases hk : kind ≠ 1 ∧ kind ≠ 3
  · rw [if_pos hk]
    obtain ⟨k1, k3⟩ := hk
    have b1 : (kind == 1) = false := by simp [k1]
    have b3 : (kind == 3) = false := by simp [k3]
    have c1 : (kind != 1) = true := by simp [k1]
    have c3 : (kind != 3) = true := by simp [k3]
    clear k1 k3 h ho hn hbt
    go_enter Tryd.func24, Tryd.ntmps24
    go_wp2_with fail
    go_ret
    exact ⟨rfl, Fr.alloc _ _ _⟩
  rw [if_neg hk]
  by_cases hrn : N.rightS name = 0
  · rw [if_neg (by simp [hrn])]
    by_cases h8 : 8 < params.length
    · rw [if_pos h8]
      have kn := fun w => (N.rright_any name _ hrn hn w).mono (fun e w' h => (⟨h.1, n_fr h.2⟩ : _ ∧ Fr (fun _ => False) w w'))
      have h8' : decide ((8 : Int) < (params.length : Int)) = true := by simp; omega
      have hk' : kind = 1 ∨ kind = 3 := by omega
      clear hk ho hbt hrn hn h
      rcases hk' with rfl | rfl
      · clear h8
        obtain ⟨W0, hW0⟩ : ∃ W, W = w.alloc (.cells #[ci 1, ct name, ci typ, .int .u64 bits, .slice ao params.length cap] 40) := ⟨_, rfl⟩
        have f0 : Fr (fun _ => False) w W0 := by rw [hW0]; exact Fr.alloc _ _ _
        have hb1H : Hidden (W0.heap[w.heap.size]? = some (.cells #[ci 1, ct name, ci typ, .int .u64 bits, .slice ao params.length cap] 40 (0, 0))) := by rw [hW0]; exact alloc_new _ _
        obtain ⟨c0, c1, c2, c3, c4⟩ := box5 hb1H
        have hW0H : Hidden (W0 = _) := hW0
        clear hW0
        go_enter Tryd.func24, Tryd.ntmps24
        go_wp2_with fail
        rw [← (show W0 = _ from hW0H)]
        go_at_call 41
        refine (kn _).mono ?_
        rintro e w1 ⟨rfl, f1⟩
        have hb2H := f1.heap hb1H (fun f => f)
        replace hb2H : Hidden _ := hb2H
        obtain ⟨c0, c1, c2, c3, c4⟩ := box5 hb2H
        have g1 : Fr (fun _ => False) w w1 := f0.same f1
        go_wp2_with fail
        go_ret
        exact ⟨rfl, g1⟩
      · clear h8
        obtain ⟨W0, hW0⟩ : ∃ W, W = w.alloc (.cells #[ci 3, ct name, ci typ, .int .u64 bits, .slice ao params.length cap] 40) := ⟨_, rfl⟩
        have f0 : Fr (fun _ => False) w W0 := by rw [hW0]; exact Fr.alloc _ _ _
        have hb1H : Hidden (W0.heap[w.heap.size]? = some (.cells #[ci 3, ct name, ci typ, .int .u64 bits, .slice ao params.length cap] 40 (0, 0))) := by rw [hW0]; exact alloc_new _ _
        obtain ⟨c0, c1, c2, c3, c4⟩ := box5 hb1H
        have hW0H : Hidden (W0 = _) := hW0
        clear hW0
        go_enter Tryd.func24, Tryd.ntmps24
        go_wp2_with fail
        rw [← (show W0 = _ from hW0H)]
        go_at_call 41
        refine (kn _).mono ?_
        rintro e w1 ⟨rfl, f1⟩
        have hb2H := f1.heap hb1H (fun f => f)
        replace hb2H : Hidden _ := hb2H
        obtain ⟨c0, c1, c2, c3, c4⟩ := box5 hb2H
        have g1 : Fr (fun _ => False) w w1 := f0.same f1
        go_wp2_with fail
        go_ret
        exact ⟨rfl, g1⟩
    · rw [if_neg h8]
      by_cases h1 : kind = 1
      · subst h1
        rw [if_pos rfl]
        exact rrightItem_const typ bits name params ao cap hbt w m1 m2 hrn hn (by omega) _ rfl
      · have h3 : kind = 3 := by omega
        subst h3
        rw [if_neg h1]
        exact rrightItem_fn typ bits name params ao cap w h hrn hn (by omega) _ rfl
  · rw [if_pos hrn]
    have kn := fun w => (N.rright_any name _ rfl hn w).mono (fun e w' h => (⟨h.1, n_fr h.2⟩ : _ ∧ Fr (fun _ => False) w w'))
    generalize N.rightS name = rn at kn hrn ⊢
    have b0 : (rn == 0) = false := by simp [hrn]
    have b1 : (rn != 0) = true := by simp [hrn]
    have hk' : kind = 1 ∨ kind = 3 := by omega
    clear hk ho hbt hrn hn h
    rcases hk' with rfl | rfl
    all_goals
      go_enter Tryd.func24, Tryd.ntmps24
      go_wp2_with (go_at_call 41; refine (kn _).mono ?_; rintro e w1 ⟨rfl, f1⟩)
      go_ret
      exact ⟨rfl, (Fr.alloc _ _ _).same f1⟩
/-- What is still to come of a list of parameters. -/
def restS : List Int → Bs
  | [] => []
  | t :: r => [44, 32] ++ nameS t ++ restS r
theorem paramsS_rest (t : Int) (r : List Int) : paramsS (t :: r) = nameS t ++ restS r := by
  induction r generalizing t with
  | nil => simp [paramsS, joinS, restS]
  | cons u r ih =>
    have := ih u
    unfold paramsS at this ⊢
    simp only [List.map_cons, joinS] at this ⊢
    rw [this]
    simp [restS]
def leftS (l : List Int) (i : Nat) : Bs := if i = 0 then paramsS l else restS (l.drop i)
set_option maxRecDepth 20000 in
set_option maxHeartbeats 4000000 in
theorem rtext_fn (typ bits : Int) (name : Bs) (params : List Int) (ao : Option Addr) (cap : Nat) (w : World) (h : InL w ao cap params) (T : Bs) (hT : Hidden ([102, 110, 32] ++ name ++ [40] ++ paramsS params ++ [41] ++ resultS typ = T)) (hl : T.length ≤ 9223372036854775807) :
    Calls Tryd.prog 28 #[.agg #[ci 3, ct name, ci typ, .int .u64 bits, .slice ao params.length cap]] w fun e w' => e = .returned (ct T) ∧ Fr (fun _ => False) w w' := by
  obtain ⟨W0, hW0⟩ : ∃ W, W = w.alloc (.cells #[ci 3, ct name, ci typ, .int .u64 bits, .slice ao params.length cap] 40) := ⟨_, rfl⟩
  have f0 : Fr (fun _ => False) w W0 := by rw [hW0]; exact Fr.alloc _ _ _
  have hb1H : Hidden (W0.heap[w.heap.size]? = some (.cells #[ci 3, ct name, ci typ, .int .u64 bits, .slice ao params.length cap] 40 (0, 0))) := by rw [hW0]; exact alloc_new _ _
  obtain ⟨c0, c1, c2, c3, c4⟩ := box5 hb1H
  have hW0H : Hidden (W0 = _) := hW0
  clear hW0
  have hcH : Hidden (InL w ao cap params) := h
  have m1 := h.1
  have m2 : cap ≤ 9223372036854775807 := by have := h.2.1; unfold maxLen at this; omega
  obtain ⟨P1, hP1⟩ : ∃ C, [102, 110, 32] ++ name = C := ⟨_, rfl⟩
  obtain ⟨P2, hP2⟩ : ∃ C, P1 ++ [40] = C := ⟨_, rfl⟩
  have hT1 : P2 ++ paramsS params ++ [41] ++ resultS typ = T := by rw [← hP2, ← hP1]; exact hT
  have hlen := congrArg List.length hT1
  have hlen2 := congrArg List.length hP2
  simp only [List.length_append, List.length_cons, List.length_nil] at hlen hlen2
  have t1 := catv [102, 110, 32] name P1 hP1 (by omega)
  have t2 := catv P1 [40] P2 hP2 (by omega)
  have hTH : Hidden (P2 ++ paramsS params ++ [41] ++ resultS typ = T) := hT1
  clear hT hT1 hlen hlen2 hP1 hP2 h
  go_enter Tryd.func28, Tryd.ntmps28
  go_wp2_with fail
  rw [← (show W0 = _ from hW0H)]
  go_loopg [3, 4] params.length (fun k av iv wr => ∃ (j : Nat) (A : Bs), av = ct A ∧ iv = ci (j : Int) ∧ j ≤ params.length ∧ k = params.length - j ∧ wr = W0 ∧ A ++ leftS params j ++ [41] ++ resultS typ = T)
  case atStart => exact ⟨0, P2, rfl, rfl, by omega, rfl, rfl, hTH⟩
  case round =>
    obtain ⟨j, A, rfl, rfl, hj, hk, hwr, hI⟩ := hrel
    subst hwr
    have hkH : Hidden (gk = params.length - j) := hk
    have hIH : Hidden (A ++ leftS params j ++ [41] ++ resultS typ = T) := hI
    clear hk hI hTH t1 t2
    by_cases hjl : j < params.length
    · obtain ⟨x, hx⟩ : ∃ x, params[j]? = some x := ⟨params[j], List.getElem?_eq_getElem hjl⟩
      rcases (show InL w ao cap params from hcH).2.2.2 with h0 | ⟨b, off, rfl, hc⟩
      · rw [h0] at hx; simp at hx
      have e1 := f0.cellN (hc j x hx)
      have kx := fun w => rname_any x w
      have hd := drop_at hx
      obtain ⟨nx, hnx⟩ : ∃ n, nameS x = n := ⟨_, rfl⟩
      rw [hnx] at kx
      by_cases hj0 : j = 0
      · subst hj0
        rw [Nat.add_zero] at e1
        obtain ⟨C, hC⟩ : ∃ C, A ++ nx = C := ⟨_, rfl⟩
        have hI2 : Hidden (C ++ leftS params 1 ++ [41] ++ resultS typ = T) := by
          rw [← (show _ = T from hIH), ← hC, ← hnx]
          show _ = _
          have : leftS params 0 = nameS x ++ leftS params 1 := by
            unfold leftS
            rw [if_pos rfl, if_neg (by decide)]
            simp only [List.drop_zero] at hd
            conv => lhs; rw [hd]
            rw [paramsS_rest]
          rw [this]
          simp only [List.append_assoc]
        have t3 := catv A nx C hC (by have := congrArg List.length (show _ = T from hI2); simp only [List.length_append] at this; omega)
        clear hIH hd hx hc hnx hC
        go_wp2_with (go_at_call 11; refine (kx _).mono ?_; rintro e w3 ⟨rfl, hw3⟩; rw [hw3]; clear hw3)
        go_roundg (params.length - 1)
        case measure => have := (show gk = params.length - 0 from hkH); omega
        case rel => exact ⟨1, C, rfl, by go_num, by omega, rfl, rfl, hI2⟩
      · obtain ⟨C0, hC0⟩ : ∃ C, A ++ [44, 32] = C := ⟨_, rfl⟩
        obtain ⟨C, hC⟩ : ∃ C, C0 ++ nx = C := ⟨_, rfl⟩
        have hI2 : Hidden (C ++ leftS params (j + 1) ++ [41] ++ resultS typ = T) := by
          rw [← (show _ = T from hIH), ← hC, ← hC0, ← hnx]
          show _ = _
          have : leftS params j = [44, 32] ++ nameS x ++ leftS params (j + 1) := by
            unfold leftS
            rw [if_neg hj0, if_neg (by omega), hd]
            rfl
          rw [this]
          simp only [List.append_assoc]
        have hln := congrArg List.length (show _ = T from hI2)
        have hln2 := congrArg List.length hC
        simp only [List.length_append] at hln hln2
        have t3 := catv A [44, 32] C0 hC0 (by omega)
        have t4 := catv C0 nx C hC (by omega)
        have hp : decide ((0 : Int) < (j : Int)) = true := by simp; omega
        have hp2 : 0 < j := by omega
        clear hIH hd hx hc hnx hC hC0 hln hln2 hj0
        go_wp2_with (go_at_call 11; refine (kx _).mono ?_; rintro e w3 ⟨rfl, hw3⟩; rw [hw3]; clear hw3)
        go_roundg (params.length - (j + 1))
        case measure => have := (show gk = params.length - j from hkH); omega
        case rel => exact ⟨j + 1, C, rfl, by go_num, by omega, rfl, rfl, hI2⟩
    · obtain rfl : j = params.length := by omega
      have hI2 : A ++ [41] ++ resultS typ = T := by
        rw [← (show _ = T from hIH)]
        have : leftS params params.length = [] := by
          unfold leftS
          by_cases h0 : params.length = 0
          · rw [if_pos h0, List.eq_nil_of_length_eq_zero h0]; rfl
          · rw [if_neg h0, List.drop_length]; rfl
        rw [this, List.append_nil]
      obtain ⟨C0, hC0⟩ : ∃ C, A ++ [41] = C := ⟨_, rfl⟩
      rw [hC0] at hI2
      have hln := congrArg List.length hI2
      simp only [List.length_append] at hln
      have t3 := catv A [41] C0 hC0 (by omega)
      have kn := fun w => rname_any typ w
      unfold resultS at hI2 hln
      generalize nameS typ = nt at kn hI2 hln
      clear hIH hC0
      by_cases hnt : nt = []
      · subst hnt
        rw [if_pos rfl, List.append_nil] at hI2
        subst hI2
        go_wp2_with (go_at_call 11; refine (kn _).mono ?_; rintro e w3 ⟨rfl, hw3⟩; rw [hw3]; clear hw3)
        go_ret
        exact ⟨rfl, f0⟩
      · rw [if_neg hnt] at hI2 hln
        rw [← List.append_assoc] at hI2
        obtain ⟨C1, hC1⟩ : ∃ C, C0 ++ [58, 32] = C := ⟨_, rfl⟩
        rw [hC1] at hI2
        have hln1 := congrArg List.length hI2
        simp only [List.length_append] at hln1
        have t4 := catv C0 [58, 32] C1 hC1 (by omega)
        have t5 := catv C1 nt T hI2 hl
        have he : List.isEmpty nt = false := by cases nt with | nil => exact absurd rfl hnt | cons a b => rfl
        have hb : (nt == []) = false := by simpa using hnt
        have hb2 : (nt != []) = true := by simpa using hnt
        clear hnt hI2 hln hln1 hC1
        go_wp2_with (go_at_call 11; refine (kn _).mono ?_; rintro e w3 ⟨rfl, hw3⟩; rw [hw3]; clear hw3)
        go_ret
        exact ⟨rfl, f0⟩
set_option maxRecDepth 20000 in
set_option maxHeartbeats 4000000 in
theorem rtext_any (i : It) (v : Value) (w : World) (ht : F.Tab w) (hi : ItI w i v) (ho : OkI i) (h8 : i.params.length ≤ 8000000000000) (hn : i.name.length ≤ 1000000000000000) : Calls Tryd.prog 28 #[v] w fun e w' => e = .returned (ct (textI i)) ∧ Fr (fun _ => False) w w' := by
  obtain ⟨kind, name, typ, bits, params⟩ := i
  obtain ⟨ao, cap, rfl, h⟩ := hi
  have hb : U64 bits := ho.bits
  simp only [itV] at *
  obtain ⟨T, hT⟩ : ∃ T, textI ⟨kind, name, typ, bits, params⟩ = T := ⟨_, rfl⟩
  rw [hT]
  unfold textI at hT
  simp only at hT
  by_cases hk1 : kind = 1
  · subst hk1
    rw [if_pos rfl] at hT
    have kn := fun w => (rname_any typ w)
    have ks := fun (w1 : World) (f : Fr (fun _ => False) w w1) => rshow_any typ bits hb w1 (tab_fr ht f)
    have hT2 : Hidden ([99, 111, 110, 115, 116, 32] ++ name ++ [58, 32] ++ nameS typ ++ [32, 61, 32] ++ showS typ bits = T) := hT
    have l1 := nameS_len typ
    have l2 := showS_len typ bits hb
    generalize nameS typ = nt at kn hT2 l1
    generalize showS typ bits = st at ks hT2 l2
    clear hT
    obtain ⟨C1, hC1⟩ : ∃ C, [99, 111, 110, 115, 116, 32] ++ name = C := ⟨_, rfl⟩
    obtain ⟨C2, hC2⟩ : ∃ C, C1 ++ [58, 32] = C := ⟨_, rfl⟩
    obtain ⟨C3, hC3⟩ : ∃ C, C2 ++ nt = C := ⟨_, rfl⟩
    obtain ⟨C4, hC4⟩ : ∃ C, C3 ++ [32, 61, 32] = C := ⟨_, rfl⟩
    have hZ := (show _ = T from hT2)
    rw [hC1] at hZ
    rw [hC2] at hZ
    rw [hC3] at hZ
    rw [hC4] at hZ
    have lhC1 := congrArg List.length hC1
    simp only [List.length_append, List.length_cons, List.length_nil] at lhC1
    have lhC2 := congrArg List.length hC2
    simp only [List.length_append, List.length_cons, List.length_nil] at lhC2
    have lhC3 := congrArg List.length hC3
    simp only [List.length_append, List.length_cons, List.length_nil] at lhC3
    have lhC4 := congrArg List.length hC4
    simp only [List.length_append, List.length_cons, List.length_nil] at lhC4
    have lhZ := congrArg List.length hZ
    simp only [List.length_append, List.length_cons, List.length_nil] at lhZ
    have t1 := catv [99, 111, 110, 115, 116, 32] name _ hC1 (by omega)
    have t2 := catv C1 [58, 32] _ hC2 (by omega)
    have t3 := catv C2 nt _ hC3 (by omega)
    have t4 := catv C3 [32, 61, 32] _ hC4 (by omega)
    have t5 := catv C4 st _ hZ (by omega)
    clear lhC1 lhC2 lhC3 lhC4 lhZ hC1 hC2 hC3 hC4 hZ hT2
    obtain ⟨W0, hW0⟩ : ∃ W, W = w.alloc (.cells #[ci 1, ct name, ci typ, .int .u64 bits, .slice ao params.length cap] 40) := ⟨_, rfl⟩
    have f0 : Fr (fun _ => False) w W0 := by rw [hW0]; exact Fr.alloc _ _ _
    have hb1H : Hidden (W0.heap[w.heap.size]? = some (.cells #[ci 1, ct name, ci typ, .int .u64 bits, .slice ao params.length cap] 40 (0, 0))) := by rw [hW0]; exact alloc_new _ _
    obtain ⟨c0, c1, c2, c3, c4⟩ := box5 hb1H
    have hW0H : Hidden (W0 = _) := hW0
    clear hW0
    go_enter Tryd.func28, Tryd.ntmps28
    go_wp2_with fail
    rw [← (show W0 = _ from hW0H)]
    refine wp_region_grow (by kernel_rfl) (by kernel_rfl) ?_
    (repeat (first | (refine grow_op (v := ?_) ?_ ?_ ?_; rotate_left; (focus (first | exact wanted_none rfl | (go_simp; done))); (focus (intro w' hw'; have c0 := hw'.cellN c0; have c1 := hw'.cellN c1; have c2 := hw'.cellN c2; have c3 := hw'.cellN c3; have c4 := hw'.cellN c4; (go_simp; first | with_reducible rfl | (go_at_call 11; refine calls_grow hw' ?_; first | (have q := (kn w').mono (fun e w'' h => (⟨h.1, h.2 ▸ Fr.refl _ _⟩ : _ ∧ Fr (fun _ => False) w' w'')); with_reducible exact q)) | (go_at_call 17; refine calls_grow hw' ?_; first | (have q := ks w' (f0.same hw'); with_reducible exact q))))); (intro a' ha; simp only [Act.put, List.setIfInBounds_toArray, List.set_cons_zero, List.set_cons_succ] at ha; subst ha)) | (refine grow_no ?_ ?_; (focus (go_simp; done)); (intro a' ha; simp only [Act.put, List.setIfInBounds_toArray, List.set_cons_zero, List.set_cons_succ] at ha; subst ha)))); refine grow_nil ?_; intro w1 k1
    go_wp2_with fail
    go_ret
    exact ⟨rfl, f0.same k1⟩
  rw [if_neg hk1] at hT
  by_cases hk3 : kind = 3
  · subst hk3
    rw [if_pos rfl] at hT
    have hlen := congrArg List.length hT
    have l1 : (resultS typ).length ≤ 7 := by unfold resultS; have := nameS_len typ; split <;> simp; omega
    have l2 := paramsS_len params
    simp only [List.length_append, List.length_cons, List.length_nil] at hlen
    exact rtext_fn typ bits name params ao cap w h T hT (by omega)
  · rw [if_neg hk3] at hT
    subst hT
    have b1 : (kind == 1) = false := by simp [hk1]
    have b3 : (kind == 3) = false := by simp [hk3]
    clear hk1 hk3 ho hb
    go_enter Tryd.func28, Tryd.ntmps28
    go_wp2_with fail
    go_ret
    exact ⟨rfl, Fr.alloc _ _ _⟩
end Go.Proofs.YtddkmefpfhdliaaDoor.Ty
