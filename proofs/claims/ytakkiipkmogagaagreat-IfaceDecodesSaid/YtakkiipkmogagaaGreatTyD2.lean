/- Items that are right. -/
import Derived.Test.YtakkiipkmogagaaGreatTyD
namespace Go.Proofs.YtakkiipkmogagaaGreat.Ty
open Go.RowKit
set_option linter.unusedSimpArgs false
set_option linter.unusedVariables false


theorem none_any (t : Int) (w : World) : Calls Tryz.prog 102 #[ci t] w fun e w' => e = .returned (.bool (!valued t)) ∧ w' = w := by
  have kv := ofv_any t
  generalize valued t = b at kv ⊢
  go_enter Tryz.func102, Tryz.ntmps102
  go_wp2_with (go_at_call 103; refine (kv _).mono ?_; rintro e w' ⟨rfl, rfl⟩)
  go_ret
  exact ⟨rfl, rfl⟩
def idxNo : List Int → Nat → Int
  | [], _ => -1
  | t :: r, i => if valued t then idxNo r (i + 1) else (i : Int)
theorem idxNo_spec : ∀ (l : List Int) (i : Nat), (idxNo l i = -1 ∧ l.all valued = true) ∨ (0 ≤ idxNo l i ∧ l.all valued = false)
  | [], i => Or.inl ⟨rfl, rfl⟩
  | t :: r, i => by
    unfold idxNo
    by_cases h : valued t = true
    · rw [if_pos h, List.all_cons, h, Bool.true_and]
      exact idxNo_spec r (i + 1)
    · rw [if_neg h, List.all_cons]
      right
      refine ⟨by omega, by simp [h]⟩
theorem drop_at {α : Type} {l : List α} {j : Nat} {c : α} (h : l[j]? = some c) : l.drop j = c :: l.drop (j + 1) := by
  obtain ⟨hj, e⟩ := List.getElem?_eq_some_iff.1 h
  rw [List.drop_eq_getElem_cons hj, e]
set_option maxHeartbeats 800000 in
theorem index_any (ao : Option Addr) (n cap : Nat) (l : List Int) (w : World) (hn : Hidden (l.length = n)) (h : InL w ao cap l) (R : Int) (hR : Hidden (idxNo l 0 = R)) :
    Calls Tryz.prog 122 #[.slice ao n cap, .func (.func 102) #[] #[]] w fun e w' => e = .returned (ci R) ∧ w' = w := by
  obtain ⟨h1, h2, h3, h4⟩ := h
  have hm : cap ≤ 9223372036854775807 := by unfold maxLen at h2; omega
  have hnc : n ≤ cap := by have : l.length = n := hn; omega
  have h4H : Hidden (l = [] ∨ ∃ b off, ao = some ⟨b, off, none⟩ ∧ ∀ (i : Nat) (x : Int), l[i]? = some x → w.cell? ⟨b, off + i, none⟩ = some (ci x)) := h4
  clear h1 h2 h3 h4
  go_enter Tryz.func122, Tryz.ntmps122
  go_wp2
  go_loopg [8] n (fun k iv wr => ∃ j : Nat, iv = ci (j : Int) ∧ j ≤ n ∧ k = n - j ∧ wr = w ∧ idxNo (l.drop j) j = R)
  case atStart => exact ⟨0, rfl, by omega, rfl, rfl, hR⟩
  case round =>
    obtain ⟨j, rfl, hj, hk, rfl, hI⟩ := hrel
    have hkH : Hidden (gk = n - j) := hk
    have hIH : Hidden (idxNo (l.drop j) j = R) := hI
    clear hk hI hR
    have hln : l.length = n := hn
    by_cases hjl : j < n
    · obtain ⟨x, hx⟩ : ∃ x, l[j]? = some x := ⟨l[j], List.getElem?_eq_getElem (by omega)⟩
      rcases (show l = [] ∨ _ from h4H) with h0 | ⟨b, off, rfl, hc⟩
      · rw [h0] at hx; simp at hx
      have c1 := hc j x hx
      have kn := fun w => none_any x w
      have hd := drop_at hx
      have hxH : Hidden (l[j]? = some x) := hx
      clear hln hx hc
      cases hv : valued x
      · rw [hv] at kn
        have hRR : Hidden (R = (j : Int)) := by rw [← (show _ = R from hIH), hd]; simp [Hidden, idxNo, hv]
        clear hIH hd hv
        go_wp2_with (go_at_call 102; refine (kn _).mono ?_; rintro e w' ⟨rfl, rfl⟩)
        go_ret
        exact ⟨ret_ci (show R = _ from hRR).symm, rfl⟩
      · rw [hv] at kn
        have hRR : Hidden (idxNo (l.drop (j + 1)) (j + 1) = R) := by rw [← (show _ = R from hIH), hd]; simp [Hidden, idxNo, hv]
        clear hIH hd hv
        go_wp2_with (go_at_call 102; refine (kn _).mono ?_; rintro e w' ⟨rfl, rfl⟩)
        go_roundg (n - (j + 1))
        case measure => have := (show gk = n - j from hkH); omega
        case rel => exact ⟨j + 1, by go_num, by omega, rfl, rfl, hRR⟩
    · obtain rfl : j = n := by omega
      have hRR : Hidden (R = -1) := by
        rw [← (show _ = R from hIH), List.drop_of_length_le (by omega)]
        rfl
      clear hIH hln
      go_wp2
      go_ret
      exact ⟨ret_ci (show R = _ from hRR).symm, rfl⟩
theorem contains_any (ao : Option Addr) (cap : Nat) (l : List Int) (w : World) (h : InL w ao cap l) :
    Calls Tryz.prog 104 #[.slice ao l.length cap, .func (.func 102) #[] #[]] w fun e w' => e = .returned (.bool (!l.all valued)) ∧ w' = w := by
  have ki := index_any ao l.length cap l w rfl h _ rfl
  rcases idxNo_spec l 0 with ⟨e1, e2⟩ | ⟨e1, e2⟩
  · rw [e1] at ki
    rw [e2]
    generalize l.length = n at ki ⊢
    go_enter Tryz.func104, Tryz.ntmps104
    go_wp2_with (go_at_call 122; refine ki.mono ?_; rintro e w' ⟨rfl, rfl⟩)
    go_ret
    exact ⟨rfl, rfl⟩
  · rw [e2]
    generalize idxNo l 0 = R at ki e1
    generalize l.length = n at ki ⊢
    have hd : decide ((0 : Int) ≤ R) = true := by simpa using e1
    clear e1 e2
    go_enter Tryz.func104, Tryz.ntmps104
    go_wp2_with (go_at_call 122; refine ki.mono ?_; rintro e w' ⟨rfl, rfl⟩)
    go_ret
    exact ⟨rfl, rfl⟩
set_option maxRecDepth 20000 in
set_option maxHeartbeats 1000000 in
theorem fitsFn_w (kind typ bits : Int) (name : Bs) (params : List Int) (ao : Option Addr) (cap : Nat) (w : World) (h : InL w ao cap params) (r : Bool) (hr : Hidden (fitsFn ⟨kind, name, typ, bits, params⟩ = r)) :
    Calls Tryz.prog 67 #[.agg #[ci kind, ct name, ci typ, .int .u64 bits, .slice ao params.length cap]] w fun e w' => e = .returned (.bool r) ∧ Fr (fun _ => False) w w' := by
  have f0 := Fr.alloc (fun _ => False) w (.cells #[ci kind, ct name, ci typ, .int .u64 bits, .slice ao params.length cap] 47)
  have kc := contains_any ao cap params _ (h.keep f0)
  have kv := ofv_any typ
  have hr1 : Hidden (((typ == 0 || valued typ) && bits == 0 && params.all valued) = r) := hr
  clear hr h
  generalize params.all valued = al at kc hr1
  generalize valued typ = vt at kv hr1
  cases h0 : (typ == 0)
  · cases vt
    · have hr2 : Hidden (false = r) := by rw [← (show _ = r from hr1), h0]; rfl
      clear hr1 kc
      go_enter Tryz.func67, Tryz.ntmps67
      go_wp2_with (go_at_call 103; refine (kv _).mono ?_; rintro e w' ⟨rfl, rfl⟩)
      go_ret
      exact ⟨ret_bl hr2, f0⟩
    · cases hb : (bits == 0)
      · have hr2 : Hidden (false = r) := by rw [← (show _ = r from hr1), h0, hb]; rfl
        clear hr1 kc
        go_enter Tryz.func67, Tryz.ntmps67
        go_wp2_with (go_at_call 103; refine (kv _).mono ?_; rintro e w' ⟨rfl, rfl⟩)
        go_ret
        exact ⟨ret_bl hr2, f0⟩
      · have hr2 : Hidden (al = r) := by rw [← (show _ = r from hr1), h0, hb]; rfl
        clear hr1
        go_enter Tryz.func67, Tryz.ntmps67
        go_wp2_with (first
          | (go_at_call 103; refine (kv _).mono ?_; rintro e w' ⟨rfl, rfl⟩)
          | (go_at_call 104; refine kc.mono ?_; rintro e w' ⟨rfl, rfl⟩))
        go_ret
        exact ⟨ret_bl (by simpa using (show al = r from hr2)), f0⟩
  · cases hb : (bits == 0)
    · have hr2 : Hidden (false = r) := by rw [← (show _ = r from hr1), h0, hb]; rfl
      clear hr1 kc kv
      go_enter Tryz.func67, Tryz.ntmps67
      go_wp2_with fail
      go_ret
      exact ⟨ret_bl hr2, f0⟩
    · have hr2 : Hidden (al = r) := by rw [← (show _ = r from hr1), h0, hb]; rfl
      clear hr1 kv
      go_enter Tryz.func67, Tryz.ntmps67
      go_wp2_with (go_at_call 104; refine kc.mono ?_; rintro e w' ⟨rfl, rfl⟩)
      go_ret
      exact ⟨ret_bl (by simpa using (show al = r from hr2)), f0⟩
set_option maxRecDepth 20000 in
set_option maxHeartbeats 1000000 in
theorem fitsConst_w (kind typ bits : Int) (name : Bs) (params : List Int) (ao : Option Addr) (cap : Nat) (hb : U64 bits) (w : World) (h1 : params.length ≤ cap) (h2 : cap ≤ 9223372036854775807) (r : Bool) (hr : Hidden (fitsConst ⟨kind, name, typ, bits, params⟩ = r)) :
    Calls Tryz.prog 66 #[.agg #[ci kind, ct name, ci typ, .int .u64 bits, .slice ao params.length cap]] w fun e w' => e = .returned (.bool r) ∧ Fr (fun _ => False) w w' := by
  have f0 := Fr.alloc (fun _ => False) w (.cells #[ci kind, ct name, ci typ, .int .u64 bits, .slice ao params.length cap] 47)
  have hbx : Hidden ((w.alloc (.cells #[ci kind, ct name, ci typ, .int .u64 bits, .slice ao params.length cap] 47)).heap[w.heap.size]? = some (.cells #[ci kind, ct name, ci typ, .int .u64 bits, .slice ao params.length cap] 47 (0, 0))) := alloc_new _ _
  have ko := fun w => valueOf_any ⟨kind, name, typ, bits, params⟩ (.slice ao params.length cap) w
  have kr := fun w => rightv_any typ bits hb w
  have hr1 : Hidden ((rightV typ bits && decide (params.length = 0)) = r) := hr
  clear hr
  generalize params.length = n at *
  generalize rightV typ bits = rv at kr hr1
  cases rv
  · have hr2 : Hidden (false = r) := hr1
    clear hr1
    go_enter Tryz.func66, Tryz.ntmps66
    go_wp2_with (first
      | (go_at_call 101; refine (ko _).mono ?_; rintro e w1 ⟨rfl, f1⟩)
      | (go_at_call 100; refine (kr _).mono ?_; rintro e w2 ⟨rfl, f2⟩))
    go_ret
    exact ⟨ret_bl hr2, (f0.same f1).same f2⟩
  · have hr2 : Hidden (((n : Int) == 0) = r) := by
      rw [← (show _ = r from hr1)]
      show _ = _
      rw [Bool.eq_iff_iff]
      simp
    clear hr1
    go_enter Tryz.func66, Tryz.ntmps66
    go_wp2_with (first
      | (go_at_call 101; refine (ko _).mono ?_; rintro e w1 ⟨rfl, f1⟩)
      | (go_at_call 100; refine (kr _).mono ?_; rintro e w2 ⟨rfl, f2⟩; obtain ⟨c0, c1, c2, c3, c4⟩ := box5 ((f1.same f2).heap hbx (fun f => f))))
    go_ret
    exact ⟨ret_bl hr2, (f0.same f1).same f2⟩
set_option maxRecDepth 20000 in
set_option maxHeartbeats 2000000 in
theorem rightItem_w (kind typ bits : Int) (name : Bs) (params : List Int) (ao : Option Addr) (cap : Nat) (hb : U64 bits) (hn : OkN name) (w : World) (h : InL w ao cap params) (r : Int) (hr : Hidden (rightI ⟨kind, name, typ, bits, params⟩ = r)) :
    Calls Tryz.prog 33 #[.agg #[ci kind, ct name, ci typ, .int .u64 bits, .slice ao params.length cap]] w fun e w' => e = .returned (ci r) ∧ Fr (fun _ => False) w w' := by
  have f0 := Fr.alloc (fun _ => False) w (.cells #[ci kind, ct name, ci typ, .int .u64 bits, .slice ao params.length cap] 47)
  have hbx : Hidden ((w.alloc (.cells #[ci kind, ct name, ci typ, .int .u64 bits, .slice ao params.length cap] 47)).heap[w.heap.size]? = some (.cells #[ci kind, ct name, ci typ, .int .u64 bits, .slice ao params.length cap] 47 (0, 0))) := alloc_new _ _
  have m1 := h.1
  have m2 : cap ≤ 9223372036854775807 := by have := h.2.1; unfold maxLen at this; omega
  have kn := fun w => N.right_any name _ rfl hn w
  have kf := fun (w1 : World) (f : Fr (fun _ => False) w w1) => fitsFn_w kind typ bits name params ao cap w1 (h.keep f) _ rfl
  have kc := fun w => fitsConst_w kind typ bits name params ao cap hb w m1 m2 _ rfl
  have hr1 : Hidden ((if kind ≠ 1 ∧ kind ≠ 3 then 1 else if N.rightS name ≠ 0 then N.rightS name else if 8 < params.length then 3 else if kind = 1 then (if fitsConst ⟨kind, name, typ, bits, params⟩ then 0 else 1) else (if fitsFn ⟨kind, name, typ, bits, params⟩ then 0 else 1)) = r) := hr
  clear hr h
  generalize params.length = n at *
  generalize fitsConst ⟨kind, name, typ, bits, params⟩ = fc at kc hr1
  generalize fitsFn ⟨kind, name, typ, bits, params⟩ = ff at kf hr1
  generalize N.rightS name = rn at kn hr1
  by_cases hk : kind ≠ 1 ∧ kind ≠ 3
  · have hr2 : Hidden (1 = r) := by rw [← (show _ = r from hr1), if_pos hk]; rfl
    obtain ⟨k1, k3⟩ := hk
    have b1 : (kind == 1) = false := by simp [k1]
    have b3 : (kind == 3) = false := by simp [k3]
    have c1 : (kind != 1) = true := by simp [k1]
    have c3 : (kind != 3) = true := by simp [k3]
    clear hr1 k1 k3
    go_enter Tryz.func33, Tryz.ntmps33
    go_wp2_with fail
    go_ret
    exact ⟨ret_ci hr2, f0⟩
  have hk' : kind = 1 ∨ kind = 3 := by omega
  rw [Hidden, if_neg hk] at hr1
  clear hk
  by_cases hrn : rn = 0
  · subst hrn
    rw [if_neg (by simp)] at hr1
    by_cases h8 : 8 < n
    · rw [if_pos h8] at hr1
      subst hr1
      have h8' : decide ((8 : Int) < (n : Int)) = true := by simp; omega
      rcases hk' with rfl | rfl
      all_goals
        go_enter Tryz.func33, Tryz.ntmps33
        go_wp2_with (go_at_call 32; refine (kn _).mono ?_; rintro e w1 ⟨rfl, rfl⟩)
        go_ret
        exact ⟨rfl, f0⟩
    · rw [if_neg h8] at hr1
      have h8' : decide ((8 : Int) < (n : Int)) = false := by simp; omega
      rcases hk' with rfl | rfl
      · rw [if_pos rfl] at hr1
        have hr2 : Hidden ((if fc = true then (0 : Int) else 1) = r) := hr1
        clear hr1 kf h8
        cases fc
        all_goals
          go_enter Tryz.func33, Tryz.ntmps33
          go_wp2_with (first
            | (go_at_call 32; refine (kn _).mono ?_; rintro e w1 ⟨rfl, rfl⟩)
            | (go_at_call 66; refine (kc _).mono ?_; rintro e w2 ⟨rfl, f2⟩; obtain ⟨c0, c1, c2, c3, c4⟩ := box5 (f2.heap hbx (fun f => f))))
          go_ret
          exact ⟨ret_ci hr2, f0.same f2⟩
      · rw [if_neg (by decide)] at hr1
        have hr2 : Hidden ((if ff = true then (0 : Int) else 1) = r) := hr1
        clear hr1 kc h8
        cases ff
        all_goals
          go_enter Tryz.func33, Tryz.ntmps33
          go_wp2_with (first
            | (go_at_call 32; refine (kn _).mono ?_; rintro e w1 ⟨rfl, rfl⟩)
            | (go_at_call 67; refine (kf _ f0).mono ?_; rintro e w2 ⟨rfl, f2⟩))
          go_ret
          exact ⟨ret_ci hr2, f0.same f2⟩
  · rw [if_pos hrn] at hr1
    subst hr1
    have b0 : (rn == 0) = false := by simp [hrn]
    have b1 : (rn != 0) = true := by simp [hrn]
    clear hrn
    rcases hk' with rfl | rfl
    all_goals
      go_enter Tryz.func33, Tryz.ntmps33
      go_wp2_with (go_at_call 32; refine (kn _).mono ?_; rintro e w1 ⟨rfl, rfl⟩)
      go_ret
      exact ⟨rfl, f0⟩
theorem rightItem_any (i : It) (v : Value) (w : World) (hi : ItI w i v) (ho : OkI i) : Calls Tryz.prog 33 #[v] w fun e w' => e = .returned (ci (rightI i)) ∧ Fr (fun _ => False) w w' := by
  obtain ⟨kind, name, typ, bits, la⟩ := i
  obtain ⟨ao, ca, rfl, ha⟩ := hi
  exact rightItem_w kind typ bits name la ao ca ho.bits ho.name w ha _ rfl
end Go.Proofs.YtakkiipkmogagaaGreat.Ty
