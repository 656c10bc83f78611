/- Texts of ours, in one. -/
import Derived.Test.YtoiglopilpoafaaGreatDoorPk31
import Derived.Test.YtoiglopilpoafaaGreatDoorPk28
import Derived.Test.YtoiglopilpoafaaGreatDoorPk30
namespace Go.Proofs.YtoiglopilpoafaaGreatDoor.Im
open Go.RowKit Ty Cd
set_option linter.unusedSimpArgs false
set_option linter.unusedVariables false
set_option maxRecDepth 20000

/-- slices.Clone of ints. -/
theorem clone_i (ao : Option Addr) (n cap : Nat) (l : List Int) (hn : l.length = n) (w : World) (h : InL w ao cap l) (hb : n ≤ 17592186044416) :
    Calls Tryz.prog 33 #[.slice ao n cap] w fun e w' => ∃ v', e = .returned v' ∧ OwI w' w.heap.size v' l ∧ Fr (fun _ => False) w w' := by
  have q : ∀ (w : World) (a : Option Addr) (n c n' c' : Nat), (binOp .eql 41 (.slice a n c) (.slice none n' c')).run Tryz.prog w = .ok (.bool a.isNone) w := fun w a n c n' c' => Lib.run_eql_slice_nil w _ _ a n c n' c' Tryz.underlying41
  have hH : Hidden (InL w ao cap l) := h
  have hnH : Hidden (l.length = n) := hn
  have hbH : Hidden (n ≤ 17592186044416) := hb
  cases ao with
  | none =>
    obtain rfl := h.2.2.1 rfl
    have h0 := h.1
    obtain rfl : l = [] := List.eq_nil_of_length_eq_zero (by omega)
    obtain rfl : n = 0 := hn.symm
    clear hb hbH hH h hn h0
    go_enter Tryz.func33, Tryz.ntmps33
    go_wp2
    go_ret
    exact ⟨_, rfl, own_nil _ _ _ _, Fr.refl _ _⟩
  | some a =>
    clear hb h hn
    go_enter Tryz.func33, Tryz.ntmps33
    go_wp2_with (at_builtin
                 refine wpl_ints rfl _ _ rfl w.heap.size w.heap.size (some a) n cap l rfl rfl (alloc_new w _) (Nat.le_refl _) ?g1 hnH ?g2 hbH ?_
                 case g1 => simp
                 case g2 => exact InL.keep (show InL w (some a) cap l from hH) (Fr.alloc (fun _ => False) w _)
                 intro v6 w6 r6 f6
                 have r6H : Hidden (OwI w6 w.heap.size v6 l) := r6
                 have f6H : Hidden (Fr (fun _ => False) w w6) := (Fr.alloc (fun _ => False) w _).same f6
                 clear r6 f6)
    go_ret
    exact ⟨v6, rfl, r6H, f6H⟩
set_option maxHeartbeats 1000000 in
theorem ifuncV (g : Nat) (lb : Array Value) (eg : ∀ args w, (callFunc g args).run Tryz.prog w = .ok (.enter g args) w) (ao : Option Addr) (n cap : Nat) (l : List (Int × Int)) (p : Int × Int → Bool) (R : Int) (w : World) (hn : Hidden (l.length = n)) (h1 : n ≤ cap) (h2 : cap ≤ 9223372036854775807)
    (ha : Hidden (l = [] ∨ ∃ b off, ao = some ⟨b, off, none⟩ ∧ ∀ (i : Nat) (v : Int × Int), l[i]? = some v → w.cell? ⟨b, off + i * 2, none⟩ = some (ci v.1) ∧ w.cell? ⟨b, off + i * 2 + 1, none⟩ = some (.int .u64 v.2)))
    (hp : ∀ W, Fr (fun _ => False) w W → ∀ x ∈ l, Calls Tryz.prog g (#[.agg #[ci x.1, .int .u64 x.2]] ++ lb) W fun e w' => e = .returned (.bool (p x)) ∧ Fr (fun _ => False) W w') (hR : Hidden (idxP p l 0 = R)) :
    Calls Tryz.prog 31 #[.slice ao n cap, .func (.func g) #[] lb] w fun e w' => e = .returned (.int .i64 R) ∧ Fr (fun _ => False) w w' := by
  go_enter Tryz.func31, Tryz.ntmps31
  go_wp2
  go_loopg [5, 8] n (fun k _ iv wr => ∃ j : Nat, iv = .int .i64 (j : Int) ∧ j ≤ n ∧ k = n - j ∧ Fr (fun _ => False) w wr ∧ idxP p (l.drop j) j = R)
  case atStart => exact ⟨0, rfl, by omega, rfl, Fr.refl _ _, hR⟩
  case round =>
    obtain ⟨j, rfl, hj, hk, hf, hd⟩ := hrel
    have hkH : Hidden (gk = n - j) := hk
    have hfH : Hidden (Fr (fun _ => False) w wr) := hf
    have hn' : l.length = n := hn
    clear hk hR
    by_cases hjl : j < n
    · obtain ⟨x, hx⟩ : ∃ x, l[j]? = some x := ⟨l[j], List.getElem?_eq_getElem (by omega)⟩
      rcases (show l = [] ∨ _ from ha) with h0 | ⟨b, o, rfl, hc⟩
      · rw [h0] at hx; simp at hx
      have c1 := hf.cellN (hc j x hx).1
      have c2 := hf.cellN (hc j x hx).2
      have kp := hp wr hf x (List.mem_of_getElem? hx)
      clear hp
      rw [drop_at hx, idxP] at hd
      clear hc hn' hx hf
      obtain ⟨x1, x2⟩ := x
      simp only [] at c1 c2 kp
      cases hpx : p (x1, x2)
      · rw [hpx] at kp hd
        have hdH : Hidden (idxP p (l.drop (j + 1)) (j + 1) = R) := by show _ = _; simpa using hd
        have hltz : (j : Int) < (n : Int) := by omega
        clear hd hpx
        go_wp2_with fail
        refine kp.mono ?_
        rintro e w1 ⟨rfl, f1⟩
        have f1H : Hidden (Fr (fun _ => False) wr w1) := f1
        clear f1
        go_wp2
        go_roundg (n - (j + 1))
        case measure => have := (show gk = n - j from hkH); omega
        case rel => exact ⟨j + 1, by go_num, by omega, rfl, Fr.same hfH f1H, hdH⟩
      · rw [hpx] at kp hd
        obtain rfl : (j : Int) = R := by simpa using hd
        have hltz : (j : Int) < (n : Int) := by omega
        clear hd hpx
        go_wp2_with fail
        refine kp.mono ?_
        rintro e w1 ⟨rfl, f1⟩
        have f1H : Hidden (Fr (fun _ => False) wr w1) := f1
        clear f1
        go_wp2
        go_ret
        exact ⟨rfl, Fr.same hfH f1H⟩
    · obtain rfl : j = n := by omega
      rw [List.drop_eq_nil_of_le (by omega)] at hd
      obtain rfl : (-1 : Int) = R := hd
      clear hn' hf
      go_wp2
      go_ret
      exact ⟨rfl, hfH⟩
theorem cfuncV (g : Nat) (lb : Array Value) (eg : ∀ args w, (callFunc g args).run Tryz.prog w = .ok (.enter g args) w) (ao : Option Addr) (n cap : Nat) (l : List (Int × Int)) (p : Int × Int → Bool) (r' : Bool) (w : World) (hn : Hidden (l.length = n)) (h1 : n ≤ cap) (h2 : cap ≤ 9223372036854775807)
    (ha : Hidden (l = [] ∨ ∃ b off, ao = some ⟨b, off, none⟩ ∧ ∀ (i : Nat) (v : Int × Int), l[i]? = some v → w.cell? ⟨b, off + i * 2, none⟩ = some (ci v.1) ∧ w.cell? ⟨b, off + i * 2 + 1, none⟩ = some (.int .u64 v.2)))
    (hp : ∀ W, Fr (fun _ => False) w W → ∀ x ∈ l, Calls Tryz.prog g (#[.agg #[ci x.1, .int .u64 x.2]] ++ lb) W fun e w' => e = .returned (.bool (p x)) ∧ Fr (fun _ => False) W w') (hr : Hidden (l.any p = r')) :
    Calls Tryz.prog 14 #[.slice ao n cap, .func (.func g) #[] lb] w fun e w' => e = .returned (.bool r') ∧ Fr (fun _ => False) w w' := by
  obtain ⟨R, hR⟩ : ∃ R, idxP p l 0 = R := ⟨_, rfl⟩
  have ki := ifuncV g lb eg ao n cap l p R w hn h1 h2 ha hp hR
  obtain rfl : decide (0 ≤ R) = r' := by rw [← hR, idxP_any]; exact hr
  clear hn ha hp hr hR
  go_enter Tryz.func14, Tryz.ntmps14
  go_wp2_with (go_at_call 31; refine ki.mono ?_; rintro e w1 ⟨rfl, f1⟩; have f1H : Hidden (Fr (fun _ => False) w w1) := f1; clear f1)
  go_ret
  exact ⟨rfl, f1H⟩
theorem wrong_any (t b : Int) (hb : U64 b) (w : World) : Calls Tryz.prog 15 #[.agg #[ci t, .int .u64 b]] w fun e w' => e = .returned (.bool (!rightV t b)) ∧ Fr (fun _ => False) w w' := by
  have kv := fun w => rightv_any t b hb w
  generalize rightV t b = v at kv ⊢
  clear hb
  go_enter Tryz.func15, Tryz.ntmps15
  go_wp2_with (go_at_call 32; refine (kv _).mono ?_; rintro e w1 ⟨rfl, f1⟩; have f1H : Hidden (Fr (fun _ => False) w w1) := (Fr.alloc _ _ _).same f1; clear f1)
  go_ret
  exact ⟨rfl, f1H⟩
theorem any_notV (l : List (Int × Int)) : l.any (fun v => !rightV v.1 v.2) = !l.all (fun v => rightV v.1 v.2) := by
  induction l with
  | nil => rfl
  | cons x r ih => simp [ih, Bool.not_and]
theorem wrongs_any (ao : Option Addr) (n cap : Nat) (l : List (Int × Int)) (hn : l.length = n) (hb : ∀ v ∈ l, 0 ≤ v.2 ∧ v.2 < 18446744073709551616) (w : World) (h : VL w ao cap l) :
    Calls Tryz.prog 14 #[.slice ao n cap, .func (.func 15) #[] #[]] w fun e w' => e = .returned (.bool (!l.all (fun v => rightV v.1 v.2))) ∧ Fr (fun _ => False) w w' :=
  cfuncV 15 #[] (fun _ _ => rfl) ao n cap l (fun v => !rightV v.1 v.2) _ w hn (by rw [← hn]; exact h.1) (by have := h.2.1; simpa [maxLen] using this) h.2.2.2
    (fun W _ x hx => wrong_any x.1 x.2 ⟨(hb x hx).1, (hb x hx).2⟩ W) (any_notV l)
end Go.Proofs.YtoiglopilpoafaaGreatDoor.Im

namespace Go.Proofs.YtoiglopilpoafaaGreatDoor.Im
open Go.RowKit Ty Cd
set_option linter.unusedSimpArgs false
set_option linter.unusedVariables false

theorem fl_at {w : World} {b off cap : Nat} {l : List Fu} (h : FL w (some ⟨b, off, none⟩) cap l) {j : Nat} {f : Fu} (hf : l[j]? = some f) :
    ∃ x, FnP w f x ∧ w.cell? ⟨b, off + j * 4, none⟩ = some (.slice x.1.1 f.sg.ps.length x.1.2) ∧ w.cell? ⟨b, off + j * 4 + 1, none⟩ = some (ci f.sg.res) ∧ w.cell? ⟨b, off + j * 4 + 2, none⟩ = some (.slice x.2.1.1 f.loc.length x.2.1.2) ∧ w.cell? ⟨b, off + j * 4 + 3, none⟩ = some (.slice x.2.2.1 f.cd.length x.2.2.2) := by
  rcases h.2.2.2 with h4 | ⟨b', off', e, h4⟩
  · subst h4; simp at hf
  · simp only [Option.some.injEq, Addr.mk.injEq, and_true] at e
    obtain ⟨rfl, rfl⟩ := e
    obtain ⟨x, h5, h6⟩ := h4 j f hf
    exact ⟨x, h5, by simpa using h6 0 _ rfl, h6 1 _ rfl, h6 2 _ rfl, h6 3 _ rfl⟩
theorem fl_some {w : World} {ao : Option Addr} {cap : Nat} {l : List Fu} (h : FL w ao cap l) {j : Nat} {f : Fu} (hf : l[j]? = some f) : ∃ b off, ao = some ⟨b, off, none⟩ := by
  rcases h.2.2.2 with h4 | ⟨b', off', e, h4⟩
  · subst h4; simp at hf
  · exact ⟨b', off', e⟩
end Go.Proofs.YtoiglopilpoafaaGreatDoor.Im

namespace Go.Proofs.YtoiglopilpoafaaGreatDoor.Im
open Go.RowKit Ty Cd
set_option linter.unusedSimpArgs false
set_option linter.unusedVariables false
set_option maxRecDepth 20000

set_option maxHeartbeats 4000000 in
theorem begins_any (vars : List (Int × Int)) (fns : List Fu) (mn : Int) (va fa : Option Addr) (vc fc nv nf : Nat) (hnf : fns.length = nf) (w : World) (h : FL w fa fc fns) :
    Calls Tryz.prog 16 #[.agg #[.slice va nv vc, .slice fa nf fc, ci mn]] w fun e w' => e = .returned (.bool (beginsI ⟨vars, fns, mn⟩)) ∧ Fr (fun _ => False) w w' := by
  have hcf : nf ≤ fc := by rw [← hnf]; exact h.1
  have hcfm : fc ≤ 9223372036854775807 := by have := h.2.1; simpa [maxLen] using this
  have eb : beginsI ⟨vars, fns, mn⟩ = (decide (0 ≤ mn) && match fns[mn.toNat]? with | none => false | some f => decide (f.sg.ps = []) && f.sg.res == 1) := rfl
  by_cases h1 : mn < 0
  · have b1 : decide (mn < 0) = true := by simpa using h1
    have e : beginsI ⟨vars, fns, mn⟩ = false := by rw [eb, decide_eq_false (by omega), Bool.false_and]
    rw [e]
    clear e eb h hnf h1
    go_enter Tryz.func16, Tryz.ntmps16
    go_wp2_with fail
    go_ret
    exact ⟨rfl, Fr.alloc _ _ _⟩
  obtain ⟨M, rfl⟩ : ∃ M : Nat, mn = (M : Int) := ⟨mn.toNat, by omega⟩
  have b1 : decide ((M : Int) < 0) = false := by simp
  rw [decide_eq_true (show 0 ≤ (M : Int) by omega), Bool.true_and, Int.toNat_natCast] at eb
  by_cases h2 : M < nf
  case neg =>
    rw [List.getElem?_eq_none (by omega)] at eb
    rw [eb]
    have b2 : decide ((nf : Int) ≤ (M : Int)) = true := by simp; omega
    have b2' : decide (nf ≤ M) = true := by simp; omega
    clear h hnf h1 h2 eb
    go_enter Tryz.func16, Tryz.ntmps16
    go_wp2_with fail
    go_ret
    exact ⟨rfl, Fr.alloc _ _ _⟩
  obtain ⟨f, hf⟩ : ∃ f, fns[M]? = some f := ⟨_, List.getElem?_eq_getElem (by omega)⟩
  rw [hf] at eb
  simp only [] at eb
  rw [eb]
  clear eb
  have b2 : decide ((nf : Int) ≤ (M : Int)) = false := by simp; omega
  have b2' : decide (nf ≤ M) = false := by simp; omega
  have h3 : (M : Int) < (nf : Int) := by omega
  obtain ⟨b, off, rfl⟩ := fl_some h hf
  obtain ⟨V, hV⟩ : ∃ V, V = w.alloc (.cells #[.slice va nv vc, .slice (some ⟨b, off, none⟩) nf fc, ci (M : Int)] 28 (0, 0)) := ⟨_, rfl⟩
  have fV : Fr (fun _ => False) w V := by rw [hV]; exact Fr.alloc _ _ _
  obtain ⟨z0, z1, z2⟩ := box3 (show V.heap[w.heap.size]? = some (.cells #[.slice va nv vc, .slice (some ⟨b, off, none⟩) nf fc, ci (M : Int)] 28 (0, 0)) by rw [hV]; exact alloc_new _ _)
  obtain ⟨x, _, c0, c1, _, _⟩ := fl_at (h.keep fV) hf
  obtain ⟨⟨ps, res⟩, loc, cd⟩ := f
  simp only [] at c0 c1 ⊢
  have hVH : Hidden (V = _) := hV
  have fVH : Hidden (Fr (fun _ => False) w V) := fV
  cases ps with
  | nil =>
    simp only [List.length_nil] at c0
    have e : (decide (([] : List Int) = []) && res == 1) = (res == 1) := by simp
    rw [e]
    clear e hV fV h hnf h1 hf
    go_enter Tryz.func16, Tryz.ntmps16
    go_upto_region 1 with fail
    rw [← (show V = _ from hVH)]
    clear hVH
    go_wp2_with fail
    go_ret
    exact ⟨rfl, (show Fr (fun _ => False) w V from fVH).same (Fr.alloc _ _ _)⟩
  | cons y r =>
    have e : (decide (y :: r = []) && res == 1) = false := by simp
    rw [e]
    obtain ⟨m, hm⟩ : ∃ m, m = (y :: r).length := ⟨_, rfl⟩
    have b3 : ((m : Int) == 0) = false := by rw [hm]; simp; omega
    rw [← hm] at c0
    clear e hV fV h hnf h1 hf hm
    go_enter Tryz.func16, Tryz.ntmps16
    go_upto_region 1 with fail
    rw [← (show V = _ from hVH)]
    clear hVH
    go_wp2_with fail
    go_ret
    exact ⟨rfl, (show Fr (fun _ => False) w V from fVH).same (Fr.alloc _ _ _)⟩
end Go.Proofs.YtoiglopilpoafaaGreatDoor.Im
