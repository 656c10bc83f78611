/- Texts of ours, in one. -/
import Derived.Test.YtakkiipkmogagaaGreatFoAll
import Derived.Test.YtakkiipkmogagaaGreatTrLAll
import Derived.Deep.RegionHeld3
namespace Go.Proofs.YtakkiipkmogagaaGreat.Fo
open Go.RowKit Te
set_option linter.unusedSimpArgs false
set_option linter.unusedVariables false

structure Con where
  mod : Bs
  name : Bs
  t : Int
  b : Int
deriving DecidableEq
/-- What an expression comes to: a value, an error, a trap. -/
inductive Ev where
  | ok (v : Vl)
  | flt (c : Int)
  | trp (t : Int)
def Ev.fin : Ev → Ending
  | .ok v => .returned (vv v)
  | .flt c => .panicked [{ v := .iface 176 (.agg #[.int .i64 c]), recovered := false }]
  | .trp t => .panicked [{ v := .iface 173 (.agg #[.int .i64 t]), recovered := false }]
def Ev.bd (a : Ev) (f : Vl → Ev) : Ev := match a with
  | .ok v => f v
  | .flt c => .flt c
  | .trp t => .trp t
def Ev.val : Ev → Vl
  | .ok v => v
  | _ => (0, 0)
def Ev.code : Ev → Int
  | .ok _ => 0
  | .flt c => c
  | .trp t => errnoF t
def trapEv (r : Vl × Int) : Ev := if r.2 = 0 then .ok r.1 else .trp r.2
def findC : List Con → Bs → Bs → Ev
  | [], _, _ => .flt 21
  | c :: r, m, n => if c.mod = m ∧ c.name = n then (if rightV c.t c.b = true then .ok (c.t, c.b) else .flt 22) else findC r m n
/-- Is the left side the answer? -/
def decF (op : Int) (v : Vl) : Option Bool := if op = 12 then (if v.1 = 3 then some (!(v.2 == 1)) else none) else if op = 13 then (if v.1 = 3 then some (v.2 == 1) else none) else some false
def twoF (op : Int) (a b : Ev) : Ev := a.bd fun v => match decF op v with
  | none => .flt 22
  | some true => .ok v
  | some false => b.bd fun u => trapEv (binF op v u)
/-- The first part that has no value, or the error. -/
def callF : List Ev → Ev
  | [] => .flt 25
  | e :: r => e.bd fun _ => callF r
def evN (l : List Con) (h : EH) (ks : List Ev) : Ev :=
  if h.kind = 2 ∨ h.kind = 3 then findC l h.mod h.name
  else if h.kind = 4 ∨ h.kind = 5 ∨ h.kind = 8 then callF ks
  else if h.kind = 6 then (ks.getD 0 (.flt 0)).bd fun v => trapEv (unF h.op v)
  else if h.kind = 7 then twoF h.op (ks.getD 0 (.flt 0)) (ks.getD 1 (.flt 0))
  else .ok (h.vt, h.vb)
def evF (l : List Con) : Exs → List Ev
  | .nil => []
  | .cons h k r => evN l h (evF l k) :: evF l r
def evX (l : List Con) (h : EH) (k : Exs) : Ev := evN l h (evF l k)

def coC (c : Con) : List Value := [ct c.mod, ct c.name, ci c.t, .int .u64 c.b]
/-- A row of constants. -/
def CoL (w : World) (ao : Option Addr) (cap : Nat) (l : List Con) : Prop :=
  l.length ≤ cap ∧ cap ≤ maxLen ∧ (l = [] ∨ ∃ b off, ao = some ⟨b, off, none⟩ ∧ ∀ (i : Nat) (x : Con), l[i]? = some x → ∀ (j : Nat) (u : Value), (coC x)[j]? = some u → w.cell? ⟨b, off + i * 4 + j, none⟩ = some u)
theorem CoL.keep {w w' : World} {ao : Option Addr} {cap : Nat} {l : List Con} (h : CoL w ao cap l) (hf : Fr (fun _ => False) w w') : CoL w' ao cap l := by
  obtain ⟨h1, h2, h4⟩ := h
  refine ⟨h1, h2, ?_⟩
  rcases h4 with h4 | ⟨b, off, rfl, h4⟩
  · exact Or.inl h4
  · exact Or.inr ⟨b, off, rfl, fun i x hx j u hu => hf.cellN (h4 i x hx j u hu)⟩
theorem CoL.at {w : World} {ao : Option Addr} {cap : Nat} {l : List Con} (h : CoL w ao cap l) {i : Nat} {x : Con} (hx : l[i]? = some x) :
    ∃ b off, ao = some ⟨b, off, none⟩ ∧ w.cell? ⟨b, off + i * 4, none⟩ = some (ct x.mod) ∧ w.cell? ⟨b, off + i * 4 + 1, none⟩ = some (ct x.name) ∧ w.cell? ⟨b, off + i * 4 + 2, none⟩ = some (ci x.t) ∧ w.cell? ⟨b, off + i * 4 + 3, none⟩ = some (.int .u64 x.b) := by
  rcases h.2.2 with rfl | ⟨b, off, rfl, h4⟩
  · simp at hx
  · exact ⟨b, off, rfl, h4 i x hx 0 _ rfl, h4 i x hx 1 _ rfl, h4 i x hx 2 _ rfl, h4 i x hx 3 _ rfl⟩
theorem CoL.nil (w : World) : CoL w none 0 [] := ⟨Nat.le_refl _, by unfold maxLen; omega, Or.inl rfl⟩
abbrev coO (c : Con) : Obj := .cells #[ct c.mod, ct c.name, ci c.t, .int .u64 c.b] 137 (0, 0)

theorem untrapped_any (v : Vl) (t : Int) (w : World) : Calls Tryz.prog 151 #[vv v, ci t] w fun e w' => e = (trapEv (v, t)).fin ∧ Fr (fun _ => False) w w' := by
  obtain ⟨a, b⟩ := v
  dsimp only [vv]
  by_cases h : t = 0
  · subst h
    rw [show trapEv ((a, b), 0) = .ok (a, b) from rfl]
    dsimp only [Ev.fin, vv]
    go_enter Tryz.func151, Tryz.ntmps151
    go_wp2
    exact post_v1 (alloc_at _ _ _ (by simp)) rfl rfl rfl ⟨rfl, (Fr.alloc _ _ _).same (Fr.alloc _ _ _)⟩
  · rw [show trapEv ((a, b), t) = .trp t from by simp [trapEv, h]]
    dsimp only [Ev.fin]
    have b0 : (t != 0) = true := by simp [h]
    clear h
    go_enter Tryz.func151, Tryz.ntmps151
    go_wp2
    exact ⟨rfl, rfl, (Fr.alloc _ _ _).same (Fr.alloc _ _ _)⟩
theorem isTrue_yes (b : Int) (w : World) : Calls Tryz.prog 184 #[vv (3, b)] w fun e w' => e = .returned (.bool (b == 1)) ∧ Fr (fun _ => False) w w' := by
  dsimp only [vv]
  go_enter Tryz.func184, Tryz.ntmps184
  go_wp2
  go_ret
  exact ⟨rfl, Fr.alloc _ _ _⟩
theorem isTrue_no (t b : Int) (ht : t ≠ 3) (w : World) : Calls Tryz.prog 184 #[vv (t, b)] w fun e w' => e = Ev.fin (.flt 22) ∧ Fr (fun _ => False) w w' := by
  dsimp only [vv, Ev.fin]
  have b0 : (t != 3) = true := by simp [ht]
  clear ht
  go_enter Tryz.func184, Tryz.ntmps184
  go_wp2
  exact ⟨rfl, rfl, Fr.alloc _ _ _⟩
theorem decides_yes (op t b : Int) (r : Bool) (hr : decF op (t, b) = some r) (w : World) : Calls Tryz.prog 172 #[ci op, vv (t, b)] w fun e w' => e = .returned (.bool r) ∧ Fr (fun _ => False) w w' := by
  unfold decF at hr
  dsimp only [vv] at hr ⊢
  have hf0 := Fr.alloc (fun _ => False) w (zb (ci t) (.int .u64 b))
  by_cases h12 : op = 12
  · subst h12
    rw [if_pos rfl] at hr
    by_cases ht : t = 3
    · subst ht
      rw [if_pos rfl] at hr
      cases hr
      have kt := isTrue_yes b
      dsimp only [vv] at kt
      go_enter Tryz.func172, Tryz.ntmps172
      go_wp2_with (go_at_call 184; refine (kt _).mono ?_; rintro e w1 ⟨rfl, f1⟩)
      go_ret
      exact ⟨rfl, hf0.same f1⟩
    · rw [if_neg ht] at hr; cases hr
  by_cases h13 : op = 13
  · subst h13
    rw [if_neg (by decide), if_pos rfl] at hr
    by_cases ht : t = 3
    · subst ht
      rw [if_pos rfl] at hr
      cases hr
      have kt := isTrue_yes b
      dsimp only [vv] at kt
      go_enter Tryz.func172, Tryz.ntmps172
      go_wp2_with (go_at_call 184; refine (kt _).mono ?_; rintro e w1 ⟨rfl, f1⟩)
      go_ret
      exact ⟨rfl, hf0.same f1⟩
    · rw [if_neg ht] at hr; cases hr
  rw [if_neg h12, if_neg h13] at hr
  cases hr
  have b1 : (op == 12) = false := by simp [h12]
  have b2 : (op == 13) = false := by simp [h13]
  clear h12 h13
  go_enter Tryz.func172, Tryz.ntmps172
  go_wp2
  go_ret
  exact ⟨rfl, hf0⟩
theorem decides_no (op t b : Int) (hr : decF op (t, b) = none) (w : World) : Calls Tryz.prog 172 #[ci op, vv (t, b)] w fun e w' => e = Ev.fin (.flt 22) ∧ Fr (fun _ => False) w w' := by
  unfold decF at hr
  dsimp only [vv] at hr ⊢
  have hf0 := Fr.alloc (fun _ => False) w (zb (ci t) (.int .u64 b))
  have hne : t ≠ 3 := by
    intro h
    subst h
    by_cases h12 : op = 12
    · rw [if_pos h12, if_pos rfl] at hr; cases hr
    by_cases h13 : op = 13
    · rw [if_neg h12, if_pos h13, if_pos rfl] at hr; cases hr
    rw [if_neg h12, if_neg h13] at hr; cases hr
  have kt := isTrue_no t b hne
  dsimp only [vv, Ev.fin] at kt ⊢
  by_cases h12 : op = 12
  · subst h12
    clear hr hne
    go_enter Tryz.func172, Tryz.ntmps172
    go_wp2_with (go_at_call 184; refine (kt _).mono ?_; rintro e w1 ⟨rfl, f1⟩)
    exact ⟨rfl, rfl, hf0.same f1⟩
  by_cases h13 : op = 13
  · subst h13
    clear hr hne
    go_enter Tryz.func172, Tryz.ntmps172
    go_wp2_with (go_at_call 184; refine (kt _).mono ?_; rintro e w1 ⟨rfl, f1⟩)
    exact ⟨rfl, rfl, hf0.same f1⟩
  rw [if_neg h12, if_neg h13] at hr
  cases hr
set_option maxRecDepth 20000 in
set_option maxHeartbeats 4000000 in
theorem named_any (m n : Bs) (l : List Con) (ao : Option Addr) (cap : Nat) (w : World) (h : CoL w ao cap l) (hok : ∀ c ∈ l, U64 c.b) :
    Calls Tryz.prog 150 #[ct m, ct n, .slice ao l.length cap] w fun e w' => e = (findC l m n).fin ∧ Fr (fun _ => False) w w' := by
  obtain ⟨W0, hW0⟩ : ∃ W, W = w.alloc zo := ⟨_, rfl⟩
  have f0 : Fr (fun _ => False) w W0 := by rw [hW0]; exact Fr.alloc _ _ _
  have hb2 : Hidden (W0.heap[w.heap.size]? = some zo) := by rw [hW0]; exact alloc_new _ _
  have hW0H : Hidden (W0 = _) := hW0
  have f0H : Hidden (Fr (fun _ => False) w W0) := f0
  have m1 := h.1
  have m2 : cap ≤ 9223372036854775807 := by have := h.2.1; unfold maxLen at this; omega
  have hH : Hidden (CoL w ao cap l) := h
  have hokH : Hidden (∀ c ∈ l, U64 c.b) := hok
  clear h hok hW0 f0
  go_enter Tryz.func150, Tryz.ntmps150
  go_wp2_with fail
  rw [← (show W0 = _ from hW0H)]
  go_loopg [11] l.length (fun g iv wr => ∃ (j : Nat), iv = ci (j : Int) ∧ j ≤ l.length ∧ findC (l.drop j) m n = findC l m n ∧ g = l.length - j ∧ Fr (fun _ => False) W0 wr)
  case atStart => exact ⟨0, rfl, by omega, rfl, rfl, Fr.refl _ _⟩
  case round =>
    obtain ⟨j, rfl, hj, hI, hgk, hfr⟩ := hrel
    have hgkH : Hidden (gk = l.length - j) := hgk
    have hfrH : Hidden (Fr (fun _ => False) W0 wr) := hfr
    have hIH : Hidden (findC (l.drop j) m n = findC l m n) := hI
    clear hgk hI
    by_cases hjl : j < l.length
    · obtain ⟨p, hp⟩ : ∃ p, l[j]? = some p := ⟨l[j], List.getElem?_eq_getElem hjl⟩
      have hpl : U64 p.b := (show ∀ c ∈ l, _ from hokH) p (List.mem_of_getElem? hp)
      have hd := drop_at hp
      obtain ⟨b, off, rfl, d0, d1, d2, d3⟩ := CoL.at ((show CoL w _ cap l from hH).keep ((show Fr (fun _ => False) w W0 from f0H).same hfr)) hp
      have fa := Fr.alloc (fun _ => False) wr (coO p)
      have hbx : Hidden ((wr.alloc (coO p)).heap[wr.heap.size]? = some (coO p)) := alloc_new _ _
      have hfr2 : Hidden (Fr (fun _ => False) W0 (wr.alloc (coO p))) := hfr.same fa
      by_cases hn : p.mod = m ∧ p.name = n
      · obtain ⟨hn1, hn2⟩ := hn
        subst hn1 hn2
        have kr := Ty.rightv_any p.t p.b hpl (wr.alloc (coO p))
        by_cases hr : Ty.rightV p.t p.b = true
        · have hres : Hidden (findC l p.mod p.name = .ok (p.t, p.b)) := by rw [← (show _ = findC l p.mod p.name from hIH), hd]; show findC _ _ _ = _; rw [findC, if_pos ⟨rfl, rfl⟩, if_pos hr]
          rw [hr] at kr
          clear hIH hd hp hr hpl
          go_wp2_with (go_at_call 100; refine kr.mono ?_; rintro e w2 ⟨rfl, f2⟩; have g2 : Fr (fun _ => False) W0 w2 := (show Fr (fun _ => False) W0 _ from hfr2).same f2; have q2 := g2.heap hb2 (fun f => f); obtain ⟨c0, c1, z0, z1⟩ := box2 q2; have q3 : w2.heap[wr.heap.size]? = some (coO p) := f2.heap hbx (fun f => f); have y2 : w2.cell? ⟨wr.heap.size, 2, none⟩ = some (ci p.t) := cell_of_row _ _ 2 _ _ _ q3; have y3 : w2.cell? ⟨wr.heap.size, 3, none⟩ = some (.int .u64 p.b) := cell_of_row _ _ 3 _ _ _ q3; clear q3)
          exact post_v1 (set_two q2 _ _) rfl rfl rfl ⟨by rw [show findC l p.mod p.name = .ok (p.t, p.b) from hres]; rfl, fr_two ((show Fr (fun _ => False) w W0 from f0H).same g2) (Nat.le_refl _) _ _⟩
        · have hr : Ty.rightV p.t p.b = false := by simpa using hr
          have hres : Hidden (findC l p.mod p.name = .flt 22) := by rw [← (show _ = findC l p.mod p.name from hIH), hd]; show findC _ _ _ = _; rw [findC, if_pos ⟨rfl, rfl⟩, if_neg (by show ¬ Ty.rightV p.t p.b = true; rw [hr]; simp)]
          rw [hr] at kr
          clear hIH hd hp hr hpl
          go_wp2_with (go_at_call 100; refine kr.mono ?_; rintro e w2 ⟨rfl, f2⟩)
          exact ⟨rfl, by rw [show findC l p.mod p.name = .flt 22 from hres]; rfl, (show Fr (fun _ => False) w W0 from f0H).same ((show Fr (fun _ => False) W0 _ from hfr2).same f2)⟩
      · have hI2 : Hidden (findC (l.drop (j + 1)) m n = findC l m n) := by rw [← (show _ = findC l m n from hIH), hd]; show findC _ _ _ = findC (p :: _) _ _; rw [findC, if_neg hn]
        by_cases e1 : p.mod = m
        · have e2 : (p.name == n) = false := by simp; exact fun e => hn ⟨e1, e⟩
          subst e1
          clear hIH hd hp hn hpl
          go_wp2_with fail
          go_roundg (l.length - (j + 1))
          case measure => have : gk = l.length - j := hgkH; omega
          case rel => exact ⟨j + 1, by go_num, by omega, hI2, rfl, hfr2⟩
        · have e1 : (p.mod != m) = true := by simp [e1]
          clear hIH hd hp hn hpl
          go_wp2_with fail
          go_roundg (l.length - (j + 1))
          case measure => have : gk = l.length - j := hgkH; omega
          case rel => exact ⟨j + 1, by go_num, by omega, hI2, rfl, hfr2⟩
    · obtain rfl : j = l.length := by omega
      have hres : Hidden (findC l m n = .flt 21) := by rw [← (show _ = findC l m n from hIH), List.drop_length]; rfl
      go_wp2_with fail
      exact ⟨rfl, by rw [show findC l m n = .flt 21 from hres]; rfl, (show Fr (fun _ => False) w W0 from f0H).same hfrH⟩
end Go.Proofs.YtakkiipkmogagaaGreat.Fo

namespace Go.Proofs.YtakkiipkmogagaaGreat.Fo
open Go.RowKit Te
set_option linter.unusedSimpArgs false
set_option linter.unusedVariables false

abbrev FN : Nat → Prop := fun _ => False
theorem dead {P : Program} {f : FuncId} {args : Array Value} {w : World} {Q : Ending → World → Prop} (h : Calls P f args w Q) (v : Value) : Calls P f args w fun e w' => Q e w' ∨ (Hidden False ∧ e = .returned v) := h.mono fun _ _ q => Or.inl q
theorem dead2 {P : Program} {f : FuncId} {args : Array Value} {w : World} (h : Hidden False) (v : Value) : Calls P f args w fun e w' => e = .returned v := (show False from h).elim
theorem fin_ok (v : Vl) : (Ev.ok v).fin = .returned (vv v) := rfl
theorem fin_flt (c : Int) : (Ev.flt c).fin = .panicked [{ v := .iface 176 (.agg #[.int .i64 c]), recovered := false }] := rfl
theorem fin_trp (t : Int) : (Ev.trp t).fin = .panicked [{ v := .iface 173 (.agg #[.int .i64 t]), recovered := false }] := rfl
theorem trapEv_0 (v : Vl) : trapEv (v, 0) = .ok v := rfl
theorem trapEv_ne (v : Vl) {t : Int} (h : t ≠ 0) : trapEv (v, t) = .trp t := by simp [trapEv, h]
set_option maxRecDepth 20000 in
set_option maxHeartbeats 4000000 in
theorem ofTwo_any (op : Int) (hl hr : EH) (vl vr lv : Value) (L R : Ev) (w : World)
    (kl : ∀ w', Fr FN w w' → Calls Tryz.prog 131 #[exV hl vl, lv] w' fun e w'' => e = L.fin ∧ Fr FN w' w'')
    (kr : ∀ w', Fr FN w w' → Calls Tryz.prog 131 #[exV hr vr, lv] w' fun e w'' => e = R.fin ∧ Fr FN w' w'')
    (hL : ∀ v, L = .ok v → U64 v.2) (hR : ∀ v, R = .ok v → U64 v.2) :
    Calls Tryz.prog 153 #[ci op, exV hl vl, exV hr vr, lv] w fun e w' => e = (twoF op L R).fin ∧ Fr FN w w' := by
  have f0 : Fr FN w (((w.alloc (exO hl vl)).alloc (exO hr vr)).alloc zo) := ((Fr.alloc _ _ _).same (Fr.alloc _ _ _)).same (Fr.alloc _ _ _)
  have hB : Hidden ((((w.alloc (exO hl vl)).alloc (exO hr vr)).alloc zo).heap[w.heap.size + 1]? = some (exO hr vr)) := (alloc_old _ _ _ (by simp)).trans (alloc_at _ _ _ (by simp))
  have hC : Hidden ((((w.alloc (exO hl vl)).alloc (exO hr vr)).alloc zo).heap[w.heap.size + 2]? = some zo) := alloc_at _ _ _ (by simp)
  have k1 := kl _ f0
  clear kl
  rcases L with v | c | c
  rotate_left
  · rw [show twoF op (.flt c) R = .flt c from rfl, fin_flt]
    rw [fin_flt] at k1
    clear kr hL hR
    go_enter Tryz.func153, Tryz.ntmps153
    go_wp2_with fail
    go_at_call 131
    refine k1.mono ?_
    rintro e w1 ⟨rfl, f1⟩
    go_wp2_with fail
    exact ⟨rfl, rfl, f0.same f1⟩
  · rw [show twoF op (.trp c) R = .trp c from rfl, fin_trp]
    rw [fin_trp] at k1
    clear kr hL hR
    go_enter Tryz.func153, Tryz.ntmps153
    go_wp2_with fail
    go_at_call 131
    refine k1.mono ?_
    rintro e w1 ⟨rfl, f1⟩
    go_wp2_with fail
    exact ⟨rfl, rfl, f0.same f1⟩
  obtain ⟨t, b⟩ := v
  have hb := hL _ rfl
  dsimp only at hb
  rw [fin_ok] at k1
  dsimp only [vv] at k1
  have hdec : twoF op (.ok (t, b)) R = match decF op (t, b) with
    | none => .flt 22
    | some true => .ok (t, b)
    | some false => R.bd fun u => trapEv (binF op (t, b) u) := rfl
  clear hL
  rcases hd : decF op (t, b) with _ | d
  · rw [hd] at hdec
    dsimp only at hdec
    rw [hdec, fin_flt]
    have kd := decides_no op t b hd
    rw [fin_flt] at kd
    dsimp only [vv] at kd
    clear kr hR hb hdec hd
    go_enter Tryz.func153, Tryz.ntmps153
    go_wp2_with fail
    go_at_call 131
    refine k1.mono ?_
    rintro e w1 ⟨rfl, f1⟩
    go_wp2_with fail
    go_at_call 172
    refine (kd _).mono ?_
    rintro e w2 ⟨rfl, f2⟩
    go_wp2_with fail
    exact ⟨rfl, rfl, (f0.same f1).same ((Fr.alloc _ _ _).same f2)⟩
  have kd := decides_yes op t b d hd
  dsimp only [vv] at kd
  rw [hd] at hdec
  cases d
  rotate_left
  · dsimp only at hdec
    rw [hdec, fin_ok]
    dsimp only [vv]
    clear kr hR hb hdec hd
    go_enter Tryz.func153, Tryz.ntmps153
    go_wp2_with fail
    go_at_call 131
    refine k1.mono ?_
    rintro e w1 ⟨rfl, f1⟩
    have hD : Hidden ((w1.alloc (zb (ci t) (.int .u64 b))).heap[w1.heap.size]? = some (zb (ci t) (.int .u64 b))) := alloc_new _ _
    have fa := Fr.alloc FN w1 (zb (ci t) (.int .u64 b))
    go_wp2_with fail
    go_at_call 172
    refine (kd _).mono ?_
    rintro e w2 ⟨rfl, f2⟩
    obtain ⟨d0, d1, _, _⟩ := box2 (f2.heap hD (fun f => f))
    have qc := (f1.same (fa.same f2)).heap hC (fun f => f)
    obtain ⟨c0, c1, z0, z1⟩ := box2 qc
    go_wp2_with fail
    exact post_v1 (set_two qc _ _) rfl rfl rfl ⟨rfl, fr_two (f0.same (f1.same (fa.same f2))) (by omega) _ _⟩
  dsimp only at hdec
  rw [hdec]
  clear hdec hd
  rcases R with u | c | c
  rotate_left
  · rw [show (Ev.flt c).bd (fun u => trapEv (binF op (t, b) u)) = .flt c from rfl, fin_flt]
    rw [fin_flt] at kr
    clear hR hb
    go_enter Tryz.func153, Tryz.ntmps153
    go_wp2_with fail
    go_at_call 131
    refine k1.mono ?_
    rintro e w1 ⟨rfl, f1⟩
    have hD : Hidden ((w1.alloc (zb (ci t) (.int .u64 b))).heap[w1.heap.size]? = some (zb (ci t) (.int .u64 b))) := alloc_new _ _
    have fa := Fr.alloc FN w1 (zb (ci t) (.int .u64 b))
    go_wp2_with fail
    go_at_call 172
    refine (kd _).mono ?_
    rintro e w2 ⟨rfl, f2⟩
    have qd : Hidden (w2.heap[w1.heap.size]? = some (zb (ci t) (.int .u64 b))) := f2.heap hD (fun f => f)
    have g2 : Fr FN (((w.alloc (exO hl vl)).alloc (exO hr vr)).alloc zo) w2 := f1.same (fa.same f2)
    have qb : Hidden (w2.heap[w.heap.size + 1]? = some (exO hr vr)) := g2.heap hB (fun f => f)
    have qc : Hidden (w2.heap[w.heap.size + 2]? = some zo) := g2.heap hC (fun f => f)
    have fw : Hidden (Fr FN w w2) := f0.same g2
    have hsz : w.heap.size + 2 < w1.heap.size := lt_of_heap (f1.heap hC (fun f => f))
    have ne1 : ¬ (w1.heap.size = w.heap.size + 1 + 1) := by omega
    have ne2 : ¬ (w.heap.size + 1 + 1 = w1.heap.size) := by omega
    obtain ⟨d0, d1, _, _⟩ := box2 qd
    obtain ⟨d2, d3, d4, d5, d6, d7, d8⟩ := ex_box qb
    have k2 := kr w2.drew ((show Fr FN w w2 from fw).same (Fr.drew _ _))
    clear kr k1 kd hD hB hC f1 f2 fa g2 hsz
    go_wp2_with fail
    go_region_held (fun w' => w'.cell? ⟨w1.heap.size, 0, none⟩ = some (ci t) ∧ w'.cell? ⟨w1.heap.size, 1, none⟩ = some (.int .u64 b) ∧ w'.cell? ⟨w.heap.size + 1, 0, none⟩ = some (ci hr.kind) ∧ w'.cell? ⟨w.heap.size + 1, 1, none⟩ = some (ci hr.op) ∧ w'.cell? ⟨w.heap.size + 1, 2, none⟩ = some (ct hr.mod) ∧ w'.cell? ⟨w.heap.size + 1, 3, none⟩ = some (ct hr.name) ∧ w'.cell? ⟨w.heap.size + 1, 4, none⟩ = some (ci hr.vt) ∧ w'.cell? ⟨w.heap.size + 1, 5, none⟩ = some (.int .u64 hr.vb) ∧ w'.cell? ⟨w.heap.size + 1, 6, none⟩ = some (vr)) (first | (revert hF; intro hF; exact (show False from hF).elim) | (refine ⟨by with_reducible assumption, by with_reducible assumption, by with_reducible assumption, by with_reducible assumption, by with_reducible assumption, by with_reducible assumption, by with_reducible assumption, by with_reducible assumption, by with_reducible assumption⟩) | go_keep) (first
      | (go_at_call 131; refine (dead k2 (.agg #[.int .i64 0, .int .u64 0])).mono ?_; rintro e w3 (⟨rfl, f3⟩ | ⟨hF, rfl⟩); (focus (exact ⟨rfl, rfl, (show Fr FN w w2 from fw).same ((Fr.drew FN _).same f3)⟩)))
      | (go_at_call 173; refine (dead2 hF (.tuple #[.agg #[.int .i64 0, .int .u64 0], .int .i64 0])).mono ?_; rintro e w4 rfl)
      | (go_at_call 151; refine (dead2 hF (.agg #[.int .i64 0, .int .u64 0])).mono ?_; rintro e w5 rfl; have c0 : w5.cell? ⟨w.heap.size + 2, 0, none⟩ = some (ci 0) := (show False from hF).elim; have c1 : w5.cell? ⟨w.heap.size + 2, 1, none⟩ = some (.int .u64 0) := (show False from hF).elim; have z0 : w5.frozen? ⟨w.heap.size + 2, 0, none⟩ = false := (show False from hF).elim; have z1 : w5.frozen? ⟨w.heap.size + 2, 1, none⟩ = false := (show False from hF).elim)
      )
    all_goals exact (show False from hF).elim
  · rw [show (Ev.trp c).bd (fun u => trapEv (binF op (t, b) u)) = .trp c from rfl, fin_trp]
    rw [fin_trp] at kr
    clear hR hb
    go_enter Tryz.func153, Tryz.ntmps153
    go_wp2_with fail
    go_at_call 131
    refine k1.mono ?_
    rintro e w1 ⟨rfl, f1⟩
    have hD : Hidden ((w1.alloc (zb (ci t) (.int .u64 b))).heap[w1.heap.size]? = some (zb (ci t) (.int .u64 b))) := alloc_new _ _
    have fa := Fr.alloc FN w1 (zb (ci t) (.int .u64 b))
    go_wp2_with fail
    go_at_call 172
    refine (kd _).mono ?_
    rintro e w2 ⟨rfl, f2⟩
    have qd : Hidden (w2.heap[w1.heap.size]? = some (zb (ci t) (.int .u64 b))) := f2.heap hD (fun f => f)
    have g2 : Fr FN (((w.alloc (exO hl vl)).alloc (exO hr vr)).alloc zo) w2 := f1.same (fa.same f2)
    have qb : Hidden (w2.heap[w.heap.size + 1]? = some (exO hr vr)) := g2.heap hB (fun f => f)
    have qc : Hidden (w2.heap[w.heap.size + 2]? = some zo) := g2.heap hC (fun f => f)
    have fw : Hidden (Fr FN w w2) := f0.same g2
    have hsz : w.heap.size + 2 < w1.heap.size := lt_of_heap (f1.heap hC (fun f => f))
    have ne1 : ¬ (w1.heap.size = w.heap.size + 1 + 1) := by omega
    have ne2 : ¬ (w.heap.size + 1 + 1 = w1.heap.size) := by omega
    obtain ⟨d0, d1, _, _⟩ := box2 qd
    obtain ⟨d2, d3, d4, d5, d6, d7, d8⟩ := ex_box qb
    have k2 := kr w2.drew ((show Fr FN w w2 from fw).same (Fr.drew _ _))
    clear kr k1 kd hD hB hC f1 f2 fa g2 hsz
    go_wp2_with fail
    go_region_held (fun w' => w'.cell? ⟨w1.heap.size, 0, none⟩ = some (ci t) ∧ w'.cell? ⟨w1.heap.size, 1, none⟩ = some (.int .u64 b) ∧ w'.cell? ⟨w.heap.size + 1, 0, none⟩ = some (ci hr.kind) ∧ w'.cell? ⟨w.heap.size + 1, 1, none⟩ = some (ci hr.op) ∧ w'.cell? ⟨w.heap.size + 1, 2, none⟩ = some (ct hr.mod) ∧ w'.cell? ⟨w.heap.size + 1, 3, none⟩ = some (ct hr.name) ∧ w'.cell? ⟨w.heap.size + 1, 4, none⟩ = some (ci hr.vt) ∧ w'.cell? ⟨w.heap.size + 1, 5, none⟩ = some (.int .u64 hr.vb) ∧ w'.cell? ⟨w.heap.size + 1, 6, none⟩ = some (vr)) (first | (revert hF; intro hF; exact (show False from hF).elim) | (refine ⟨by with_reducible assumption, by with_reducible assumption, by with_reducible assumption, by with_reducible assumption, by with_reducible assumption, by with_reducible assumption, by with_reducible assumption, by with_reducible assumption, by with_reducible assumption⟩) | go_keep) (first
      | (go_at_call 131; refine (dead k2 (.agg #[.int .i64 0, .int .u64 0])).mono ?_; rintro e w3 (⟨rfl, f3⟩ | ⟨hF, rfl⟩); (focus (exact ⟨rfl, rfl, (show Fr FN w w2 from fw).same ((Fr.drew FN _).same f3)⟩)))
      | (go_at_call 173; refine (dead2 hF (.tuple #[.agg #[.int .i64 0, .int .u64 0], .int .i64 0])).mono ?_; rintro e w4 rfl)
      | (go_at_call 151; refine (dead2 hF (.agg #[.int .i64 0, .int .u64 0])).mono ?_; rintro e w5 rfl; have c0 : w5.cell? ⟨w.heap.size + 2, 0, none⟩ = some (ci 0) := (show False from hF).elim; have c1 : w5.cell? ⟨w.heap.size + 2, 1, none⟩ = some (.int .u64 0) := (show False from hF).elim; have z0 : w5.frozen? ⟨w.heap.size + 2, 0, none⟩ = false := (show False from hF).elim; have z1 : w5.frozen? ⟨w.heap.size + 2, 1, none⟩ = false := (show False from hF).elim)
      )
    all_goals exact (show False from hF).elim
  obtain ⟨tu, bu⟩ := u
  have hbu := hR _ rfl
  dsimp only at hbu
  rw [show (Ev.ok (tu, bu)).bd (fun u => trapEv (binF op (t, b) u)) = trapEv (binF op (t, b) (tu, bu)) from rfl]
  have kb := bin_any op (t, b) (tu, bu) hb hbu
  rw [fin_ok] at kr
  generalize binF op (t, b) (tu, bu) = Z at kb ⊢
  obtain ⟨⟨rt, rb⟩, q⟩ := Z
  dsimp only [vv] at kb kr
  have ku := untrapped_any (rt, rb) q
  clear hR hb hbu
  by_cases hq : q = 0
  · subst hq
    rw [trapEv_0, fin_ok] at ku ⊢
    dsimp only [vv] at ku ⊢
    go_enter Tryz.func153, Tryz.ntmps153
    go_wp2_with fail
    go_at_call 131
    refine k1.mono ?_
    rintro e w1 ⟨rfl, f1⟩
    have hD : Hidden ((w1.alloc (zb (ci t) (.int .u64 b))).heap[w1.heap.size]? = some (zb (ci t) (.int .u64 b))) := alloc_new _ _
    have fa := Fr.alloc FN w1 (zb (ci t) (.int .u64 b))
    go_wp2_with fail
    go_at_call 172
    refine (kd _).mono ?_
    rintro e w2 ⟨rfl, f2⟩
    have qd : Hidden (w2.heap[w1.heap.size]? = some (zb (ci t) (.int .u64 b))) := f2.heap hD (fun f => f)
    have g2 : Fr FN (((w.alloc (exO hl vl)).alloc (exO hr vr)).alloc zo) w2 := f1.same (fa.same f2)
    have qb : Hidden (w2.heap[w.heap.size + 1]? = some (exO hr vr)) := g2.heap hB (fun f => f)
    have qc : Hidden (w2.heap[w.heap.size + 2]? = some zo) := g2.heap hC (fun f => f)
    have fw : Hidden (Fr FN w w2) := f0.same g2
    have hsz : w.heap.size + 2 < w1.heap.size := lt_of_heap (f1.heap hC (fun f => f))
    have ne1 : ¬ (w1.heap.size = w.heap.size + 1 + 1) := by omega
    have ne2 : ¬ (w.heap.size + 1 + 1 = w1.heap.size) := by omega
    obtain ⟨d0, d1, _, _⟩ := box2 qd
    obtain ⟨d2, d3, d4, d5, d6, d7, d8⟩ := ex_box qb
    have k2 := kr w2.drew ((show Fr FN w w2 from fw).same (Fr.drew _ _))
    clear kr k1 kd hD hB hC f1 f2 fa g2 hsz
    go_wp2_with fail
    go_region_held3 (fun w' => w'.cell? ⟨w1.heap.size, 0, none⟩ = some (ci t) ∧ w'.cell? ⟨w1.heap.size, 1, none⟩ = some (.int .u64 b) ∧ w'.cell? ⟨w.heap.size + 1, 0, none⟩ = some (ci hr.kind) ∧ w'.cell? ⟨w.heap.size + 1, 1, none⟩ = some (ci hr.op) ∧ w'.cell? ⟨w.heap.size + 1, 2, none⟩ = some (ct hr.mod) ∧ w'.cell? ⟨w.heap.size + 1, 3, none⟩ = some (ct hr.name) ∧ w'.cell? ⟨w.heap.size + 1, 4, none⟩ = some (ci hr.vt) ∧ w'.cell? ⟨w.heap.size + 1, 5, none⟩ = some (.int .u64 hr.vb) ∧ w'.cell? ⟨w.heap.size + 1, 6, none⟩ = some (vr)) (first | (revert hF; intro hF; exact (show False from hF).elim) | (refine ⟨by with_reducible assumption, by with_reducible assumption, by with_reducible assumption, by with_reducible assumption, by with_reducible assumption, by with_reducible assumption, by with_reducible assumption, by with_reducible assumption, by with_reducible assumption⟩) | go_keep) (first
      | (go_at_call 131; refine k2.mono ?_; rintro e w3 ⟨rfl, f3⟩; have g3 := (Fr.drew FN w2).same f3; have e0 := g3.cellN d0; have e1 := g3.cellN d1; have e2 := g3.cellN d2; have e3 := g3.cellN d3; have e4 := g3.cellN d4; have e5 := g3.cellN d5; have e6 := g3.cellN d6; have e7 := g3.cellN d7; have e8 := g3.cellN d8; clear f3)
      | (go_at_call 173; refine (kb _).mono ?_; rintro e w4 ⟨rfl, f4⟩; have g4 := g3.same f4; have h0 := g4.cellN d0; have h1 := g4.cellN d1; have h2 := g4.cellN d2; have h3 := g4.cellN d3; have h4 := g4.cellN d4; have h5 := g4.cellN d5; have h6 := g4.cellN d6; have h7 := g4.cellN d7; have h8 := g4.cellN d8; clear f4)
      | (go_at_call 151; refine (ku _).mono ?_; rintro e w5 ⟨rfl, f5⟩; have g5 := g4.same f5; have m0 := g5.cellN d0; have m1 := g5.cellN d1; have m2 := g5.cellN d2; have m3 := g5.cellN d3; have m4 := g5.cellN d4; have m5 := g5.cellN d5; have m6 := g5.cellN d6; have m7 := g5.cellN d7; have m8 := g5.cellN d8; clear f5; have q5 := g5.heap qc (fun f => f); obtain ⟨c0, c1, z0, z1⟩ := box2 q5)
      )
    all_goals (go_wp2_with fail)
    all_goals exact post_v1 (set_two q5 _ _) rfl rfl rfl ⟨rfl, fr_two ((show Fr FN w w2 from fw).same g5) (by omega) _ _⟩
  · rw [trapEv_ne _ hq, fin_trp] at ku ⊢
    dsimp only [vv] at ku ⊢
    clear hq
    go_enter Tryz.func153, Tryz.ntmps153
    go_wp2_with fail
    go_at_call 131
    refine k1.mono ?_
    rintro e w1 ⟨rfl, f1⟩
    have hD : Hidden ((w1.alloc (zb (ci t) (.int .u64 b))).heap[w1.heap.size]? = some (zb (ci t) (.int .u64 b))) := alloc_new _ _
    have fa := Fr.alloc FN w1 (zb (ci t) (.int .u64 b))
    go_wp2_with fail
    go_at_call 172
    refine (kd _).mono ?_
    rintro e w2 ⟨rfl, f2⟩
    have qd : Hidden (w2.heap[w1.heap.size]? = some (zb (ci t) (.int .u64 b))) := f2.heap hD (fun f => f)
    have g2 : Fr FN (((w.alloc (exO hl vl)).alloc (exO hr vr)).alloc zo) w2 := f1.same (fa.same f2)
    have qb : Hidden (w2.heap[w.heap.size + 1]? = some (exO hr vr)) := g2.heap hB (fun f => f)
    have qc : Hidden (w2.heap[w.heap.size + 2]? = some zo) := g2.heap hC (fun f => f)
    have fw : Hidden (Fr FN w w2) := f0.same g2
    have hsz : w.heap.size + 2 < w1.heap.size := lt_of_heap (f1.heap hC (fun f => f))
    have ne1 : ¬ (w1.heap.size = w.heap.size + 1 + 1) := by omega
    have ne2 : ¬ (w.heap.size + 1 + 1 = w1.heap.size) := by omega
    obtain ⟨d0, d1, _, _⟩ := box2 qd
    obtain ⟨d2, d3, d4, d5, d6, d7, d8⟩ := ex_box qb
    have k2 := kr w2.drew ((show Fr FN w w2 from fw).same (Fr.drew _ _))
    clear kr k1 kd hD hB hC f1 f2 fa g2 hsz
    go_wp2_with fail
    go_region_held (fun w' => w'.cell? ⟨w1.heap.size, 0, none⟩ = some (ci t) ∧ w'.cell? ⟨w1.heap.size, 1, none⟩ = some (.int .u64 b) ∧ w'.cell? ⟨w.heap.size + 1, 0, none⟩ = some (ci hr.kind) ∧ w'.cell? ⟨w.heap.size + 1, 1, none⟩ = some (ci hr.op) ∧ w'.cell? ⟨w.heap.size + 1, 2, none⟩ = some (ct hr.mod) ∧ w'.cell? ⟨w.heap.size + 1, 3, none⟩ = some (ct hr.name) ∧ w'.cell? ⟨w.heap.size + 1, 4, none⟩ = some (ci hr.vt) ∧ w'.cell? ⟨w.heap.size + 1, 5, none⟩ = some (.int .u64 hr.vb) ∧ w'.cell? ⟨w.heap.size + 1, 6, none⟩ = some (vr)) (first | (revert hF; intro hF; exact (show False from hF).elim) | (refine ⟨by with_reducible assumption, by with_reducible assumption, by with_reducible assumption, by with_reducible assumption, by with_reducible assumption, by with_reducible assumption, by with_reducible assumption, by with_reducible assumption, by with_reducible assumption⟩) | go_keep) (first
      | (go_at_call 131; refine k2.mono ?_; rintro e w3 ⟨rfl, f3⟩; have g3 := (Fr.drew FN w2).same f3; have e0 := g3.cellN d0; have e1 := g3.cellN d1; have e2 := g3.cellN d2; have e3 := g3.cellN d3; have e4 := g3.cellN d4; have e5 := g3.cellN d5; have e6 := g3.cellN d6; have e7 := g3.cellN d7; have e8 := g3.cellN d8; clear f3)
      | (go_at_call 173; refine (kb _).mono ?_; rintro e w4 ⟨rfl, f4⟩; have g4 := g3.same f4; have h0 := g4.cellN d0; have h1 := g4.cellN d1; have h2 := g4.cellN d2; have h3 := g4.cellN d3; have h4 := g4.cellN d4; have h5 := g4.cellN d5; have h6 := g4.cellN d6; have h7 := g4.cellN d7; have h8 := g4.cellN d8; clear f4)
      | (go_at_call 151; refine (dead (ku _) (.agg #[.int .i64 0, .int .u64 0])).mono ?_; rintro e w5 (⟨rfl, f5⟩ | ⟨hF, rfl⟩); (focus (exact ⟨rfl, rfl, (show Fr FN w w2 from fw).same (g4.same f5)⟩)); have c0 : w5.cell? ⟨w.heap.size + 2, 0, none⟩ = some (ci 0) := (show False from hF).elim; have c1 : w5.cell? ⟨w.heap.size + 2, 1, none⟩ = some (.int .u64 0) := (show False from hF).elim; have z0 : w5.frozen? ⟨w.heap.size + 2, 0, none⟩ = false := (show False from hF).elim; have z1 : w5.frozen? ⟨w.heap.size + 2, 1, none⟩ = false := (show False from hF).elim)
      )
    all_goals exact (show False from hF).elim
end Go.Proofs.YtakkiipkmogagaaGreat.Fo

namespace Go.Proofs.YtakkiipkmogagaaGreat.Fo
open Go.RowKit Te
set_option linter.unusedSimpArgs false
set_option linter.unusedVariables false

theorem U0 : U64 0 := ⟨by omega, by omega⟩
theorem U1 : U64 1 := ⟨by omega, by omega⟩
theorem truthF_U (b : Bool) : U64 (truthF b).2 := by cases b; exact U0; exact U1
theorem wholeF_U (n e : Int) : U64 (wholeF n e).1.2 := by
  unfold wholeF
  split
  · exact uwrapU n
  · exact U0
theorem intsF_U (op a b : Int) : U64 (intsF op a b).1.2 := by
  unfold intsF
  repeat' split
  all_goals first | exact wholeF_U _ _ | exact truthF_U _
theorem fltsF_U (op a b : Int) : U64 (fltsF op a b).2 := by
  unfold fltsF
  repeat' split
  all_goals first | exact truthF_U _ | exact ⟨(F.res_U _ _ _).1, (F.res_U _ _ _).2⟩
theorem boolsF_U (op : Int) (a b : Bool) : U64 (boolsF op a b).2 := by
  unfold boolsF
  repeat' split
  all_goals exact truthF_U _
theorem binF_U (op : Int) (a b : Vl) : U64 (binF op a b).1.2 := by
  unfold binF
  repeat' split
  · exact U0
  · exact intsF_U _ _ _
  · exact fltsF_U _ _ _
  · exact boolsF_U _ _ _
theorem fromInt_U (n : Int) : U64 ((floatOfInt .f64 n : Nat) : Int) := by
  rw [F.floatOfInt_eq]
  have := (F.nan_word (decide (n < 0)) (F.Fl.rung n.natAbs 0) (F.Fl.rung_le _ _)).2
  exact ⟨this.1, this.2⟩
theorem unF_U (op : Int) (a : Vl) (h : U64 a.2) : U64 (unF op a).1.2 := by
  unfold unF
  repeat' split
  · exact U0
  · have := F.neg_U a.2 ⟨h.1, h.2⟩
    exact ⟨this.1, this.2⟩
  · exact wholeF_U _ _
  · exact truthF_U _
  · exact wholeF_U _ _
  · exact fromInt_U _
def okU (e : Ev) : Prop := ∀ v, e = .ok v → U64 v.2
theorem bd_U {a : Ev} {f : Vl → Ev} (ha : okU a) (h : ∀ v, U64 v.2 → okU (f v)) : okU (a.bd f) := by
  cases a with
  | ok v => exact h v (ha v rfl)
  | flt c => intro v e; cases e
  | trp c => intro v e; cases e
theorem trapEv_U {r : Vl × Int} (h : U64 r.1.2) : okU (trapEv r) := by
  unfold trapEv
  split
  · intro v e; cases e; exact h
  · intro v e; cases e
theorem flt_U (c : Int) : okU (.flt c) := by intro v e; cases e
theorem ok_U {v : Vl} (h : U64 v.2) : okU (.ok v) := by intro u e; cases e; exact h
theorem findC_U (l : List Con) (hok : ∀ c ∈ l, U64 c.b) (m n : Bs) : okU (findC l m n) := by
  induction l with
  | nil => exact flt_U _
  | cons c r ih =>
    unfold findC
    split
    · split
      · exact ok_U (hok c (by simp))
      · exact flt_U _
    · exact ih (fun x hx => hok x (by simp [hx]))
theorem callF_U (l : List Ev) : okU (callF l) := by
  induction l with
  | nil => exact flt_U _
  | cons e r ih =>
    unfold callF
    cases e with
    | ok v => exact ih
    | flt c => exact flt_U _
    | trp c => intro v e; cases e
theorem twoF_U (op : Int) (a b : Ev) (ha : okU a) (hb : okU b) : okU (twoF op a b) := by
  unfold twoF
  refine bd_U ha fun v hv => ?_
  split
  · exact flt_U _
  · exact ok_U hv
  · exact bd_U hb fun u hu => trapEv_U (binF_U _ _ _)
theorem getD_U {l : List Ev} (h : ∀ e ∈ l, okU e) (i : Nat) : okU (l.getD i (.flt 0)) := by
  rw [List.getD_eq_getElem?_getD]
  cases hg : l[i]? with
  | none => exact flt_U _
  | some e => exact h e (List.mem_of_getElem? hg)
theorem evN_U (l : List Con) (hok : ∀ c ∈ l, U64 c.b) (h : EH) (hh : OkE h) (ks : List Ev) (hk : ∀ e ∈ ks, okU e) : okU (evN l h ks) := by
  unfold evN
  repeat' split
  · exact findC_U l hok _ _
  · exact callF_U _
  · exact bd_U (getD_U hk 0) fun v hv => trapEv_U (unF_U _ _ hv)
  · exact twoF_U _ _ _ (getD_U hk 0) (getD_U hk 1)
  · exact ok_U ⟨hh.vb0, hh.vb1⟩
theorem evF_U (l : List Con) (hok : ∀ c ∈ l, U64 c.b) : ∀ (k : Exs), OkX k → ∀ e ∈ evF l k, okU e
  | .nil, _ => by intro e he; simp [evF] at he
  | .cons h k r, hx => by
    intro e he
    rw [evF, List.mem_cons] at he
    rcases he with rfl | he
    · exact evN_U l hok h hx.1 _ (evF_U l hok k hx.2.1)
    · exact evF_U l hok r hx.2.2 e he
theorem evX_U (l : List Con) (hok : ∀ c ∈ l, U64 c.b) (h : EH) (hh : OkE h) (k : Exs) (hk : OkX k) : okU (evX l h k) := evN_U l hok h hh _ (evF_U l hok k hk)
theorem orE0 {a b : Int} (h : orE a b = 0) : a = 0 ∧ b = 0 := by
  unfold orE at h
  split at h
  · exact ⟨by assumption, h⟩
  · exact absurd h (by assumption)
end Go.Proofs.YtakkiipkmogagaaGreat.Fo

namespace Go.Proofs.YtakkiipkmogagaaGreat.Fo
open Go.RowKit Te
set_option linter.unusedSimpArgs false
set_option linter.unusedVariables false

theorem cell_lt {w : World} {b off : Nat} {v : Value} (h : w.cell? ⟨b, off, none⟩ = some v) : b < w.heap.size := by
  by_cases hb : b < w.heap.size
  · exact hb
  · simp [World.cell?, Array.getElem?_eq_none (Nat.le_of_not_lt hb)] at h
def VlX (l : List Con) (h : EH) (k : Exs) : Prop := ∀ (ao : Option Addr) (cap : Nat) (la : Option Addr) (lc : Nat) (w : World), OkE h → OkX k → errH rnS cnS h k.len = 0 → errL rnS cnS k = 0 → ExL w ao cap k → CoL w la lc l →
  Calls Tryz.prog 131 #[exV h (.slice ao k.len cap), .slice la l.length lc] w fun e w' => e = (evX l h k).fin ∧ Fr FN w w'
def AllV (l : List Con) : Exs → Prop
  | .nil => True
  | .cons h k r => VlX l h k ∧ AllV l r
theorem fits_kind {h : EH} {n : Nat} (hf : fitsE cnS h n = true) : h.kind = 1 ∨ h.kind = 2 ∨ h.kind = 3 ∨ h.kind = 4 ∨ h.kind = 5 ∨ (h.kind = 6 ∧ n = 1) ∨ (h.kind = 7 ∧ n = 2) ∨ h.kind = 8 := by
  unfold fitsE at hf
  by_cases h1 : h.kind = 1
  · exact Or.inl h1
  by_cases h2 : h.kind = 2
  · exact Or.inr (Or.inl h2)
  by_cases h3 : h.kind = 3
  · exact Or.inr (Or.inr (Or.inl h3))
  by_cases h4 : h.kind = 4
  · exact Or.inr (Or.inr (Or.inr (Or.inl h4)))
  by_cases h5 : h.kind = 5
  · exact Or.inr (Or.inr (Or.inr (Or.inr (Or.inl h5))))
  rw [if_neg h1, if_neg h2, if_neg h3, if_neg h4, if_neg h5] at hf
  by_cases h6 : h.kind = 6
  · rw [if_pos h6] at hf
    have := of_decide_eq_true hf
    exact Or.inr (Or.inr (Or.inr (Or.inr (Or.inr (Or.inl ⟨h6, this.2.2.1⟩)))))
  by_cases h7 : h.kind = 7
  · rw [if_neg h6, if_pos h7] at hf
    have := of_decide_eq_true hf
    exact Or.inr (Or.inr (Or.inr (Or.inr (Or.inr (Or.inr (Or.inl ⟨h7, this.2.2.1⟩))))))
  by_cases h8 : h.kind = 8
  · exact Or.inr (Or.inr (Or.inr (Or.inr (Or.inr (Or.inr (Or.inr h8))))))
  rw [if_neg h6, if_neg h7, if_neg h8] at hf
  cases hf
set_option maxRecDepth 20000 in
set_option maxHeartbeats 4000000 in
theorem val_1 (l : List Con) (hok : ∀ c ∈ l, U64 c.b) (op : Int) (mod name : Bs) (vt vb : Int) (k : Exs) (ih : AllV l k) : VlX l ⟨1, op, mod, name, vt, vb⟩ k := by
  intro ao cap la lc w ho hx he hel hk hl
  have f0 : Fr FN w ((w.alloc (exO ⟨1, op, mod, name, vt, vb⟩ (.slice ao k.len cap))).alloc zo) := (Fr.alloc _ _ _).same (Fr.alloc _ _ _)
  have hA : Hidden (((w.alloc (exO ⟨1, op, mod, name, vt, vb⟩ (.slice ao k.len cap))).alloc zo).heap[w.heap.size]? = some (exO ⟨1, op, mod, name, vt, vb⟩ (.slice ao k.len cap))) := (alloc_old _ _ _ (by simp)).trans (alloc_new _ _)
  have hC : Hidden (((w.alloc (exO ⟨1, op, mod, name, vt, vb⟩ (.slice ao k.len cap))).alloc zo).heap[w.heap.size + 1]? = some zo) := alloc_at _ _ _ (by simp)
  rw [show evX l ⟨1, op, mod, name, vt, vb⟩ k = .ok (vt, vb) from rfl, fin_ok]
  dsimp only [vv]
  clear ih ho hx he hel hk hl hA hC
  go_enter Tryz.func131, Tryz.ntmps131
  go_wp2
  exact post_v1 (alloc_at _ _ _ (by simp)) rfl rfl rfl ⟨rfl, (Fr.alloc _ _ _).same (Fr.alloc _ _ _)⟩
set_option maxRecDepth 20000 in
set_option maxHeartbeats 4000000 in
theorem val_2 (l : List Con) (hok : ∀ c ∈ l, U64 c.b) (op : Int) (mod name : Bs) (vt vb : Int) (k : Exs) (ih : AllV l k) : VlX l ⟨2, op, mod, name, vt, vb⟩ k := by
  intro ao cap la lc w ho hx he hel hk hl
  have f0 : Fr FN w ((w.alloc (exO ⟨2, op, mod, name, vt, vb⟩ (.slice ao k.len cap))).alloc zo) := (Fr.alloc _ _ _).same (Fr.alloc _ _ _)
  have hA : Hidden (((w.alloc (exO ⟨2, op, mod, name, vt, vb⟩ (.slice ao k.len cap))).alloc zo).heap[w.heap.size]? = some (exO ⟨2, op, mod, name, vt, vb⟩ (.slice ao k.len cap))) := (alloc_old _ _ _ (by simp)).trans (alloc_new _ _)
  have hC : Hidden (((w.alloc (exO ⟨2, op, mod, name, vt, vb⟩ (.slice ao k.len cap))).alloc zo).heap[w.heap.size + 1]? = some zo) := alloc_at _ _ _ (by simp)
  rw [show evX l ⟨2, op, mod, name, vt, vb⟩ k = findC l mod name from rfl]
  have kn := named_any mod name l la lc _ (hl.keep f0) hok
  generalize findC l mod name = R at kn ⊢
  clear ih ho hx he hel hk hl hok
  rcases R with ⟨t, b⟩ | c | c
  · rw [fin_ok] at kn ⊢
    dsimp only [vv] at kn ⊢
    go_enter Tryz.func131, Tryz.ntmps131
    go_wp2_with (go_at_call 150; refine kn.mono ?_; rintro e w2 ⟨rfl, f2⟩; have q2 := f2.heap hC (fun f => f); obtain ⟨c0, c1, z0, z1⟩ := box2 q2)
    exact post_v1 (set_two q2 _ _) rfl rfl rfl ⟨rfl, fr_two (f0.same f2) (by omega) _ _⟩
  · rw [fin_flt] at kn ⊢
    go_enter Tryz.func131, Tryz.ntmps131
    go_wp2_with (go_at_call 150; refine kn.mono ?_; rintro e w2 ⟨rfl, f2⟩)
    exact ⟨rfl, rfl, f0.same f2⟩
  · rw [fin_trp] at kn ⊢
    go_enter Tryz.func131, Tryz.ntmps131
    go_wp2_with (go_at_call 150; refine kn.mono ?_; rintro e w2 ⟨rfl, f2⟩)
    exact ⟨rfl, rfl, f0.same f2⟩
set_option maxRecDepth 20000 in
set_option maxHeartbeats 4000000 in
theorem val_3 (l : List Con) (hok : ∀ c ∈ l, U64 c.b) (op : Int) (mod name : Bs) (vt vb : Int) (k : Exs) (ih : AllV l k) : VlX l ⟨3, op, mod, name, vt, vb⟩ k := by
  intro ao cap la lc w ho hx he hel hk hl
  have f0 : Fr FN w ((w.alloc (exO ⟨3, op, mod, name, vt, vb⟩ (.slice ao k.len cap))).alloc zo) := (Fr.alloc _ _ _).same (Fr.alloc _ _ _)
  have hA : Hidden (((w.alloc (exO ⟨3, op, mod, name, vt, vb⟩ (.slice ao k.len cap))).alloc zo).heap[w.heap.size]? = some (exO ⟨3, op, mod, name, vt, vb⟩ (.slice ao k.len cap))) := (alloc_old _ _ _ (by simp)).trans (alloc_new _ _)
  have hC : Hidden (((w.alloc (exO ⟨3, op, mod, name, vt, vb⟩ (.slice ao k.len cap))).alloc zo).heap[w.heap.size + 1]? = some zo) := alloc_at _ _ _ (by simp)
  rw [show evX l ⟨3, op, mod, name, vt, vb⟩ k = findC l mod name from rfl]
  have kn := named_any mod name l la lc _ (hl.keep f0) hok
  generalize findC l mod name = R at kn ⊢
  clear ih ho hx he hel hk hl hok
  rcases R with ⟨t, b⟩ | c | c
  · rw [fin_ok] at kn ⊢
    dsimp only [vv] at kn ⊢
    go_enter Tryz.func131, Tryz.ntmps131
    go_wp2_with (go_at_call 150; refine kn.mono ?_; rintro e w2 ⟨rfl, f2⟩; have q2 := f2.heap hC (fun f => f); obtain ⟨c0, c1, z0, z1⟩ := box2 q2)
    exact post_v1 (set_two q2 _ _) rfl rfl rfl ⟨rfl, fr_two (f0.same f2) (by omega) _ _⟩
  · rw [fin_flt] at kn ⊢
    go_enter Tryz.func131, Tryz.ntmps131
    go_wp2_with (go_at_call 150; refine kn.mono ?_; rintro e w2 ⟨rfl, f2⟩)
    exact ⟨rfl, rfl, f0.same f2⟩
  · rw [fin_trp] at kn ⊢
    go_enter Tryz.func131, Tryz.ntmps131
    go_wp2_with (go_at_call 150; refine kn.mono ?_; rintro e w2 ⟨rfl, f2⟩)
    exact ⟨rfl, rfl, f0.same f2⟩
set_option maxRecDepth 20000 in
set_option maxHeartbeats 4000000 in
theorem val_4 (l : List Con) (hok : ∀ c ∈ l, U64 c.b) (op : Int) (mod name : Bs) (vt vb : Int) (k : Exs) (ih : AllV l k) : VlX l ⟨4, op, mod, name, vt, vb⟩ k := by
  intro ao cap la lc w ho hx he hel hk hl
  have f0 : Fr FN w ((w.alloc (exO ⟨4, op, mod, name, vt, vb⟩ (.slice ao k.len cap))).alloc zo) := (Fr.alloc _ _ _).same (Fr.alloc _ _ _)
  have hA : Hidden (((w.alloc (exO ⟨4, op, mod, name, vt, vb⟩ (.slice ao k.len cap))).alloc zo).heap[w.heap.size]? = some (exO ⟨4, op, mod, name, vt, vb⟩ (.slice ao k.len cap))) := (alloc_old _ _ _ (by simp)).trans (alloc_new _ _)
  have hC : Hidden (((w.alloc (exO ⟨4, op, mod, name, vt, vb⟩ (.slice ao k.len cap))).alloc zo).heap[w.heap.size + 1]? = some zo) := alloc_at _ _ _ (by simp)
  rw [show evX l ⟨4, op, mod, name, vt, vb⟩ k = callF (evF l k) from rfl]
  obtain ⟨W0, hW0⟩ : ∃ W, W = ((w.alloc (exO ⟨4, op, mod, name, vt, vb⟩ (.slice ao k.len cap))).alloc zo) := ⟨_, rfl⟩
  rw [← hW0] at f0 hA hC
  have hW0H : Hidden (W0 = _) := hW0
  have hrest := (hk.keep f0).rest
  obtain ⟨hcap, hmax, _⟩ := hk
  have hlen : k.len ≤ 9223372036854775807 := by unfold maxLen at hmax; omega
  have hlW : Hidden (CoL W0 la lc l) := hl.keep f0
  have f0H : Hidden (Fr FN w W0) := f0
  obtain ⟨a0, a1, a2, a3, a4, a5, a6⟩ := ex_box hA
  clear hl hW0 he ho f0
  go_enter Tryz.func131, Tryz.ntmps131
  go_wp2_with fail
  rw [← (show W0 = _ from hW0H)]
  go_loopg [25] k.len (fun g iv wr => ∃ (i : Nat) (r : Exs), iv = ci (i : Int) ∧ i + r.len = k.len ∧ AllV l r ∧ OkX r ∧ errL rnS cnS r = 0 ∧ ExR W0 ao i r ∧ callF (evF l k) = callF (evF l r) ∧ g = r.len ∧ Fr FN W0 wr)
  case atStart => exact ⟨0, k, rfl, by omega, ih, hx, hel, hrest, rfl, rfl, Fr.refl _ _⟩
  case round =>
    obtain ⟨i, r, rfl, hlen2, hih, hxr, herr, hrow, hdk, hgk, hfr⟩ := hrel
    have hgkH : Hidden (gk = r.len) := hgk
    have hdkH : Hidden (callF (evF l k) = callF (evF l r)) := hdk
    have hlenH : Hidden (i + r.len = k.len) := hlen2
    clear hgk hdk hlen2 hrest ih hx hel
    cases r with
    | nil =>
      have hi : i = k.len := hlenH
      subst hi
      have hres : Hidden (callF (evF l k) = .flt 25) := hdkH
      go_wp2_with fail
      exact ⟨rfl, by rw [show callF (evF l k) = .flt 25 from hres]; rfl, (show Fr FN w W0 from f0H).same hfr⟩
    | cons h' k' r' =>
      have hil : i < k.len := by have : i + (r'.len + 1) = k.len := hlenH; omega
      obtain ⟨b, off, ao', cap', rfl, hL, hrow2, d0, d1, d2, d3, d4, d5, d6⟩ := hrow.next
      have d0 := hfr.cellN d0
      have d1 := hfr.cellN d1
      have d2 := hfr.cellN d2
      have d3 := hfr.cellN d3
      have d4 := hfr.cellN d4
      have d5 := hfr.cellN d5
      have d6 := hfr.cellN d6
      have f2 := hfr.same (Fr.alloc FN wr (exO h' (.slice ao' k'.len cap')))
      have he2 := orE0 (show orE (orE (errH rnS cnS h' k'.len) (errL rnS cnS k')) (errL rnS cnS r') = 0 from herr)
      have kc := hih.1 ao' cap' la lc _ hxr.1 hxr.2.1 (orE0 he2.1).1 (orE0 he2.1).2 (hL.keep f2) ((show CoL W0 la lc l from hlW).keep f2)
      have hev : Hidden (callF (evF l k) = (evX l h' k').bd fun _ => callF (evF l r')) := hdkH
      have hih2 := hih.2
      have herr2 : Hidden (errL rnS cnS r' = 0) := he2.2
      have hxr2 := hxr.2.2
      clear hih herr he2 hxr hdkH hL
      generalize evX l h' k' = E at kc hev
      rcases E with v | c | c
      · rw [fin_ok] at kc
        go_wp2_with fail
        go_at_call 131
        refine kc.mono ?_
        rintro e W3 ⟨rfl, f3⟩
        go_wp2_with fail
        go_roundg r'.len
        case measure =>
          have : gk = r'.len + 1 := hgkH
          omega
        case rel =>
          refine ⟨i + 1, r', by go_num, ?_, hih2, hxr2, herr2, hrow2, hev, rfl, f2.same f3⟩
          have : i + (r'.len + 1) = k.len := hlenH
          omega
      · rw [fin_flt] at kc
        go_wp2_with fail
        go_at_call 131
        refine kc.mono ?_
        rintro e W3 ⟨rfl, f3⟩
        go_wp2_with fail
        exact ⟨rfl, by rw [show callF (evF l k) = _ from hev]; rfl, (show Fr FN w W0 from f0H).same (f2.same f3)⟩
      · rw [fin_trp] at kc
        go_wp2_with fail
        go_at_call 131
        refine kc.mono ?_
        rintro e W3 ⟨rfl, f3⟩
        go_wp2_with fail
        exact ⟨rfl, by rw [show callF (evF l k) = _ from hev]; rfl, (show Fr FN w W0 from f0H).same (f2.same f3)⟩
set_option maxRecDepth 20000 in
set_option maxHeartbeats 4000000 in
theorem val_5 (l : List Con) (hok : ∀ c ∈ l, U64 c.b) (op : Int) (mod name : Bs) (vt vb : Int) (k : Exs) (ih : AllV l k) : VlX l ⟨5, op, mod, name, vt, vb⟩ k := by
  intro ao cap la lc w ho hx he hel hk hl
  have f0 : Fr FN w ((w.alloc (exO ⟨5, op, mod, name, vt, vb⟩ (.slice ao k.len cap))).alloc zo) := (Fr.alloc _ _ _).same (Fr.alloc _ _ _)
  have hA : Hidden (((w.alloc (exO ⟨5, op, mod, name, vt, vb⟩ (.slice ao k.len cap))).alloc zo).heap[w.heap.size]? = some (exO ⟨5, op, mod, name, vt, vb⟩ (.slice ao k.len cap))) := (alloc_old _ _ _ (by simp)).trans (alloc_new _ _)
  have hC : Hidden (((w.alloc (exO ⟨5, op, mod, name, vt, vb⟩ (.slice ao k.len cap))).alloc zo).heap[w.heap.size + 1]? = some zo) := alloc_at _ _ _ (by simp)
  rw [show evX l ⟨5, op, mod, name, vt, vb⟩ k = callF (evF l k) from rfl]
  obtain ⟨W0, hW0⟩ : ∃ W, W = ((w.alloc (exO ⟨5, op, mod, name, vt, vb⟩ (.slice ao k.len cap))).alloc zo) := ⟨_, rfl⟩
  rw [← hW0] at f0 hA hC
  have hW0H : Hidden (W0 = _) := hW0
  have hrest := (hk.keep f0).rest
  obtain ⟨hcap, hmax, _⟩ := hk
  have hlen : k.len ≤ 9223372036854775807 := by unfold maxLen at hmax; omega
  have hlW : Hidden (CoL W0 la lc l) := hl.keep f0
  have f0H : Hidden (Fr FN w W0) := f0
  obtain ⟨a0, a1, a2, a3, a4, a5, a6⟩ := ex_box hA
  clear hl hW0 he ho f0
  go_enter Tryz.func131, Tryz.ntmps131
  go_wp2_with fail
  rw [← (show W0 = _ from hW0H)]
  go_loopg [25] k.len (fun g iv wr => ∃ (i : Nat) (r : Exs), iv = ci (i : Int) ∧ i + r.len = k.len ∧ AllV l r ∧ OkX r ∧ errL rnS cnS r = 0 ∧ ExR W0 ao i r ∧ callF (evF l k) = callF (evF l r) ∧ g = r.len ∧ Fr FN W0 wr)
  case atStart => exact ⟨0, k, rfl, by omega, ih, hx, hel, hrest, rfl, rfl, Fr.refl _ _⟩
  case round =>
    obtain ⟨i, r, rfl, hlen2, hih, hxr, herr, hrow, hdk, hgk, hfr⟩ := hrel
    have hgkH : Hidden (gk = r.len) := hgk
    have hdkH : Hidden (callF (evF l k) = callF (evF l r)) := hdk
    have hlenH : Hidden (i + r.len = k.len) := hlen2
    clear hgk hdk hlen2 hrest ih hx hel
    cases r with
    | nil =>
      have hi : i = k.len := hlenH
      subst hi
      have hres : Hidden (callF (evF l k) = .flt 25) := hdkH
      go_wp2_with fail
      exact ⟨rfl, by rw [show callF (evF l k) = .flt 25 from hres]; rfl, (show Fr FN w W0 from f0H).same hfr⟩
    | cons h' k' r' =>
      have hil : i < k.len := by have : i + (r'.len + 1) = k.len := hlenH; omega
      obtain ⟨b, off, ao', cap', rfl, hL, hrow2, d0, d1, d2, d3, d4, d5, d6⟩ := hrow.next
      have d0 := hfr.cellN d0
      have d1 := hfr.cellN d1
      have d2 := hfr.cellN d2
      have d3 := hfr.cellN d3
      have d4 := hfr.cellN d4
      have d5 := hfr.cellN d5
      have d6 := hfr.cellN d6
      have f2 := hfr.same (Fr.alloc FN wr (exO h' (.slice ao' k'.len cap')))
      have he2 := orE0 (show orE (orE (errH rnS cnS h' k'.len) (errL rnS cnS k')) (errL rnS cnS r') = 0 from herr)
      have kc := hih.1 ao' cap' la lc _ hxr.1 hxr.2.1 (orE0 he2.1).1 (orE0 he2.1).2 (hL.keep f2) ((show CoL W0 la lc l from hlW).keep f2)
      have hev : Hidden (callF (evF l k) = (evX l h' k').bd fun _ => callF (evF l r')) := hdkH
      have hih2 := hih.2
      have herr2 : Hidden (errL rnS cnS r' = 0) := he2.2
      have hxr2 := hxr.2.2
      clear hih herr he2 hxr hdkH hL
      generalize evX l h' k' = E at kc hev
      rcases E with v | c | c
      · rw [fin_ok] at kc
        go_wp2_with fail
        go_at_call 131
        refine kc.mono ?_
        rintro e W3 ⟨rfl, f3⟩
        go_wp2_with fail
        go_roundg r'.len
        case measure =>
          have : gk = r'.len + 1 := hgkH
          omega
        case rel =>
          refine ⟨i + 1, r', by go_num, ?_, hih2, hxr2, herr2, hrow2, hev, rfl, f2.same f3⟩
          have : i + (r'.len + 1) = k.len := hlenH
          omega
      · rw [fin_flt] at kc
        go_wp2_with fail
        go_at_call 131
        refine kc.mono ?_
        rintro e W3 ⟨rfl, f3⟩
        go_wp2_with fail
        exact ⟨rfl, by rw [show callF (evF l k) = _ from hev]; rfl, (show Fr FN w W0 from f0H).same (f2.same f3)⟩
      · rw [fin_trp] at kc
        go_wp2_with fail
        go_at_call 131
        refine kc.mono ?_
        rintro e W3 ⟨rfl, f3⟩
        go_wp2_with fail
        exact ⟨rfl, by rw [show callF (evF l k) = _ from hev]; rfl, (show Fr FN w W0 from f0H).same (f2.same f3)⟩
set_option maxRecDepth 20000 in
set_option maxHeartbeats 4000000 in
theorem val_8 (l : List Con) (hok : ∀ c ∈ l, U64 c.b) (op : Int) (mod name : Bs) (vt vb : Int) (k : Exs) (ih : AllV l k) : VlX l ⟨8, op, mod, name, vt, vb⟩ k := by
  intro ao cap la lc w ho hx he hel hk hl
  have f0 : Fr FN w ((w.alloc (exO ⟨8, op, mod, name, vt, vb⟩ (.slice ao k.len cap))).alloc zo) := (Fr.alloc _ _ _).same (Fr.alloc _ _ _)
  have hA : Hidden (((w.alloc (exO ⟨8, op, mod, name, vt, vb⟩ (.slice ao k.len cap))).alloc zo).heap[w.heap.size]? = some (exO ⟨8, op, mod, name, vt, vb⟩ (.slice ao k.len cap))) := (alloc_old _ _ _ (by simp)).trans (alloc_new _ _)
  have hC : Hidden (((w.alloc (exO ⟨8, op, mod, name, vt, vb⟩ (.slice ao k.len cap))).alloc zo).heap[w.heap.size + 1]? = some zo) := alloc_at _ _ _ (by simp)
  rw [show evX l ⟨8, op, mod, name, vt, vb⟩ k = callF (evF l k) from rfl]
  obtain ⟨W0, hW0⟩ : ∃ W, W = ((w.alloc (exO ⟨8, op, mod, name, vt, vb⟩ (.slice ao k.len cap))).alloc zo) := ⟨_, rfl⟩
  rw [← hW0] at f0 hA hC
  have hW0H : Hidden (W0 = _) := hW0
  have hrest := (hk.keep f0).rest
  obtain ⟨hcap, hmax, _⟩ := hk
  have hlen : k.len ≤ 9223372036854775807 := by unfold maxLen at hmax; omega
  have hlW : Hidden (CoL W0 la lc l) := hl.keep f0
  have f0H : Hidden (Fr FN w W0) := f0
  obtain ⟨a0, a1, a2, a3, a4, a5, a6⟩ := ex_box hA
  clear hl hW0 he ho f0
  go_enter Tryz.func131, Tryz.ntmps131
  go_wp2_with fail
  rw [← (show W0 = _ from hW0H)]
  go_loopg [25] k.len (fun g iv wr => ∃ (i : Nat) (r : Exs), iv = ci (i : Int) ∧ i + r.len = k.len ∧ AllV l r ∧ OkX r ∧ errL rnS cnS r = 0 ∧ ExR W0 ao i r ∧ callF (evF l k) = callF (evF l r) ∧ g = r.len ∧ Fr FN W0 wr)
  case atStart => exact ⟨0, k, rfl, by omega, ih, hx, hel, hrest, rfl, rfl, Fr.refl _ _⟩
  case round =>
    obtain ⟨i, r, rfl, hlen2, hih, hxr, herr, hrow, hdk, hgk, hfr⟩ := hrel
    have hgkH : Hidden (gk = r.len) := hgk
    have hdkH : Hidden (callF (evF l k) = callF (evF l r)) := hdk
    have hlenH : Hidden (i + r.len = k.len) := hlen2
    clear hgk hdk hlen2 hrest ih hx hel
    cases r with
    | nil =>
      have hi : i = k.len := hlenH
      subst hi
      have hres : Hidden (callF (evF l k) = .flt 25) := hdkH
      go_wp2_with fail
      exact ⟨rfl, by rw [show callF (evF l k) = .flt 25 from hres]; rfl, (show Fr FN w W0 from f0H).same hfr⟩
    | cons h' k' r' =>
      have hil : i < k.len := by have : i + (r'.len + 1) = k.len := hlenH; omega
      obtain ⟨b, off, ao', cap', rfl, hL, hrow2, d0, d1, d2, d3, d4, d5, d6⟩ := hrow.next
      have d0 := hfr.cellN d0
      have d1 := hfr.cellN d1
      have d2 := hfr.cellN d2
      have d3 := hfr.cellN d3
      have d4 := hfr.cellN d4
      have d5 := hfr.cellN d5
      have d6 := hfr.cellN d6
      have f2 := hfr.same (Fr.alloc FN wr (exO h' (.slice ao' k'.len cap')))
      have he2 := orE0 (show orE (orE (errH rnS cnS h' k'.len) (errL rnS cnS k')) (errL rnS cnS r') = 0 from herr)
      have kc := hih.1 ao' cap' la lc _ hxr.1 hxr.2.1 (orE0 he2.1).1 (orE0 he2.1).2 (hL.keep f2) ((show CoL W0 la lc l from hlW).keep f2)
      have hev : Hidden (callF (evF l k) = (evX l h' k').bd fun _ => callF (evF l r')) := hdkH
      have hih2 := hih.2
      have herr2 : Hidden (errL rnS cnS r' = 0) := he2.2
      have hxr2 := hxr.2.2
      clear hih herr he2 hxr hdkH hL
      generalize evX l h' k' = E at kc hev
      rcases E with v | c | c
      · rw [fin_ok] at kc
        go_wp2_with fail
        go_at_call 131
        refine kc.mono ?_
        rintro e W3 ⟨rfl, f3⟩
        go_wp2_with fail
        go_roundg r'.len
        case measure =>
          have : gk = r'.len + 1 := hgkH
          omega
        case rel =>
          refine ⟨i + 1, r', by go_num, ?_, hih2, hxr2, herr2, hrow2, hev, rfl, f2.same f3⟩
          have : i + (r'.len + 1) = k.len := hlenH
          omega
      · rw [fin_flt] at kc
        go_wp2_with fail
        go_at_call 131
        refine kc.mono ?_
        rintro e W3 ⟨rfl, f3⟩
        go_wp2_with fail
        exact ⟨rfl, by rw [show callF (evF l k) = _ from hev]; rfl, (show Fr FN w W0 from f0H).same (f2.same f3)⟩
      · rw [fin_trp] at kc
        go_wp2_with fail
        go_at_call 131
        refine kc.mono ?_
        rintro e W3 ⟨rfl, f3⟩
        go_wp2_with fail
        exact ⟨rfl, by rw [show callF (evF l k) = _ from hev]; rfl, (show Fr FN w W0 from f0H).same (f2.same f3)⟩
set_option maxRecDepth 20000 in
set_option maxHeartbeats 4000000 in
theorem val_6 (l : List Con) (hok : ∀ c ∈ l, U64 c.b) (op : Int) (mod name : Bs) (vt vb : Int) (k : Exs) (ih : AllV l k) (hn : k.len = 1) : VlX l ⟨6, op, mod, name, vt, vb⟩ k := by
  intro ao cap la lc w ho hx he hel hk hl
  have f0 : Fr FN w ((w.alloc (exO ⟨6, op, mod, name, vt, vb⟩ (.slice ao k.len cap))).alloc zo) := (Fr.alloc _ _ _).same (Fr.alloc _ _ _)
  have hA : Hidden (((w.alloc (exO ⟨6, op, mod, name, vt, vb⟩ (.slice ao k.len cap))).alloc zo).heap[w.heap.size]? = some (exO ⟨6, op, mod, name, vt, vb⟩ (.slice ao k.len cap))) := (alloc_old _ _ _ (by simp)).trans (alloc_new _ _)
  have hC : Hidden (((w.alloc (exO ⟨6, op, mod, name, vt, vb⟩ (.slice ao k.len cap))).alloc zo).heap[w.heap.size + 1]? = some zo) := alloc_at _ _ _ (by simp)
  obtain ⟨W0, hW0⟩ : ∃ W, W = ((w.alloc (exO ⟨6, op, mod, name, vt, vb⟩ (.slice ao k.len cap))).alloc zo) := ⟨_, rfl⟩
  rw [← hW0] at f0 hA hC
  rcases k with _ | ⟨h1, k1, r1⟩
  · cases hn
  obtain rfl : r1 = .nil := by cases r1 with
    | nil => rfl
    | cons _ _ _ => simp [Exs.len] at hn
  have hrest := hk.rest
  obtain ⟨hcap, hmax, _⟩ := hk
  obtain ⟨kb, ko, ao1, cap1, rfl, hL, _, d0, d1, d2, d3, d4, d5, d6⟩ := hrest.next
  have hkb : kb < w.heap.size := cell_lt d0
  have hne1 : ¬ (kb = w.heap.size + 1) := by omega
  have hne2 : ¬ (w.heap.size + 1 = kb) := by omega
  replace hL := hL.keep f0
  replace d0 := f0.cellN d0
  replace d1 := f0.cellN d1
  replace d2 := f0.cellN d2
  replace d3 := f0.cellN d3
  replace d4 := f0.cellN d4
  replace d5 := f0.cellN d5
  replace d6 := f0.cellN d6
  rw [show ko + 0 * 7 = ko by omega] at d0 d1 d2 d3 d4 d5 d6
  have hcap1 : 1 ≤ cap := hcap
  have hmax1 : cap ≤ 9223372036854775807 := by unfold maxLen at hmax; omega
  change Calls _ _ #[exV ⟨6, op, mod, name, vt, vb⟩ (.slice (some ⟨kb, ko, none⟩) 1 cap), _] _ _
  have he2 := orE0 (show orE (orE (errH rnS cnS h1 k1.len) (errL rnS cnS k1)) (errL rnS cnS .nil) = 0 from hel)
  have hW0H : Hidden (W0 = ((w.alloc (exO ⟨6, op, mod, name, vt, vb⟩ (.slice (some ⟨kb, ko, none⟩) 1 cap))).alloc zo)) := hW0
  clear hW0
  have fd := f0.same (Fr.drew FN W0)
  have k2 := ih.1 ao1 cap1 la lc _ hx.1 hx.2.1 (orE0 he2.1).1 (orE0 he2.1).2 (hL.keep (Fr.drew FN W0)) (hl.keep fd)
  have hU := evX_U l hok h1 hx.1 k1 hx.2.1
  rw [show evX l ⟨6, op, mod, name, vt, vb⟩ (.cons h1 k1 .nil) = (evX l h1 k1).bd fun v => trapEv (unF op v) from rfl]
  obtain ⟨a0, a1, a2, a3, a4, a5, a6⟩ := ex_box hA
  generalize evX l h1 k1 = E at k2 hU ⊢
  clear ih he hel he2 hL hl ho hx hcap hmax hkb
  rcases E with v | c | c
  rotate_left
  · rw [show (Ev.flt c).bd (fun v => trapEv (unF op v)) = .flt c from rfl, fin_flt]
    rw [fin_flt] at k2
    clear hU
    have fw : Hidden (Fr FN w W0) := f0
    have qc := hC
    have x0 := a1
    have x1 := a6
    have x2 := d0
    have x3 := d1
    have x4 := d2
    have x5 := d3
    have x6 := d4
    have x7 := d5
    have x8 := d6
    clear hA f0 fd
    go_enter Tryz.func131, Tryz.ntmps131
    go_wp2_with fail
    rw [← (show W0 = _ from hW0H)]
    go_region_held (fun w' => w'.cell? ⟨w.heap.size, 1, none⟩ = some (ci op) ∧ w'.cell? ⟨w.heap.size, 6, none⟩ = some (.slice (some ⟨kb, ko, none⟩) 1 cap) ∧ w'.cell? ⟨kb, ko, none⟩ = some (ci h1.kind) ∧ w'.cell? ⟨kb, ko + 1, none⟩ = some (ci h1.op) ∧ w'.cell? ⟨kb, ko + 2, none⟩ = some (ct h1.mod) ∧ w'.cell? ⟨kb, ko + 3, none⟩ = some (ct h1.name) ∧ w'.cell? ⟨kb, ko + 4, none⟩ = some (ci h1.vt) ∧ w'.cell? ⟨kb, ko + 5, none⟩ = some (.int .u64 h1.vb) ∧ w'.cell? ⟨kb, ko + 6, none⟩ = some (.slice ao1 k1.len cap1)) (first | (revert hF; intro hF; exact (show False from hF).elim) | (refine ⟨by with_reducible assumption, by with_reducible assumption, by with_reducible assumption, by with_reducible assumption, by with_reducible assumption, by with_reducible assumption, by with_reducible assumption, by with_reducible assumption, by with_reducible assumption⟩) | go_keep) (first
      | (go_at_call 131; refine (dead k2 (.agg #[.int .i64 0, .int .u64 0])).mono ?_; rintro e w3 (⟨rfl, f3⟩ | ⟨hF, rfl⟩); (focus (exact ⟨rfl, rfl, (show Fr FN w W0 from fw).same ((Fr.drew FN _).same f3)⟩)))
      | (go_at_call 152; refine (dead2 hF (.tuple #[.agg #[.int .i64 0, .int .u64 0], .int .i64 0])).mono ?_; rintro e w4 rfl)
      | (go_at_call 151; refine (dead2 hF (.agg #[.int .i64 0, .int .u64 0])).mono ?_; rintro e w5 rfl; have c0 : w5.cell? ⟨w.heap.size + 1, 0, none⟩ = some (ci 0) := (show False from hF).elim; have c1 : w5.cell? ⟨w.heap.size + 1, 1, none⟩ = some (.int .u64 0) := (show False from hF).elim; have z0 : w5.frozen? ⟨w.heap.size + 1, 0, none⟩ = false := (show False from hF).elim; have z1 : w5.frozen? ⟨w.heap.size + 1, 1, none⟩ = false := (show False from hF).elim)
      )
    all_goals exact (show False from hF).elim
  · rw [show (Ev.trp c).bd (fun v => trapEv (unF op v)) = .trp c from rfl, fin_trp]
    rw [fin_trp] at k2
    clear hU
    have fw : Hidden (Fr FN w W0) := f0
    have qc := hC
    have x0 := a1
    have x1 := a6
    have x2 := d0
    have x3 := d1
    have x4 := d2
    have x5 := d3
    have x6 := d4
    have x7 := d5
    have x8 := d6
    clear hA f0 fd
    go_enter Tryz.func131, Tryz.ntmps131
    go_wp2_with fail
    rw [← (show W0 = _ from hW0H)]
    go_region_held (fun w' => w'.cell? ⟨w.heap.size, 1, none⟩ = some (ci op) ∧ w'.cell? ⟨w.heap.size, 6, none⟩ = some (.slice (some ⟨kb, ko, none⟩) 1 cap) ∧ w'.cell? ⟨kb, ko, none⟩ = some (ci h1.kind) ∧ w'.cell? ⟨kb, ko + 1, none⟩ = some (ci h1.op) ∧ w'.cell? ⟨kb, ko + 2, none⟩ = some (ct h1.mod) ∧ w'.cell? ⟨kb, ko + 3, none⟩ = some (ct h1.name) ∧ w'.cell? ⟨kb, ko + 4, none⟩ = some (ci h1.vt) ∧ w'.cell? ⟨kb, ko + 5, none⟩ = some (.int .u64 h1.vb) ∧ w'.cell? ⟨kb, ko + 6, none⟩ = some (.slice ao1 k1.len cap1)) (first | (revert hF; intro hF; exact (show False from hF).elim) | (refine ⟨by with_reducible assumption, by with_reducible assumption, by with_reducible assumption, by with_reducible assumption, by with_reducible assumption, by with_reducible assumption, by with_reducible assumption, by with_reducible assumption, by with_reducible assumption⟩) | go_keep) (first
      | (go_at_call 131; refine (dead k2 (.agg #[.int .i64 0, .int .u64 0])).mono ?_; rintro e w3 (⟨rfl, f3⟩ | ⟨hF, rfl⟩); (focus (exact ⟨rfl, rfl, (show Fr FN w W0 from fw).same ((Fr.drew FN _).same f3)⟩)))
      | (go_at_call 152; refine (dead2 hF (.tuple #[.agg #[.int .i64 0, .int .u64 0], .int .i64 0])).mono ?_; rintro e w4 rfl)
      | (go_at_call 151; refine (dead2 hF (.agg #[.int .i64 0, .int .u64 0])).mono ?_; rintro e w5 rfl; have c0 : w5.cell? ⟨w.heap.size + 1, 0, none⟩ = some (ci 0) := (show False from hF).elim; have c1 : w5.cell? ⟨w.heap.size + 1, 1, none⟩ = some (.int .u64 0) := (show False from hF).elim; have z0 : w5.frozen? ⟨w.heap.size + 1, 0, none⟩ = false := (show False from hF).elim; have z1 : w5.frozen? ⟨w.heap.size + 1, 1, none⟩ = false := (show False from hF).elim)
      )
    all_goals exact (show False from hF).elim
  obtain ⟨t, b⟩ := v
  have hb := hU _ rfl
  dsimp only at hb
  rw [show (Ev.ok (t, b)).bd (fun v => trapEv (unF op v)) = trapEv (unF op (t, b)) from rfl]
  have kb_ := un_any op (t, b) hb
  rw [fin_ok] at k2
  generalize unF op (t, b) = Z at kb_ ⊢
  obtain ⟨⟨rt, rb⟩, q⟩ := Z
  dsimp only [vv] at kb_ k2
  have ku := untrapped_any (rt, rb) q
  clear hU hb
  by_cases hq : q = 0
  · subst hq
    rw [trapEv_0, fin_ok] at ku ⊢
    dsimp only [vv] at ku ⊢
    have fw : Hidden (Fr FN w W0) := f0
    have qc := hC
    have x0 := a1
    have x1 := a6
    have x2 := d0
    have x3 := d1
    have x4 := d2
    have x5 := d3
    have x6 := d4
    have x7 := d5
    have x8 := d6
    clear hA f0 fd
    go_enter Tryz.func131, Tryz.ntmps131
    go_wp2_with fail
    rw [← (show W0 = _ from hW0H)]
    go_region_held3 (fun w' => w'.cell? ⟨w.heap.size, 1, none⟩ = some (ci op) ∧ w'.cell? ⟨w.heap.size, 6, none⟩ = some (.slice (some ⟨kb, ko, none⟩) 1 cap) ∧ w'.cell? ⟨kb, ko, none⟩ = some (ci h1.kind) ∧ w'.cell? ⟨kb, ko + 1, none⟩ = some (ci h1.op) ∧ w'.cell? ⟨kb, ko + 2, none⟩ = some (ct h1.mod) ∧ w'.cell? ⟨kb, ko + 3, none⟩ = some (ct h1.name) ∧ w'.cell? ⟨kb, ko + 4, none⟩ = some (ci h1.vt) ∧ w'.cell? ⟨kb, ko + 5, none⟩ = some (.int .u64 h1.vb) ∧ w'.cell? ⟨kb, ko + 6, none⟩ = some (.slice ao1 k1.len cap1)) (first | (revert hF; intro hF; exact (show False from hF).elim) | (refine ⟨by with_reducible assumption, by with_reducible assumption, by with_reducible assumption, by with_reducible assumption, by with_reducible assumption, by with_reducible assumption, by with_reducible assumption, by with_reducible assumption, by with_reducible assumption⟩) | go_keep) (first
      | (go_at_call 131; refine k2.mono ?_; rintro e w3 ⟨rfl, f3⟩; have g3 := (Fr.drew FN W0).same f3; have e0 := g3.cellN x0; have e1 := g3.cellN x1; have e2 := g3.cellN x2; have e3 := g3.cellN x3; have e4 := g3.cellN x4; have e5 := g3.cellN x5; have e6 := g3.cellN x6; have e7 := g3.cellN x7; have e8 := g3.cellN x8; clear f3)
      | (go_at_call 152; refine (kb_ _).mono ?_; rintro e w4 ⟨rfl, f4⟩; have g4 := g3.same f4; have h0 := g4.cellN x0; have h1 := g4.cellN x1; have h2 := g4.cellN x2; have h3 := g4.cellN x3; have h4 := g4.cellN x4; have h5 := g4.cellN x5; have h6 := g4.cellN x6; have h7 := g4.cellN x7; have h8 := g4.cellN x8; clear f4)
      | (go_at_call 151; refine (ku _).mono ?_; rintro e w5 ⟨rfl, f5⟩; have g5 := g4.same f5; have m0 := g5.cellN x0; have m1 := g5.cellN x1; have m2 := g5.cellN x2; have m3 := g5.cellN x3; have m4 := g5.cellN x4; have m5 := g5.cellN x5; have m6 := g5.cellN x6; have m7 := g5.cellN x7; have m8 := g5.cellN x8; clear f5; have q5 := g5.heap qc (fun f => f); obtain ⟨c0, c1, z0, z1⟩ := box2 q5)
      )
    all_goals (go_wp2_with fail)
    all_goals exact post_v1 (set_two q5 _ _) rfl rfl rfl ⟨rfl, fr_two ((show Fr FN w W0 from fw).same g5) (by omega) _ _⟩
  · rw [trapEv_ne _ hq, fin_trp] at ku ⊢
    dsimp only [vv] at ku ⊢
    clear hq
    have fw : Hidden (Fr FN w W0) := f0
    have qc := hC
    have x0 := a1
    have x1 := a6
    have x2 := d0
    have x3 := d1
    have x4 := d2
    have x5 := d3
    have x6 := d4
    have x7 := d5
    have x8 := d6
    clear hA f0 fd
    go_enter Tryz.func131, Tryz.ntmps131
    go_wp2_with fail
    rw [← (show W0 = _ from hW0H)]
    go_region_held (fun w' => w'.cell? ⟨w.heap.size, 1, none⟩ = some (ci op) ∧ w'.cell? ⟨w.heap.size, 6, none⟩ = some (.slice (some ⟨kb, ko, none⟩) 1 cap) ∧ w'.cell? ⟨kb, ko, none⟩ = some (ci h1.kind) ∧ w'.cell? ⟨kb, ko + 1, none⟩ = some (ci h1.op) ∧ w'.cell? ⟨kb, ko + 2, none⟩ = some (ct h1.mod) ∧ w'.cell? ⟨kb, ko + 3, none⟩ = some (ct h1.name) ∧ w'.cell? ⟨kb, ko + 4, none⟩ = some (ci h1.vt) ∧ w'.cell? ⟨kb, ko + 5, none⟩ = some (.int .u64 h1.vb) ∧ w'.cell? ⟨kb, ko + 6, none⟩ = some (.slice ao1 k1.len cap1)) (first | (revert hF; intro hF; exact (show False from hF).elim) | (refine ⟨by with_reducible assumption, by with_reducible assumption, by with_reducible assumption, by with_reducible assumption, by with_reducible assumption, by with_reducible assumption, by with_reducible assumption, by with_reducible assumption, by with_reducible assumption⟩) | go_keep) (first
      | (go_at_call 131; refine k2.mono ?_; rintro e w3 ⟨rfl, f3⟩; have g3 := (Fr.drew FN W0).same f3; have e0 := g3.cellN x0; have e1 := g3.cellN x1; have e2 := g3.cellN x2; have e3 := g3.cellN x3; have e4 := g3.cellN x4; have e5 := g3.cellN x5; have e6 := g3.cellN x6; have e7 := g3.cellN x7; have e8 := g3.cellN x8; clear f3)
      | (go_at_call 152; refine (kb_ _).mono ?_; rintro e w4 ⟨rfl, f4⟩; have g4 := g3.same f4; have h0 := g4.cellN x0; have h1 := g4.cellN x1; have h2 := g4.cellN x2; have h3 := g4.cellN x3; have h4 := g4.cellN x4; have h5 := g4.cellN x5; have h6 := g4.cellN x6; have h7 := g4.cellN x7; have h8 := g4.cellN x8; clear f4)
      | (go_at_call 151; refine (dead (ku _) (.agg #[.int .i64 0, .int .u64 0])).mono ?_; rintro e w5 (⟨rfl, f5⟩ | ⟨hF, rfl⟩); (focus (exact ⟨rfl, rfl, (show Fr FN w W0 from fw).same (g4.same f5)⟩)); have c0 : w5.cell? ⟨w.heap.size + 1, 0, none⟩ = some (ci 0) := (show False from hF).elim; have c1 : w5.cell? ⟨w.heap.size + 1, 1, none⟩ = some (.int .u64 0) := (show False from hF).elim; have z0 : w5.frozen? ⟨w.heap.size + 1, 0, none⟩ = false := (show False from hF).elim; have z1 : w5.frozen? ⟨w.heap.size + 1, 1, none⟩ = false := (show False from hF).elim)
      )
    all_goals exact (show False from hF).elim
set_option maxRecDepth 20000 in
set_option maxHeartbeats 4000000 in
theorem val_7 (l : List Con) (hok : ∀ c ∈ l, U64 c.b) (op : Int) (mod name : Bs) (vt vb : Int) (k : Exs) (ih : AllV l k) (hn : k.len = 2) : VlX l ⟨7, op, mod, name, vt, vb⟩ k := by
  intro ao cap la lc w ho hx he hel hk hl
  have f0 : Fr FN w ((w.alloc (exO ⟨7, op, mod, name, vt, vb⟩ (.slice ao k.len cap))).alloc zo) := (Fr.alloc _ _ _).same (Fr.alloc _ _ _)
  have hA : Hidden (((w.alloc (exO ⟨7, op, mod, name, vt, vb⟩ (.slice ao k.len cap))).alloc zo).heap[w.heap.size]? = some (exO ⟨7, op, mod, name, vt, vb⟩ (.slice ao k.len cap))) := (alloc_old _ _ _ (by simp)).trans (alloc_new _ _)
  have hC : Hidden (((w.alloc (exO ⟨7, op, mod, name, vt, vb⟩ (.slice ao k.len cap))).alloc zo).heap[w.heap.size + 1]? = some zo) := alloc_at _ _ _ (by simp)
  obtain ⟨W0, hW0⟩ : ∃ W, W = ((w.alloc (exO ⟨7, op, mod, name, vt, vb⟩ (.slice ao k.len cap))).alloc zo) := ⟨_, rfl⟩
  rw [← hW0] at f0 hA hC
  rcases k with _ | ⟨h1, k1, r1⟩
  · cases hn
  rcases r1 with _ | ⟨h2, k2, r2⟩
  · cases hn
  obtain rfl : r2 = .nil := by cases r2 with
    | nil => rfl
    | cons _ _ _ => simp [Exs.len] at hn
  have hrest := hk.rest
  obtain ⟨hcap, hmax, _⟩ := hk
  obtain ⟨kb, ko, ao1, cap1, rfl, hL, hr2, d0, d1, d2, d3, d4, d5, d6⟩ := hrest.next
  obtain ⟨kb2, ko2, ao2, cap2, hkk, hL2, _, g0, g1, g2, g3, g4, g5, g6⟩ := hr2.next
  cases hkk
  have hkb : kb < w.heap.size := cell_lt d0
  have hne1 : ¬ (kb = w.heap.size + 1) := by omega
  have hne2 : ¬ (w.heap.size + 1 = kb) := by omega
  replace hL := hL.keep f0
  replace hL2 := hL2.keep f0
  replace d0 := f0.cellN d0
  replace d1 := f0.cellN d1
  replace d2 := f0.cellN d2
  replace d3 := f0.cellN d3
  replace d4 := f0.cellN d4
  replace d5 := f0.cellN d5
  replace d6 := f0.cellN d6
  replace g0 := f0.cellN g0
  replace g1 := f0.cellN g1
  replace g2 := f0.cellN g2
  replace g3 := f0.cellN g3
  replace g4 := f0.cellN g4
  replace g5 := f0.cellN g5
  replace g6 := f0.cellN g6
  rw [show ko + 0 * 7 = ko by omega] at d0 d1 d2 d3 d4 d5 d6
  rw [show ko + (0 + 1) * 7 = ko + 7 by omega] at g0 g1 g2 g3 g4 g5 g6
  have hcap1 : 2 ≤ cap := hcap
  have hmax1 : cap ≤ 9223372036854775807 := by unfold maxLen at hmax; omega
  change Calls _ _ #[exV ⟨7, op, mod, name, vt, vb⟩ (.slice (some ⟨kb, ko, none⟩) 2 cap), _] _ _
  have he2 := orE0 (show orE (orE (errH rnS cnS h1 k1.len) (errL rnS cnS k1)) (errL rnS cnS (.cons h2 k2 .nil)) = 0 from hel)
  have he3 := orE0 (show orE (orE (errH rnS cnS h2 k2.len) (errL rnS cnS k2)) (errL rnS cnS .nil) = 0 from he2.2)
  have kt := ofTwo_any op h1 h2 (.slice ao1 k1.len cap1) (.slice ao2 k2.len cap2) (.slice la l.length lc) (evX l h1 k1) (evX l h2 k2) (World.drew W0)
    (fun w' f => ih.1 ao1 cap1 la lc w' hx.1 hx.2.1 (orE0 he2.1).1 (orE0 he2.1).2 (hL.keep ((Fr.drew FN _).same f)) (hl.keep ((f0.same (Fr.drew FN _)).same f)))
    (fun w' f => ih.2.1 ao2 cap2 la lc w' hx.2.2.1 hx.2.2.2.1 (orE0 he3.1).1 (orE0 he3.1).2 (hL2.keep ((Fr.drew FN _).same f)) (hl.keep ((f0.same (Fr.drew FN _)).same f)))
    (evX_U l hok h1 hx.1 k1 hx.2.1) (evX_U l hok h2 hx.2.2.1 k2 hx.2.2.2.1)
  rw [show evX l ⟨7, op, mod, name, vt, vb⟩ (.cons h1 k1 (.cons h2 k2 .nil)) = twoF op (evX l h1 k1) (evX l h2 k2) from rfl]
  obtain ⟨a0, a1, a2, a3, a4, a5, a6⟩ := ex_box hA
  generalize twoF op (evX l h1 k1) (evX l h2 k2) = E at kt ⊢
  have hW0H : Hidden (W0 = ((w.alloc (exO ⟨7, op, mod, name, vt, vb⟩ (.slice (some ⟨kb, ko, none⟩) 2 cap))).alloc zo)) := hW0
  have f0H : Hidden (Fr FN w W0) := f0
  clear hW0 f0
  clear ih he hel he2 he3 hL hL2 hl ho hx hcap hmax hr2 hA hkb
  rcases E with v | c | c
  · obtain ⟨t, b⟩ := v
    rw [fin_ok] at kt ⊢
    dsimp only [vv] at kt ⊢
    have x0 := a1
    have x1 := a6
    have x2 := d0
    have x3 := d1
    have x4 := d2
    have x5 := d3
    have x6 := d4
    have x7 := d5
    have x8 := d6
    have x9 := g0
    have x10 := g1
    have x11 := g2
    have x12 := g3
    have x13 := g4
    have x14 := g5
    have x15 := g6
    go_enter Tryz.func131, Tryz.ntmps131
    go_wp2_with fail
    rw [← (show W0 = _ from hW0H)]
    go_region_held3 (fun w' => w'.cell? ⟨w.heap.size, 1, none⟩ = some (ci op) ∧ w'.cell? ⟨w.heap.size, 6, none⟩ = some (.slice (some ⟨kb, ko, none⟩) 2 cap) ∧ w'.cell? ⟨kb, ko, none⟩ = some (ci h1.kind) ∧ w'.cell? ⟨kb, ko + 1, none⟩ = some (ci h1.op) ∧ w'.cell? ⟨kb, ko + 2, none⟩ = some (ct h1.mod) ∧ w'.cell? ⟨kb, ko + 3, none⟩ = some (ct h1.name) ∧ w'.cell? ⟨kb, ko + 4, none⟩ = some (ci h1.vt) ∧ w'.cell? ⟨kb, ko + 5, none⟩ = some (.int .u64 h1.vb) ∧ w'.cell? ⟨kb, ko + 6, none⟩ = some (.slice ao1 k1.len cap1) ∧ w'.cell? ⟨kb, ko + 7, none⟩ = some (ci h2.kind) ∧ w'.cell? ⟨kb, ko + 7 + 1, none⟩ = some (ci h2.op) ∧ w'.cell? ⟨kb, ko + 7 + 2, none⟩ = some (ct h2.mod) ∧ w'.cell? ⟨kb, ko + 7 + 3, none⟩ = some (ct h2.name) ∧ w'.cell? ⟨kb, ko + 7 + 4, none⟩ = some (ci h2.vt) ∧ w'.cell? ⟨kb, ko + 7 + 5, none⟩ = some (.int .u64 h2.vb) ∧ w'.cell? ⟨kb, ko + 7 + 6, none⟩ = some (.slice ao2 k2.len cap2)) (first | (revert hF; intro hF; exact (show False from hF).elim) | (refine ⟨by with_reducible assumption, by with_reducible assumption, by with_reducible assumption, by with_reducible assumption, by with_reducible assumption, by with_reducible assumption, by with_reducible assumption, by with_reducible assumption, by with_reducible assumption, by with_reducible assumption, by with_reducible assumption, by with_reducible assumption, by with_reducible assumption, by with_reducible assumption, by with_reducible assumption, by with_reducible assumption⟩) | go_keep) (first
      | (go_at_call 153; refine kt.mono ?_; rintro e w5 ⟨rfl, f5⟩; have G5 := (Fr.drew FN W0).same f5; have m0 := G5.cellN x0; have m1 := G5.cellN x1; have m2 := G5.cellN x2; have m3 := G5.cellN x3; have m4 := G5.cellN x4; have m5 := G5.cellN x5; have m6 := G5.cellN x6; have m7 := G5.cellN x7; have m8 := G5.cellN x8; have m9 := G5.cellN x9; have m10 := G5.cellN x10; have m11 := G5.cellN x11; have m12 := G5.cellN x12; have m13 := G5.cellN x13; have m14 := G5.cellN x14; have m15 := G5.cellN x15; clear f5; have q5 := G5.heap hC (fun f => f); obtain ⟨c0, c1, z0, z1⟩ := box2 q5)
      )
    all_goals (go_wp2_with fail)
    all_goals exact post_v1 (set_two q5 _ _) rfl rfl rfl ⟨rfl, fr_two ((show Fr FN w W0 from f0H).same G5) (by omega) _ _⟩
  · rw [fin_flt] at kt ⊢
    have x0 := a1
    have x1 := a6
    have x2 := d0
    have x3 := d1
    have x4 := d2
    have x5 := d3
    have x6 := d4
    have x7 := d5
    have x8 := d6
    have x9 := g0
    have x10 := g1
    have x11 := g2
    have x12 := g3
    have x13 := g4
    have x14 := g5
    have x15 := g6
    go_enter Tryz.func131, Tryz.ntmps131
    go_wp2_with fail
    rw [← (show W0 = _ from hW0H)]
    go_region_held (fun w' => w'.cell? ⟨w.heap.size, 1, none⟩ = some (ci op) ∧ w'.cell? ⟨w.heap.size, 6, none⟩ = some (.slice (some ⟨kb, ko, none⟩) 2 cap) ∧ w'.cell? ⟨kb, ko, none⟩ = some (ci h1.kind) ∧ w'.cell? ⟨kb, ko + 1, none⟩ = some (ci h1.op) ∧ w'.cell? ⟨kb, ko + 2, none⟩ = some (ct h1.mod) ∧ w'.cell? ⟨kb, ko + 3, none⟩ = some (ct h1.name) ∧ w'.cell? ⟨kb, ko + 4, none⟩ = some (ci h1.vt) ∧ w'.cell? ⟨kb, ko + 5, none⟩ = some (.int .u64 h1.vb) ∧ w'.cell? ⟨kb, ko + 6, none⟩ = some (.slice ao1 k1.len cap1) ∧ w'.cell? ⟨kb, ko + 7, none⟩ = some (ci h2.kind) ∧ w'.cell? ⟨kb, ko + 7 + 1, none⟩ = some (ci h2.op) ∧ w'.cell? ⟨kb, ko + 7 + 2, none⟩ = some (ct h2.mod) ∧ w'.cell? ⟨kb, ko + 7 + 3, none⟩ = some (ct h2.name) ∧ w'.cell? ⟨kb, ko + 7 + 4, none⟩ = some (ci h2.vt) ∧ w'.cell? ⟨kb, ko + 7 + 5, none⟩ = some (.int .u64 h2.vb) ∧ w'.cell? ⟨kb, ko + 7 + 6, none⟩ = some (.slice ao2 k2.len cap2)) (first | (revert hF; intro hF; exact (show False from hF).elim) | (refine ⟨by with_reducible assumption, by with_reducible assumption, by with_reducible assumption, by with_reducible assumption, by with_reducible assumption, by with_reducible assumption, by with_reducible assumption, by with_reducible assumption, by with_reducible assumption, by with_reducible assumption, by with_reducible assumption, by with_reducible assumption, by with_reducible assumption, by with_reducible assumption, by with_reducible assumption, by with_reducible assumption⟩) | go_keep) (first
      | (go_at_call 153; refine (dead kt (.agg #[.int .i64 0, .int .u64 0])).mono ?_; rintro e w5 (⟨rfl, f5⟩ | ⟨hF, rfl⟩); (focus (exact ⟨rfl, rfl, (show Fr FN w W0 from f0H).same ((Fr.drew FN _).same f5)⟩)); have c0 : w5.cell? ⟨w.heap.size + 1, 0, none⟩ = some (ci 0) := (show False from hF).elim; have c1 : w5.cell? ⟨w.heap.size + 1, 1, none⟩ = some (.int .u64 0) := (show False from hF).elim; have z0 : w5.frozen? ⟨w.heap.size + 1, 0, none⟩ = false := (show False from hF).elim; have z1 : w5.frozen? ⟨w.heap.size + 1, 1, none⟩ = false := (show False from hF).elim)
      )
    all_goals exact (show False from hF).elim
  · rw [fin_trp] at kt ⊢
    have x0 := a1
    have x1 := a6
    have x2 := d0
    have x3 := d1
    have x4 := d2
    have x5 := d3
    have x6 := d4
    have x7 := d5
    have x8 := d6
    have x9 := g0
    have x10 := g1
    have x11 := g2
    have x12 := g3
    have x13 := g4
    have x14 := g5
    have x15 := g6
    go_enter Tryz.func131, Tryz.ntmps131
    go_wp2_with fail
    rw [← (show W0 = _ from hW0H)]
    go_region_held (fun w' => w'.cell? ⟨w.heap.size, 1, none⟩ = some (ci op) ∧ w'.cell? ⟨w.heap.size, 6, none⟩ = some (.slice (some ⟨kb, ko, none⟩) 2 cap) ∧ w'.cell? ⟨kb, ko, none⟩ = some (ci h1.kind) ∧ w'.cell? ⟨kb, ko + 1, none⟩ = some (ci h1.op) ∧ w'.cell? ⟨kb, ko + 2, none⟩ = some (ct h1.mod) ∧ w'.cell? ⟨kb, ko + 3, none⟩ = some (ct h1.name) ∧ w'.cell? ⟨kb, ko + 4, none⟩ = some (ci h1.vt) ∧ w'.cell? ⟨kb, ko + 5, none⟩ = some (.int .u64 h1.vb) ∧ w'.cell? ⟨kb, ko + 6, none⟩ = some (.slice ao1 k1.len cap1) ∧ w'.cell? ⟨kb, ko + 7, none⟩ = some (ci h2.kind) ∧ w'.cell? ⟨kb, ko + 7 + 1, none⟩ = some (ci h2.op) ∧ w'.cell? ⟨kb, ko + 7 + 2, none⟩ = some (ct h2.mod) ∧ w'.cell? ⟨kb, ko + 7 + 3, none⟩ = some (ct h2.name) ∧ w'.cell? ⟨kb, ko + 7 + 4, none⟩ = some (ci h2.vt) ∧ w'.cell? ⟨kb, ko + 7 + 5, none⟩ = some (.int .u64 h2.vb) ∧ w'.cell? ⟨kb, ko + 7 + 6, none⟩ = some (.slice ao2 k2.len cap2)) (first | (revert hF; intro hF; exact (show False from hF).elim) | (refine ⟨by with_reducible assumption, by with_reducible assumption, by with_reducible assumption, by with_reducible assumption, by with_reducible assumption, by with_reducible assumption, by with_reducible assumption, by with_reducible assumption, by with_reducible assumption, by with_reducible assumption, by with_reducible assumption, by with_reducible assumption, by with_reducible assumption, by with_reducible assumption, by with_reducible assumption, by with_reducible assumption⟩) | go_keep) (first
      | (go_at_call 153; refine (dead kt (.agg #[.int .i64 0, .int .u64 0])).mono ?_; rintro e w5 (⟨rfl, f5⟩ | ⟨hF, rfl⟩); (focus (exact ⟨rfl, rfl, (show Fr FN w W0 from f0H).same ((Fr.drew FN _).same f5)⟩)); have c0 : w5.cell? ⟨w.heap.size + 1, 0, none⟩ = some (ci 0) := (show False from hF).elim; have c1 : w5.cell? ⟨w.heap.size + 1, 1, none⟩ = some (.int .u64 0) := (show False from hF).elim; have z0 : w5.frozen? ⟨w.heap.size + 1, 0, none⟩ = false := (show False from hF).elim; have z1 : w5.frozen? ⟨w.heap.size + 1, 1, none⟩ = false := (show False from hF).elim)
      )
    all_goals exact (show False from hF).elim
theorem val_step (l : List Con) (hok : ∀ c ∈ l, U64 c.b) (h : EH) (k : Exs) (ih : AllV l k) : VlX l h k := by
  intro ao cap la lc w ho hx he hel hk hl
  have hf : fitsE cnS h k.len = true := by
    have := (orE0 he).1
    by_cases hf : fitsE cnS h k.len = true
    · exact hf
    · rw [if_neg hf] at this; cases this
  obtain ⟨kind, op, mod, name, vt, vb⟩ := h
  rcases fits_kind hf with e | e | e | e | e | ⟨e, hn⟩ | ⟨e, hn⟩ | e
  all_goals (have e' : kind = _ := e; subst e')
  · exact val_1 l hok op mod name vt vb k ih ao cap la lc w ho hx he hel hk hl
  · exact val_2 l hok op mod name vt vb k ih ao cap la lc w ho hx he hel hk hl
  · exact val_3 l hok op mod name vt vb k ih ao cap la lc w ho hx he hel hk hl
  · exact val_4 l hok op mod name vt vb k ih ao cap la lc w ho hx he hel hk hl
  · exact val_5 l hok op mod name vt vb k ih ao cap la lc w ho hx he hel hk hl
  · exact val_6 l hok op mod name vt vb k ih hn ao cap la lc w ho hx he hel hk hl
  · exact val_7 l hok op mod name vt vb k ih hn ao cap la lc w ho hx he hel hk hl
  · exact val_8 l hok op mod name vt vb k ih ao cap la lc w ho hx he hel hk hl
theorem allV (l : List Con) (hok : ∀ c ∈ l, U64 c.b) : ∀ k : Exs, AllV l k
  | .nil => trivial
  | .cons h k r => ⟨val_step l hok h k (allV l hok k), allV l hok r⟩
theorem value_any (l : List Con) (hok : ∀ c ∈ l, U64 c.b) (h : EH) (k : Exs) : VlX l h k := val_step l hok h k (allV l hok k)
end Go.Proofs.YtakkiipkmogagaaGreat.Fo

namespace Go.Proofs.YtakkiipkmogagaaGreat.Fo
open Go.RowKit Te
set_option linter.unusedSimpArgs false
set_option linter.unusedVariables false

abbrev eo (c : Int) : Obj := .cells #[ci c] 26 (0, 0)
/-- A frame that has given up. -/
def gvF (c : Int) (done : Bool) : FrameMode := .panicking [{ v := .iface 176 (.agg #[.int .i64 c]), recovered := done }]
def gvT (c : Int) (done : Bool) : FrameMode := .panicking [{ v := .iface 173 (.agg #[.int .i64 c]), recovered := done }]
theorem asF (v : Value) (w : World) : (Instr.typeAssert (.iface 176 v) 20 176 true).run Tryz.prog w = .ok (.tuple #[v, .bool true]) w := by kernel_rfl
theorem asT (v : Value) (w : World) : (Instr.typeAssert (.iface 173 v) 20 173 true).run Tryz.prog w = .ok (.tuple #[v, .bool true]) w := by kernel_rfl
theorem asFT (v : Value) (w : World) : (Instr.typeAssert (.iface 176 v) 20 173 true).run Tryz.prog w = .ok (.tuple #[.agg #[.int .i64 0], .bool false]) w := by kernel_rfl
set_option maxRecDepth 20000 in
set_option maxHeartbeats 1000000 in
theorem catch_T (b : Nat) (c : Int) (w : World) (hb : w.heap[b]? = some (eo 0)) :
    CallsD Tryz.prog 129 #[.pointer (some ⟨b, 0, none⟩)] (gvT c false) w fun e u' w' =>
      e = .returned (.tuple #[]) ∧ u' = gvT c true ∧ w'.heap[b]? = some (eo (errnoF c)) ∧ Fr (fun k => k = b) w w' := by
  have hta := asT
  have ke := errno_any c
  refine callsD_of_wpS Tryz.func129 rfl fun c₀ cs hu => ?_
  have e0 : (#[Value.pointer (some ⟨b, 0, none⟩)] ++ Array.replicate (Tryz.f129.ntmps - (#[Value.pointer (some ⟨b, 0, none⟩)] : Array Value).size) undef) = #[Value.pointer (some ⟨b, 0, none⟩), undef, undef, undef, undef, undef, undef, undef, undef, undef, undef, undef, undef, undef, undef, undef, undef, undef, undef] := rfl
  rw [e0]
  clear e0
  apply wpS_seq
  apply wpS_region
  simp [wpOpsS, go_sem, recoverD, hu, Tryz.ntmps129, Exit.thenS, gvT]
  refine wpS_of_wp ?_
  have hlt := lt_of_heap hb
  have hbH : Hidden (w.heap[b]? = some (eo 0)) := hb
  have hz2 : ∀ o : Obj, (w.alloc o).frozen? ⟨b, 0, none⟩ = false := fun o => by
    have : (w.alloc o).heap[b]? = some (eo 0) := (alloc_old w o b hlt).trans hb
    simp [World.frozen?, this]
  have hc2 : ∀ o : Obj, (w.alloc o).cell? ⟨b, 0, none⟩ = some (ci 0) := fun o => (Fr.alloc (fun _ => False) w o).cellN (cell_of_row _ _ 0 _ _ _ hb)
  clear hb
  go_wp2_with (go_at_call 130; refine (ke _).mono ?_; rintro e w1 ⟨rfl, hw⟩; rw [hw]; clear hw)
  refine ⟨rfl, _, rfl, _, results_none rfl _ _ _, rfl, rfl, ?_, ?_⟩
  · rw [alloc_old _ _ _ (by simpa using hlt)]
    exact heap_setCell_same w b 0 #[ci 0] 26 (ci (errnoF c)) hbH
  · exact (Fr.setCell w ⟨b, 0, none⟩ _).same (Fr.alloc _ _ _)
set_option maxRecDepth 20000 in
set_option maxHeartbeats 1000000 in
theorem catch_F (b : Nat) (c : Int) (w : World) (hb : w.heap[b]? = some (eo 0)) :
    CallsD Tryz.prog 129 #[.pointer (some ⟨b, 0, none⟩)] (gvF c false) w fun e u' w' =>
      e = .returned (.tuple #[]) ∧ u' = gvF c true ∧ w'.heap[b]? = some (eo c) ∧ Fr (fun k => k = b) w w' := by
  have hta := asF
  have hta2 := asFT
  refine callsD_of_wpS Tryz.func129 rfl fun c₀ cs hu => ?_
  have e0 : (#[Value.pointer (some ⟨b, 0, none⟩)] ++ Array.replicate (Tryz.f129.ntmps - (#[Value.pointer (some ⟨b, 0, none⟩)] : Array Value).size) undef) = #[Value.pointer (some ⟨b, 0, none⟩), undef, undef, undef, undef, undef, undef, undef, undef, undef, undef, undef, undef, undef, undef, undef, undef, undef, undef] := rfl
  rw [e0]
  clear e0
  apply wpS_seq
  apply wpS_region
  simp [wpOpsS, go_sem, recoverD, hu, Tryz.ntmps129, Exit.thenS, gvF]
  refine wpS_of_wp ?_
  have hlt := lt_of_heap hb
  have hbH : Hidden (w.heap[b]? = some (eo 0)) := hb
  have hz2 : ∀ o : Obj, (w.alloc o).frozen? ⟨b, 0, none⟩ = false := fun o => by
    have : (w.alloc o).heap[b]? = some (eo 0) := (alloc_old w o b hlt).trans hb
    simp [World.frozen?, this]
  have hc2 : ∀ o : Obj, (w.alloc o).cell? ⟨b, 0, none⟩ = some (ci 0) := fun o => (Fr.alloc (fun _ => False) w o).cellN (cell_of_row _ _ 0 _ _ _ hb)
  clear hb
  go_wp2
  refine ⟨rfl, _, rfl, _, results_none rfl _ _ _, rfl, rfl, ?_, ?_⟩
  · rw [alloc_old _ _ _ (by simpa using hlt)]
    exact heap_setCell_same w b 0 #[ci 0] 26 (ci c) hbH
  · exact (Fr.setCell w ⟨b, 0, none⟩ _).same (Fr.alloc _ _ _)
set_option maxHeartbeats 1000000 in
theorem idle_E (b : Nat) (w : World) :
    CallsD Tryz.prog 129 #[.pointer (some ⟨b, 0, none⟩)] .returning w fun e u' w' => e = .returned (.tuple #[]) ∧ u' = .returning ∧ w' = w := by
  refine callsD_of_wpS Tryz.func129 rfl fun c₀ cs hu => ?_
  have e0 : (#[Value.pointer (some ⟨b, 0, none⟩)] ++ Array.replicate (Tryz.f129.ntmps - (#[Value.pointer (some ⟨b, 0, none⟩)] : Array Value).size) undef) = #[Value.pointer (some ⟨b, 0, none⟩), undef, undef, undef, undef, undef, undef, undef, undef, undef, undef, undef, undef, undef, undef, undef, undef, undef, undef] := rfl
  rw [e0]
  clear e0
  apply wpS_seq
  apply wpS_region
  simp [wpOpsS, go_sem, recoverD, hu, Tryz.ntmps129, Exit.thenS]
  refine wpS_of_wp ?_
  go_wp2
  refine ⟨rfl, .returning, ?_, _, results_none rfl _ _ _, rfl, rfl, rfl⟩
  rw [← hu]
/-- What Eval answers. -/
def evalS (l : List Con) (h : EH) (k : Exs) : Vl × Int := if errX rnS cnS h k = 0 then ((evX l h k).val, (evX l h k).code) else ((0, 0), errX rnS cnS h k)
theorem load_v {w : World} {g : Nat} {x y : Value} (hg : w.heap[g]? = some (zb x y)) : (loadVar 52 ⟨g, 0, none⟩).run Tryz.prog w = .ok (.agg #[x, y]) w := run_loadVar_row _ _ _ _ _ _ _ hg Tryz.underlying52 rfl info_val
theorem post_d {P : Program} {fn : Func} {R : Ending → World → Prop} {a : Act} {w : World} (h : Leaves P fn a.tmps R a.defers .returning w) : bodyPostD P fn R .ret a w := h
set_option maxRecDepth 20000 in
set_option maxHeartbeats 2000000 in
theorem eval_any (l : List Con) (hok : ∀ c ∈ l, U64 c.b) (h : EH) (k : Exs) (v : Value) (la : Option Addr) (lc : Nat) (w : World) (ho : OkE h) (hx : OkX k) (hv : ExI w h k v) (hl : CoL w la lc l) :
    Calls Tryz.prog 114 #[v, .slice la l.length lc] w fun e w' => e = .returned (.tuple #[vv (evalS l h k).1, ci (evalS l h k).2]) ∧ Fr FN w w' := by
  obtain ⟨ao, cap, rfl, hk⟩ := hv
  have hmf : ∀ (fn : Fn) (first cap : Array Value) (w : World), (Instr.makeFunc fn first cap).run Tryz.prog w = .ok (.func fn first cap) w := fun _ _ _ _ => rfl
  have f0 : Fr FN w (((w.alloc (exO h (.slice ao k.len cap))).alloc zo).alloc (eo 0)) := ((Fr.alloc _ _ _).same (Fr.alloc _ _ _)).same (Fr.alloc _ _ _)
  have hA : Hidden ((((w.alloc (exO h (.slice ao k.len cap))).alloc zo).alloc (eo 0)).heap[w.heap.size]? = some (exO h (.slice ao k.len cap))) := (alloc_old _ _ _ (by simp; omega)).trans ((alloc_old _ _ _ (by simp)).trans (alloc_new _ _))
  have hB : Hidden ((((w.alloc (exO h (.slice ao k.len cap))).alloc zo).alloc (eo 0)).heap[w.heap.size + 1]? = some zo) := (alloc_old _ _ _ (by simp)).trans (alloc_at _ _ _ (by simp))
  have hC : Hidden ((((w.alloc (exO h (.slice ao k.len cap))).alloc zo).alloc (eo 0)).heap[w.heap.size + 2]? = some (eo 0)) := alloc_at _ _ _ (by simp)
  obtain ⟨W0, hW0⟩ : ∃ W, W = (((w.alloc (exO h (.slice ao k.len cap))).alloc zo).alloc (eo 0)) := ⟨_, rfl⟩
  rw [← hW0] at f0 hA hB hC
  have hW0H : Hidden (W0 = _) := hW0
  have kx := rightX_any h k _ W0 ho hx ⟨ao, cap, rfl, hk.keep f0⟩
  obtain ⟨a0, a1, a2, a3, a4, a5, a6⟩ := ex_box hA
  unfold evalS
  by_cases he : errX rnS cnS h k = 0
  · rw [if_pos he]
    rw [he] at kx
    have he2 := orE0 (orE0 (show orE _ _ = 0 from he)).2
    have kv := fun w1 (f1 : Fr FN W0 w1) => value_any l hok h k ao cap la lc w1 ho hx he2.1 he2.2 (hk.keep (f0.same f1)) (hl.keep (f0.same f1))
    generalize evX l h k = E at kv ⊢
    clear he he2 hk hl ho hx hW0
    rcases E with ⟨t, b⟩ | c | c
    · rw [fin_ok] at kv
      dsimp only [vv, Ev.val, Ev.code] at kv ⊢
      go_enter_defers Tryz.func114, Tryz.ntmps114
      go_wp2_with fail
      rw [← (show W0 = _ from hW0H)]
      go_at_call 128
      refine kx.mono ?_
      rintro e w1 ⟨rfl, f1⟩
      obtain ⟨b0, b1, b2, b3, b4, b5, b6⟩ := ex_box (f1.heap hA (fun f => f))
      go_wp2_with fail
      go_at_call 131
      refine (kv w1 f1).mono ?_
      rintro e w2 ⟨rfl, f2⟩
      have g2 := f1.same f2
      have qB := g2.heap hB (fun f => f)
      have qC := g2.heap hC (fun f => f)
      obtain ⟨c0, c1, z0, z1⟩ := box2 qB
      have y0 : w2.cell? ⟨w.heap.size + 2, 0, none⟩ = some (ci 0) := cell_of_row _ _ 0 _ _ _ qC
      have y1 := frozen_row qC 0
      go_wp2_with fail
      refine leaves_cons (f := 129) (args := #[.pointer (some ⟨w.heap.size + 2, 0, none⟩)]) (by simp) (by simp [go_sem]) ?_
      refine (idle_E (w.heap.size + 2) _).mono ?_
      rintro e u' w'' ⟨rfl, rfl, hw⟩
      have q3 := set_two qB (.int .i64 t) (.int .u64 b)
      have q4 := heap_setCell_same ((w2.setCell ⟨w.heap.size + 1, 0, none⟩ (.int .i64 t)).setCell ⟨w.heap.size + 1, 1, none⟩ (.int .u64 b)) (w.heap.size + 2) 0 #[ci 0] 26 (ci 0) (((Fr.setCell w2 ⟨w.heap.size + 1, 0, none⟩ (.int .i64 t)).same (Fr.setCell _ ⟨w.heap.size + 1, 1, none⟩ (.int .u64 b))).heap qC (fun e => by simp at e))
      have q5 := (Fr.setCell ((w2.setCell ⟨w.heap.size + 1, 0, none⟩ (.int .i64 t)).setCell ⟨w.heap.size + 1, 1, none⟩ (.int .u64 b)) ⟨w.heap.size + 2, 0, none⟩ (ci 0)).heap q3 (fun e => by simp at e)
      have fz : Fr FN w w'' := by
        rw [hw]
        exact (fr_two (g := w.heap.size + 1) (f0.same g2) (by omega) _ _).over (Fr.setCell _ ⟨w.heap.size + 2, 0, none⟩ _) (fun k hk => by have : k = w.heap.size + 2 := hk; omega)
      rw [← show w'' = _ from hw] at q4 q5
      have hc3 := cell_of_row _ _ 0 _ _ _ q4
      obtain ⟨l0, l1, _, _⟩ := box2 q5
      clear hw
      simp [Leaves, settle, results, Tryz.results114, go_sem, show w''.cell? ⟨w.heap.size + 1 + 1, 0, none⟩ = _ from hc3, l0, l1]
      exact fz
    · rw [fin_flt] at kv
      dsimp only [vv, Ev.val, Ev.code] at kv ⊢
      go_enter_defers Tryz.func114, Tryz.ntmps114
      go_wp2_with fail
      rw [← (show W0 = _ from hW0H)]
      go_at_call 128
      refine kx.mono ?_
      rintro e w1 ⟨rfl, f1⟩
      obtain ⟨b0, b1, b2, b3, b4, b5, b6⟩ := ex_box (f1.heap hA (fun f => f))
      go_wp2_with fail
      go_at_call 131
      refine (kv w1 f1).mono ?_
      rintro e w2 ⟨rfl, f2⟩
      have g2 := f1.same f2
      have qB := g2.heap hB (fun f => f)
      have qC := g2.heap hC (fun f => f)
      go_wp2_with fail
      refine leaves_cons (f := 129) (args := #[.pointer (some ⟨w.heap.size + 2, 0, none⟩)]) (by simp) (by simp [go_sem]) ?_
      refine (catch_F (w.heap.size + 2) c w2 qC).mono ?_
      rintro e u' w'' ⟨rfl, rfl, h3, h4⟩
      have hc3 := cell_of_row _ _ 0 _ _ _ h3
      obtain ⟨l0, l1, _, _⟩ := box2 (h4.heap qB (fun e => by omega))
      simp [Leaves, settle, results, Tryz.results114, go_sem, show w''.cell? ⟨w.heap.size + 1 + 1, 0, none⟩ = _ from hc3, l0, l1, gvF]
      exact (f0.same g2).over h4 (fun k hk => by have : k = w.heap.size + 2 := hk; omega)
    · rw [fin_trp] at kv
      dsimp only [vv, Ev.val, Ev.code] at kv ⊢
      go_enter_defers Tryz.func114, Tryz.ntmps114
      go_wp2_with fail
      rw [← (show W0 = _ from hW0H)]
      go_at_call 128
      refine kx.mono ?_
      rintro e w1 ⟨rfl, f1⟩
      obtain ⟨b0, b1, b2, b3, b4, b5, b6⟩ := ex_box (f1.heap hA (fun f => f))
      go_wp2_with fail
      go_at_call 131
      refine (kv w1 f1).mono ?_
      rintro e w2 ⟨rfl, f2⟩
      have g2 := f1.same f2
      have qB := g2.heap hB (fun f => f)
      have qC := g2.heap hC (fun f => f)
      go_wp2_with fail
      refine leaves_cons (f := 129) (args := #[.pointer (some ⟨w.heap.size + 2, 0, none⟩)]) (by simp) (by simp [go_sem]) ?_
      refine (catch_T (w.heap.size + 2) c w2 qC).mono ?_
      rintro e u' w'' ⟨rfl, rfl, h3, h4⟩
      have hc3 := cell_of_row _ _ 0 _ _ _ h3
      obtain ⟨l0, l1, _, _⟩ := box2 (h4.heap qB (fun e => by omega))
      simp [Leaves, settle, results, Tryz.results114, go_sem, show w''.cell? ⟨w.heap.size + 1 + 1, 0, none⟩ = _ from hc3, l0, l1, gvT]
      exact (f0.same g2).over h4 (fun k hk => by have : k = w.heap.size + 2 := hk; omega)
  · rw [if_neg he]
    have hne : (errX rnS cnS h k != 0) = true := by simp [he]
    generalize errX rnS cnS h k = c at kx hne ⊢
    clear hk hl ho hx hW0
    dsimp only [vv]
    go_enter_defers Tryz.func114, Tryz.ntmps114
    go_wp2_with fail
    rw [← (show W0 = _ from hW0H)]
    go_at_call 128
    refine kx.mono ?_
    rintro e w1 ⟨rfl, f1⟩
    have qB := f1.heap hB (fun f => f)
    have qC := f1.heap hC (fun f => f)
    obtain ⟨c0, c1, z0, z1⟩ := box2 qB
    have y0 : w1.cell? ⟨w.heap.size + 2, 0, none⟩ = some (ci 0) := cell_of_row _ _ 0 _ _ _ qC
    have y1 := frozen_row qC 0
    go_wp2_with fail
    have q3 := set_two qB (.int .i64 0) (.int .u64 0)
    have q4 := heap_setCell_same ((w1.setCell ⟨w.heap.size + 1, 0, none⟩ (.int .i64 0)).setCell ⟨w.heap.size + 1, 1, none⟩ (.int .u64 0)) (w.heap.size + 2) 0 #[ci 0] 26 (ci c) (((Fr.setCell w1 ⟨w.heap.size + 1, 0, none⟩ (.int .i64 0)).same (Fr.setCell _ ⟨w.heap.size + 1, 1, none⟩ (.int .u64 0))).heap qC (fun e => by simp at e))
    have q5 := (Fr.setCell ((w1.setCell ⟨w.heap.size + 1, 0, none⟩ (.int .i64 0)).setCell ⟨w.heap.size + 1, 1, none⟩ (.int .u64 0)) ⟨w.heap.size + 2, 0, none⟩ (ci c)).heap q3 (fun e => by simp at e)
    have fz : Fr FN w (((w1.setCell ⟨w.heap.size + 1, 0, none⟩ (.int .i64 0)).setCell ⟨w.heap.size + 1, 1, none⟩ (.int .u64 0)).setCell ⟨w.heap.size + 2, 0, none⟩ (ci c)) :=
      (fr_two (g := w.heap.size + 1) (f0.same f1) (by omega) _ _).over (Fr.setCell _ ⟨w.heap.size + 2, 0, none⟩ _) (fun k hk => by have : k = w.heap.size + 2 := hk; omega)
    refine post_d ?_
    change Fr FN w (((w1.setCell ⟨w.heap.size + 1, 0, none⟩ (.int .i64 0)).setCell ⟨w.heap.size + 1, 1, none⟩ (.int .u64 0)).setCell ⟨w.heap.size + 1 + 1, 0, none⟩ (.int .i64 c)) at fz
    change (((w1.setCell ⟨w.heap.size + 1, 0, none⟩ (.int .i64 0)).setCell ⟨w.heap.size + 1, 1, none⟩ (.int .u64 0)).setCell ⟨w.heap.size + 1 + 1, 0, none⟩ (.int .i64 c)).heap[_]? = _ at q4 q5
    generalize (((w1.setCell ⟨w.heap.size + 1, 0, none⟩ (.int .i64 0)).setCell ⟨w.heap.size + 1, 1, none⟩ (.int .u64 0)).setCell ⟨w.heap.size + 1 + 1, 0, none⟩ (.int .i64 c)) = w'' at q4 q5 fz ⊢
    have hc3 := cell_of_row _ _ 0 _ _ _ q4
    obtain ⟨l0, l1, _, _⟩ := box2 q5
    simp [Leaves, settle, results, Tryz.results114, go_sem, show w''.cell? ⟨w.heap.size + 1 + 1, 0, none⟩ = _ from hc3, l0, l1]
    exact fz
end Go.Proofs.YtakkiipkmogagaaGreat.Fo
