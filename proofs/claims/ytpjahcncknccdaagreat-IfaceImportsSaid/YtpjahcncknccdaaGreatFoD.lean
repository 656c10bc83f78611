/- Constants in memory; what an expression comes to; the value of a name. -/
import Derived.Test.YtpjahcncknccdaaGreatFoC
import Derived.Test.YtpjahcncknccdaaGreatTrLAll
namespace Go.Proofs.YtpjahcncknccdaaGreat.Fo
open Go.RowKit Te
set_option linter.unusedSimpArgs false
set_option linter.unusedVariables false

structure Con where
  mod : Bs
  name : Bs
  t : Int
  b : Int
deriving DecidableEq
/-- What an expression comes to: a value, an error, a trap. -/
inductive Ev where
  | ok (v : Vl)
  | flt (c : Int)
  | trp (t : Int)
def Ev.fin : Ev → Ending
  | .ok v => .returned (vv v)
  | .flt c => .panicked [{ v := .iface 180 (.agg #[.int .i64 c]), recovered := false }]
  | .trp t => .panicked [{ v := .iface 177 (.agg #[.int .i64 t]), recovered := false }]
def Ev.bd (a : Ev) (f : Vl → Ev) : Ev := match a with
  | .ok v => f v
  | .flt c => .flt c
  | .trp t => .trp t
def Ev.val : Ev → Vl
  | .ok v => v
  | _ => (0, 0)
def Ev.code : Ev → Int
  | .ok _ => 0
  | .flt c => c
  | .trp t => errnoF t
def trapEv (r : Vl × Int) : Ev := if r.2 = 0 then .ok r.1 else .trp r.2
def findC : List Con → Bs → Bs → Ev
  | [], _, _ => .flt 21
  | c :: r, m, n => if c.mod = m ∧ c.name = n then (if rightV c.t c.b = true then .ok (c.t, c.b) else .flt 22) else findC r m n
/-- Is the left side the answer? -/
def decF (op : Int) (v : Vl) : Option Bool := if op = 12 then (if v.1 = 3 then some (!(v.2 == 1)) else none) else if op = 13 then (if v.1 = 3 then some (v.2 == 1) else none) else some false
def twoF (op : Int) (a b : Ev) : Ev := a.bd fun v => match decF op v with
  | none => .flt 22
  | some true => .ok v
  | some false => b.bd fun u => trapEv (binF op v u)
/-- The first part that has no value, or the error. -/
def callF : List Ev → Ev
  | [] => .flt 25
  | e :: r => e.bd fun _ => callF r
def evN (l : List Con) (h : EH) (ks : List Ev) : Ev :=
  if h.kind = 2 ∨ h.kind = 3 then findC l h.mod h.name
  else if h.kind = 4 ∨ h.kind = 5 ∨ h.kind = 8 then callF ks
  else if h.kind = 6 then (ks.getD 0 (.flt 0)).bd fun v => trapEv (unF h.op v)
  else if h.kind = 7 then twoF h.op (ks.getD 0 (.flt 0)) (ks.getD 1 (.flt 0))
  else .ok (h.vt, h.vb)
def evF (l : List Con) : Exs → List Ev
  | .nil => []
  | .cons h k r => evN l h (evF l k) :: evF l r
def evX (l : List Con) (h : EH) (k : Exs) : Ev := evN l h (evF l k)

def coC (c : Con) : List Value := [ct c.mod, ct c.name, ci c.t, .int .u64 c.b]
/-- A row of constants. -/
def CoL (w : World) (ao : Option Addr) (cap : Nat) (l : List Con) : Prop :=
  l.length ≤ cap ∧ cap ≤ maxLen ∧ (l = [] ∨ ∃ b off, ao = some ⟨b, off, none⟩ ∧ ∀ (i : Nat) (x : Con), l[i]? = some x → ∀ (j : Nat) (u : Value), (coC x)[j]? = some u → w.cell? ⟨b, off + i * 4 + j, none⟩ = some u)
theorem CoL.keep {w w' : World} {ao : Option Addr} {cap : Nat} {l : List Con} (h : CoL w ao cap l) (hf : Fr (fun _ => False) w w') : CoL w' ao cap l := by
  obtain ⟨h1, h2, h4⟩ := h
  refine ⟨h1, h2, ?_⟩
  rcases h4 with h4 | ⟨b, off, rfl, h4⟩
  · exact Or.inl h4
  · exact Or.inr ⟨b, off, rfl, fun i x hx j u hu => hf.cellN (h4 i x hx j u hu)⟩
theorem CoL.at {w : World} {ao : Option Addr} {cap : Nat} {l : List Con} (h : CoL w ao cap l) {i : Nat} {x : Con} (hx : l[i]? = some x) :
    ∃ b off, ao = some ⟨b, off, none⟩ ∧ w.cell? ⟨b, off + i * 4, none⟩ = some (ct x.mod) ∧ w.cell? ⟨b, off + i * 4 + 1, none⟩ = some (ct x.name) ∧ w.cell? ⟨b, off + i * 4 + 2, none⟩ = some (ci x.t) ∧ w.cell? ⟨b, off + i * 4 + 3, none⟩ = some (.int .u64 x.b) := by
  rcases h.2.2 with rfl | ⟨b, off, rfl, h4⟩
  · simp at hx
  · exact ⟨b, off, rfl, h4 i x hx 0 _ rfl, h4 i x hx 1 _ rfl, h4 i x hx 2 _ rfl, h4 i x hx 3 _ rfl⟩
theorem CoL.nil (w : World) : CoL w none 0 [] := ⟨Nat.le_refl _, by unfold maxLen; omega, Or.inl rfl⟩
abbrev coO (c : Con) : Obj := .cells #[ct c.mod, ct c.name, ci c.t, .int .u64 c.b] 123 (0, 0)

theorem untrapped_any (v : Vl) (t : Int) (w : World) : Calls Tryz.prog 137 #[vv v, ci t] w fun e w' => e = (trapEv (v, t)).fin ∧ Fr (fun _ => False) w w' := by
  obtain ⟨a, b⟩ := v
  dsimp only [vv]
  by_cases h : t = 0
  · subst h
    rw [show trapEv ((a, b), 0) = .ok (a, b) from rfl]
    dsimp only [Ev.fin, vv]
    go_enter Tryz.func137, Tryz.ntmps137
    go_wp2
    exact post_v1 (alloc_at _ _ _ (by simp)) rfl rfl rfl ⟨rfl, (Fr.alloc _ _ _).same (Fr.alloc _ _ _)⟩
  · rw [show trapEv ((a, b), t) = .trp t from by simp [trapEv, h]]
    dsimp only [Ev.fin]
    have b0 : (t != 0) = true := by simp [h]
    clear h
    go_enter Tryz.func137, Tryz.ntmps137
    go_wp2
    exact ⟨rfl, rfl, (Fr.alloc _ _ _).same (Fr.alloc _ _ _)⟩
theorem isTrue_yes (b : Int) (w : World) : Calls Tryz.prog 170 #[vv (3, b)] w fun e w' => e = .returned (.bool (b == 1)) ∧ Fr (fun _ => False) w w' := by
  dsimp only [vv]
  go_enter Tryz.func170, Tryz.ntmps170
  go_wp2
  go_ret
  exact ⟨rfl, Fr.alloc _ _ _⟩
theorem isTrue_no (t b : Int) (ht : t ≠ 3) (w : World) : Calls Tryz.prog 170 #[vv (t, b)] w fun e w' => e = Ev.fin (.flt 22) ∧ Fr (fun _ => False) w w' := by
  dsimp only [vv, Ev.fin]
  have b0 : (t != 3) = true := by simp [ht]
  clear ht
  go_enter Tryz.func170, Tryz.ntmps170
  go_wp2
  exact ⟨rfl, rfl, Fr.alloc _ _ _⟩
theorem decides_yes (op t b : Int) (r : Bool) (hr : decF op (t, b) = some r) (w : World) : Calls Tryz.prog 158 #[ci op, vv (t, b)] w fun e w' => e = .returned (.bool r) ∧ Fr (fun _ => False) w w' := by
  unfold decF at hr
  dsimp only [vv] at hr ⊢
  have hf0 := Fr.alloc (fun _ => False) w (zb (ci t) (.int .u64 b))
  by_cases h12 : op = 12
  · subst h12
    rw [if_pos rfl] at hr
    by_cases ht : t = 3
    · subst ht
      rw [if_pos rfl] at hr
      cases hr
      have kt := isTrue_yes b
      dsimp only [vv] at kt
      go_enter Tryz.func158, Tryz.ntmps158
      go_wp2_with (go_at_call 170; refine (kt _).mono ?_; rintro e w1 ⟨rfl, f1⟩)
      go_ret
      exact ⟨rfl, hf0.same f1⟩
    · rw [if_neg ht] at hr; cases hr
  by_cases h13 : op = 13
  · subst h13
    rw [if_neg (by decide), if_pos rfl] at hr
    by_cases ht : t = 3
    · subst ht
      rw [if_pos rfl] at hr
      cases hr
      have kt := isTrue_yes b
      dsimp only [vv] at kt
      go_enter Tryz.func158, Tryz.ntmps158
      go_wp2_with (go_at_call 170; refine (kt _).mono ?_; rintro e w1 ⟨rfl, f1⟩)
      go_ret
      exact ⟨rfl, hf0.same f1⟩
    · rw [if_neg ht] at hr; cases hr
  rw [if_neg h12, if_neg h13] at hr
  cases hr
  have b1 : (op == 12) = false := by simp [h12]
  have b2 : (op == 13) = false := by simp [h13]
  clear h12 h13
  go_enter Tryz.func158, Tryz.ntmps158
  go_wp2
  go_ret
  exact ⟨rfl, hf0⟩
theorem decides_no (op t b : Int) (hr : decF op (t, b) = none) (w : World) : Calls Tryz.prog 158 #[ci op, vv (t, b)] w fun e w' => e = Ev.fin (.flt 22) ∧ Fr (fun _ => False) w w' := by
  unfold decF at hr
  dsimp only [vv] at hr ⊢
  have hf0 := Fr.alloc (fun _ => False) w (zb (ci t) (.int .u64 b))
  have hne : t ≠ 3 := by
    intro h
    subst h
    by_cases h12 : op = 12
    · rw [if_pos h12, if_pos rfl] at hr; cases hr
    by_cases h13 : op = 13
    · rw [if_neg h12, if_pos h13, if_pos rfl] at hr; cases hr
    rw [if_neg h12, if_neg h13] at hr; cases hr
  have kt := isTrue_no t b hne
  dsimp only [vv, Ev.fin] at kt ⊢
  by_cases h12 : op = 12
  · subst h12
    clear hr hne
    go_enter Tryz.func158, Tryz.ntmps158
    go_wp2_with (go_at_call 170; refine (kt _).mono ?_; rintro e w1 ⟨rfl, f1⟩)
    exact ⟨rfl, rfl, hf0.same f1⟩
  by_cases h13 : op = 13
  · subst h13
    clear hr hne
    go_enter Tryz.func158, Tryz.ntmps158
    go_wp2_with (go_at_call 170; refine (kt _).mono ?_; rintro e w1 ⟨rfl, f1⟩)
    exact ⟨rfl, rfl, hf0.same f1⟩
  rw [if_neg h12, if_neg h13] at hr
  cases hr
set_option maxRecDepth 20000 in
set_option maxHeartbeats 4000000 in
theorem named_any (m n : Bs) (l : List Con) (ao : Option Addr) (cap : Nat) (w : World) (h : CoL w ao cap l) (hok : ∀ c ∈ l, U64 c.b) :
    Calls Tryz.prog 136 #[ct m, ct n, .slice ao l.length cap] w fun e w' => e = (findC l m n).fin ∧ Fr (fun _ => False) w w' := by
  obtain ⟨W0, hW0⟩ : ∃ W, W = w.alloc zo := ⟨_, rfl⟩
  have f0 : Fr (fun _ => False) w W0 := by rw [hW0]; exact Fr.alloc _ _ _
  have hb2 : Hidden (W0.heap[w.heap.size]? = some zo) := by rw [hW0]; exact alloc_new _ _
  have hW0H : Hidden (W0 = _) := hW0
  have f0H : Hidden (Fr (fun _ => False) w W0) := f0
  have m1 := h.1
  have m2 : cap ≤ 9223372036854775807 := by have := h.2.1; unfold maxLen at this; omega
  have hH : Hidden (CoL w ao cap l) := h
  have hokH : Hidden (∀ c ∈ l, U64 c.b) := hok
  clear h hok hW0 f0
  go_enter Tryz.func136, Tryz.ntmps136
  go_wp2_with fail
  rw [← (show W0 = _ from hW0H)]
  go_loopg [11] l.length (fun g iv wr => ∃ (j : Nat), iv = ci (j : Int) ∧ j ≤ l.length ∧ findC (l.drop j) m n = findC l m n ∧ g = l.length - j ∧ Fr (fun _ => False) W0 wr)
  case atStart => exact ⟨0, rfl, by omega, rfl, rfl, Fr.refl _ _⟩
  case round =>
    obtain ⟨j, rfl, hj, hI, hgk, hfr⟩ := hrel
    have hgkH : Hidden (gk = l.length - j) := hgk
    have hfrH : Hidden (Fr (fun _ => False) W0 wr) := hfr
    have hIH : Hidden (findC (l.drop j) m n = findC l m n) := hI
    clear hgk hI
    by_cases hjl : j < l.length
    · obtain ⟨p, hp⟩ : ∃ p, l[j]? = some p := ⟨l[j], List.getElem?_eq_getElem hjl⟩
      have hpl : U64 p.b := (show ∀ c ∈ l, _ from hokH) p (List.mem_of_getElem? hp)
      have hd := drop_at hp
      obtain ⟨b, off, rfl, d0, d1, d2, d3⟩ := CoL.at ((show CoL w _ cap l from hH).keep ((show Fr (fun _ => False) w W0 from f0H).same hfr)) hp
      have fa := Fr.alloc (fun _ => False) wr (coO p)
      have hbx : Hidden ((wr.alloc (coO p)).heap[wr.heap.size]? = some (coO p)) := alloc_new _ _
      have hfr2 : Hidden (Fr (fun _ => False) W0 (wr.alloc (coO p))) := hfr.same fa
      by_cases hn : p.mod = m ∧ p.name = n
      · obtain ⟨hn1, hn2⟩ := hn
        subst hn1 hn2
        have kr := Ty.rightv_any p.t p.b hpl (wr.alloc (coO p))
        by_cases hr : Ty.rightV p.t p.b = true
        · have hres : Hidden (findC l p.mod p.name = .ok (p.t, p.b)) := by rw [← (show _ = findC l p.mod p.name from hIH), hd]; show findC _ _ _ = _; rw [findC, if_pos ⟨rfl, rfl⟩, if_pos hr]
          rw [hr] at kr
          clear hIH hd hp hr hpl
          go_wp2_with (go_at_call 73; refine kr.mono ?_; rintro e w2 ⟨rfl, f2⟩; have g2 : Fr (fun _ => False) W0 w2 := (show Fr (fun _ => False) W0 _ from hfr2).same f2; have q2 := g2.heap hb2 (fun f => f); obtain ⟨c0, c1, z0, z1⟩ := box2 q2; have q3 : w2.heap[wr.heap.size]? = some (coO p) := f2.heap hbx (fun f => f); have y2 : w2.cell? ⟨wr.heap.size, 2, none⟩ = some (ci p.t) := cell_of_row _ _ 2 _ _ _ q3; have y3 : w2.cell? ⟨wr.heap.size, 3, none⟩ = some (.int .u64 p.b) := cell_of_row _ _ 3 _ _ _ q3; clear q3)
          exact post_v1 (set_two q2 _ _) rfl rfl rfl ⟨by rw [show findC l p.mod p.name = .ok (p.t, p.b) from hres]; rfl, fr_two ((show Fr (fun _ => False) w W0 from f0H).same g2) (Nat.le_refl _) _ _⟩
        · have hr : Ty.rightV p.t p.b = false := by simpa using hr
          have hres : Hidden (findC l p.mod p.name = .flt 22) := by rw [← (show _ = findC l p.mod p.name from hIH), hd]; show findC _ _ _ = _; rw [findC, if_pos ⟨rfl, rfl⟩, if_neg (by show ¬ Ty.rightV p.t p.b = true; rw [hr]; simp)]
          rw [hr] at kr
          clear hIH hd hp hr hpl
          go_wp2_with (go_at_call 73; refine kr.mono ?_; rintro e w2 ⟨rfl, f2⟩)
          exact ⟨rfl, by rw [show findC l p.mod p.name = .flt 22 from hres]; rfl, (show Fr (fun _ => False) w W0 from f0H).same ((show Fr (fun _ => False) W0 _ from hfr2).same f2)⟩
      · have hI2 : Hidden (findC (l.drop (j + 1)) m n = findC l m n) := by rw [← (show _ = findC l m n from hIH), hd]; show findC _ _ _ = findC (p :: _) _ _; rw [findC, if_neg hn]
        by_cases e1 : p.mod = m
        · have e2 : (p.name == n) = false := by simp; exact fun e => hn ⟨e1, e⟩
          subst e1
          clear hIH hd hp hn hpl
          go_wp2_with fail
          go_roundg (l.length - (j + 1))
          case measure => have : gk = l.length - j := hgkH; omega
          case rel => exact ⟨j + 1, by go_num, by omega, hI2, rfl, hfr2⟩
        · have e1 : (p.mod != m) = true := by simp [e1]
          clear hIH hd hp hn hpl
          go_wp2_with fail
          go_roundg (l.length - (j + 1))
          case measure => have : gk = l.length - j := hgkH; omega
          case rel => exact ⟨j + 1, by go_num, by omega, hI2, rfl, hfr2⟩
    · obtain rfl : j = l.length := by omega
      have hres : Hidden (findC l m n = .flt 21) := by rw [← (show _ = findC l m n from hIH), List.drop_length]; rfl
      go_wp2_with fail
      exact ⟨rfl, by rw [show findC l m n = .flt 21 from hres]; rfl, (show Fr (fun _ => False) w W0 from f0H).same hfrH⟩
end Go.Proofs.YtpjahcncknccdaaGreat.Fo
