/- Plain: a part under a new constant's name (for FoldLifts). -/
import Derived.Test.YtakkiipkmogagaaGreatFoBll
namespace Go.Proofs.YtakkiipkmogagaaGreat.Fo
open Go.RowKit Te
set_option linter.unusedSimpArgs false
set_option linter.unusedVariables false

def zz : Bs := [122, 122, 95, 110, 101, 119]
def leafH : EH := ⟨2, 0, [], zz, 0, 0⟩
def getX : Exs → Nat → Option (EH × Exs)
  | .nil, _ => none
  | .cons h k _, 0 => some (h, k)
  | .cons _ _ r, i + 1 => getX r i
def setX : Exs → Nat → EH × Exs → Exs
  | .nil, _, _ => .nil
  | .cons _ _ r, 0, y => .cons y.1 y.2 r
  | .cons h k r, i + 1, y => .cons h k (setX r i y)
def kidAt (b : Bool) (k : Exs) : Nat := if b then k.len - 1 else 0
/-- The expression with its part put in as a name; the part. -/
def liftS : List Bool → EH → Exs → (EH × Exs) × (EH × Exs)
  | [], h, k => ((leafH, .nil), (h, k))
  | b :: ws, h, k => match getX k (kidAt b k) with
    | none => ((leafH, .nil), (h, k))
    | some y => ((h, setX k (kidAt b k) (liftS ws y.1 y.2).1), (liftS ws y.1 y.2).2)
def namL (n : Bs) : Exs → Bool
  | .nil => false
  | .cons h k r => (namL n k || h.name == n) || namL n r
def namX (n : Bs) (h : EH) (k : Exs) : Bool := namL n k || h.name == n
theorem setX_len : ∀ (k : Exs) (i : Nat) (y : EH × Exs), (setX k i y).len = k.len
  | .nil, _, _ => rfl
  | .cons _ _ r, 0, y => rfl
  | .cons h k r, i + 1, y => by simp only [setX, Exs.len, setX_len r i y]
theorem evF_set (l : List Con) : ∀ (k : Exs) (i : Nat) (y : EH × Exs), evF l (setX k i y) = (evF l k).set i (evX l y.1 y.2)
  | .nil, _, _ => by simp [setX, evF]
  | .cons _ _ r, 0, y => rfl
  | .cons h k r, i + 1, y => by simp only [setX, evF, evF_set l r i y, List.set_cons_succ]
theorem evF_get (l : List Con) : ∀ (k : Exs) (i : Nat) (y : EH × Exs), getX k i = some y → (evF l k)[i]? = some (evX l y.1 y.2)
  | .nil, i, y, h => by cases i <;> simp [getX] at h
  | .cons h k r, 0, y, hy => by
    simp only [getX, Option.some.injEq] at hy
    subst hy
    rfl
  | .cons h k r, i + 1, y, hy => by
    simp only [getX] at hy
    simpa [evF] using evF_get l r i y hy
theorem namL_get (n : Bs) : ∀ (k : Exs) (i : Nat) (y : EH × Exs), getX k i = some y → namL n k = false → namX n y.1 y.2 = false
  | .nil, i, y, h, _ => by cases i <;> simp [getX] at h
  | .cons h k r, 0, y, hy, hn => by
    simp only [getX, Option.some.injEq] at hy
    subst hy
    simp only [namL, Bool.or_eq_false_iff] at hn
    simp only [namX, Bool.or_eq_false_iff]
    exact hn.1
  | .cons h k r, i + 1, y, hy, hn => by
    simp only [getX] at hy
    simp only [namL, Bool.or_eq_false_iff] at hn
    exact namL_get n r i y hy hn.2
theorem findC_zz (l : List Con) (t b : Int) (m n : Bs) (h : n ≠ zz) : findC (l ++ [⟨[], zz, t, b⟩]) m n = findC l m n := by
  induction l with
  | nil =>
    show findC [⟨[], zz, t, b⟩] m n = _
    unfold findC
    rw [if_neg (fun e => h e.2.symm)]
    rfl
  | cons c r ih =>
    show findC (c :: (r ++ [⟨[], zz, t, b⟩])) m n = _
    unfold findC
    rw [ih]
theorem findC_new (l : List Con) (t b : Int) (hl : ∀ c ∈ l, c.name ≠ zz) (hr : Ty.rightV t b = true) : findC (l ++ [⟨[], zz, t, b⟩]) [] zz = .ok (t, b) := by
  induction l with
  | nil =>
    show findC [⟨[], zz, t, b⟩] [] zz = _
    unfold findC
    rw [if_pos ⟨rfl, rfl⟩, if_pos hr]
  | cons c r ih =>
    show findC (c :: (r ++ [⟨[], zz, t, b⟩])) [] zz = _
    unfold findC
    rw [if_neg (fun e => hl c (by simp) e.2)]
    exact ih (fun c hc => hl c (by simp [hc]))
theorem evN_zz (l : List Con) (t b : Int) (h : EH) (ks : List Ev) (hn : h.name ≠ zz) : evN (l ++ [⟨[], zz, t, b⟩]) h ks = evN l h ks := by
  unfold evN
  rw [findC_zz l t b h.mod h.name hn]
theorem evF_zz (l : List Con) (t b : Int) : ∀ (k : Exs), namL zz k = false → evF (l ++ [⟨[], zz, t, b⟩]) k = evF l k
  | .nil, _ => rfl
  | .cons h k r, hn => by
    simp only [namL, Bool.or_eq_false_iff, beq_eq_false_iff_ne, ne_eq] at hn
    rw [evF, evF, evF_zz l t b k hn.1.1, evF_zz l t b r hn.2, evN_zz l t b h _ hn.1.2]
/-- Eval of an expression is that of the same one with a part put in as a name that has its value. -/
theorem lift_val (l : List Con) (t b : Int) (hl : ∀ c ∈ l, c.name ≠ zz) (hr : Ty.rightV t b = true) : ∀ (ws : List Bool) (h : EH) (k : Exs), namX zz h k = false → evX l (liftS ws h k).2.1 (liftS ws h k).2.2 = .ok (t, b) →
    evX (l ++ [⟨[], zz, t, b⟩]) (liftS ws h k).1.1 (liftS ws h k).1.2 = evX l h k := by
  intro ws
  have leaf : evX (l ++ [⟨[], zz, t, b⟩]) leafH .nil = .ok (t, b) := by
    show findC _ [] zz = _
    exact findC_new l t b hl hr
  induction ws with
  | nil =>
    intro h k hn hp
    rw [show (liftS [] h k).1 = (leafH, .nil) from rfl, leaf]
    exact hp.symm
  | cons b0 ws ih =>
    intro h k hn hp
    unfold liftS at hp ⊢
    cases hg : getX k (kidAt b0 k) with
    | none =>
      rw [hg] at hp
      dsimp only at hp ⊢
      rw [leaf]
      exact hp.symm
    | some y =>
      rw [hg] at hp
      dsimp only at hp ⊢
      simp only [namX, Bool.or_eq_false_iff, beq_eq_false_iff_ne, ne_eq] at hn
      have hy := namL_get zz k _ y hg hn.1
      have ih2 := ih y.1 y.2 hy hp
      have he : evF (l ++ [⟨[], zz, t, b⟩]) (setX k (kidAt b0 k) (liftS ws y.1 y.2).1) = evF l k := by
        rw [evF_set, ih2, evF_zz l t b k hn.1]
        have := evF_get l k _ y hg
        apply List.ext_getElem?
        intro j
        rw [List.getElem?_set]
        split
        · rename_i e
          subst e
          rw [this]
          have hlt := (List.getElem?_eq_some_iff.1 this).1
          rw [if_pos hlt]
        · rfl
      unfold evX
      rw [he, evN_zz l t b h _ hn.2]
theorem errL_set : ∀ (k : Exs) (i : Nat) (y : EH × Exs), errL rnS cnS k = 0 → errH rnS cnS y.1 y.2.len = 0 → errL rnS cnS y.2 = 0 → errL rnS cnS (setX k i y) = 0
  | .nil, _, _, _, _, _ => rfl
  | .cons h k r, 0, y, he, h1, h2 => by
    have he2 := orE0 (show orE (orE (errH rnS cnS h k.len) (errL rnS cnS k)) (errL rnS cnS r) = 0 from he)
    show orE (orE (errH rnS cnS y.1 y.2.len) (errL rnS cnS y.2)) (errL rnS cnS r) = 0
    rw [h1, h2, he2.2]
    rfl
  | .cons h k r, i + 1, y, he, h1, h2 => by
    have he2 := orE0 (show orE (orE (errH rnS cnS h k.len) (errL rnS cnS k)) (errL rnS cnS r) = 0 from he)
    show orE (orE (errH rnS cnS h k.len) (errL rnS cnS k)) (errL rnS cnS (setX r i y)) = 0
    rw [he2.1, errL_set r i y he2.2 h1 h2]
    rfl
theorem errL_get : ∀ (k : Exs) (i : Nat) (y : EH × Exs), getX k i = some y → errL rnS cnS k = 0 → errH rnS cnS y.1 y.2.len = 0 ∧ errL rnS cnS y.2 = 0
  | .nil, i, y, h, _ => by cases i <;> simp [getX] at h
  | .cons h k r, 0, y, hy, he => by
    simp only [getX, Option.some.injEq] at hy
    subst hy
    exact orE0 (orE0 (show orE (orE (errH rnS cnS h k.len) (errL rnS cnS k)) (errL rnS cnS r) = 0 from he)).1
  | .cons h k r, i + 1, y, hy, he => by
    simp only [getX] at hy
    exact errL_get r i y hy (orE0 (show orE (orE (errH rnS cnS h k.len) (errL rnS cnS k)) (errL rnS cnS r) = 0 from he)).2
theorem leaf_ok : errH rnS cnS leafH 0 = 0 := by decide +kernel
theorem lift_err : ∀ (ws : List Bool) (h : EH) (k : Exs), errH rnS cnS h k.len = 0 → errL rnS cnS k = 0 → errH rnS cnS (liftS ws h k).1.1 (liftS ws h k).1.2.len = 0 ∧ errL rnS cnS (liftS ws h k).1.2 = 0 := by
  intro ws
  induction ws with
  | nil => intro h k _ _; exact ⟨leaf_ok, rfl⟩
  | cons b ws ih =>
    intro h k h1 h2
    unfold liftS
    cases hg : getX k (kidAt b k) with
    | none => exact ⟨leaf_ok, rfl⟩
    | some y =>
      have hy := errL_get k _ y hg h2
      have hi := ih y.1 y.2 hy.1 hy.2
      dsimp only
      rw [setX_len]
      exact ⟨h1, errL_set k _ _ h2 hi.1 hi.2⟩
/- depth -/
theorem dK_acc (p : EH) : ∀ (k : Exs) (first : Bool) (a acc : Int), acc ≤ dK p k first a acc
  | .nil, _, _, _ => Int.le_refl _
  | .cons h k r, first, a, acc => by
    unfold dK
    exact Int.le_trans (Int.le_max_left _ _) (dK_acc p r false a _)
theorem dK_mono (p : EH) : ∀ (k : Exs) (first : Bool) (a acc acc' : Int), acc ≤ acc' → dK p k first a acc ≤ dK p k first a acc'
  | .nil, _, _, _, _, h => h
  | .cons h k r, first, a, acc, acc', hh => by
    unfold dK
    exact dK_mono p r false a _ _ (by omega)
theorem level_range (h : EH) : level h ≤ 7 := by
  unfold level lv2
  repeat' split
  all_goals omega
theorem kidL_le (p : EH) (first : Bool) : kidL p first ≤ 7 := by
  unfold kidL side lv2
  repeat' split
  all_goals omega
theorem kidD_range (p : EH) : 0 ≤ kidD p ∧ kidD p ≤ 1 := by
  unfold kidD
  repeat' split
  all_goals omega
theorem leaf_dX (least a : Int) (h : least ≤ 7) : dX leafH .nil least a = a := by
  show inAt leafH least a = a
  unfold inAt
  rw [show level leafH = 7 from rfl, if_neg (by omega)]
theorem inAt_range (h : EH) (least a : Int) (h0 : 0 ≤ a) (h1 : a ≤ 100) : a ≤ inAt h least a ∧ inAt h least a ≤ a + 1 := by
  unfold inAt
  split
  · have : wrap64 (a + 1) = a + 1 := by unfold wrap64; omega
    omega
  · omega
theorem dX_ge (h : EH) (k : Exs) (least a : Int) (h0 : 0 ≤ a) (h1 : a ≤ 100) : a ≤ dX h k least a := Int.le_trans (inAt_range h least a h0 h1).1 (dK_acc _ _ _ _ _)
theorem dK_set (p : EH) (y : EH × Exs) : ∀ (k : Exs) (i : Nat) (z : EH × Exs) (first : Bool) (a acc : Int), getX k i = some z →
    (∀ least, least ≤ 7 → dX z.1 z.2 least (wrap64 (a + kidD p)) ≤ 32 → dX y.1 y.2 least (wrap64 (a + kidD p)) ≤ dX z.1 z.2 least (wrap64 (a + kidD p))) → dK p k first a acc ≤ 32 → dK p (setX k i y) first a acc ≤ dK p k first a acc
  | .nil, i, z, _, _, _, h, _, _ => by cases i <;> simp [getX] at h
  | .cons h k r, 0, z, first, a, acc, hz, hh, hb => by
    simp only [getX, Option.some.injEq] at hz
    subst hz
    unfold setX dK
    unfold dK at hb
    have h1 : dX h k (kidL p first) (wrap64 (a + kidD p)) ≤ 32 := Int.le_trans (Int.le_trans (Int.le_max_right acc _) (dK_acc p r false a _)) hb
    have h2 := hh (kidL p first) (kidL_le p first) h1
    refine dK_mono p r false a _ _ ?_
    have h2' : dK y.1 y.2 true (inAt y.1 (kidL p first) (wrap64 (a + kidD p))) (inAt y.1 (kidL p first) (wrap64 (a + kidD p))) ≤ dK h k true (inAt h (kidL p first) (wrap64 (a + kidD p))) (inAt h (kidL p first) (wrap64 (a + kidD p))) := h2
    omega
  | .cons h k r, i + 1, z, first, a, acc, hz, hh, hb => by
    simp only [getX] at hz
    unfold setX dK
    unfold dK at hb
    exact dK_set p y r i z false a _ hz hh hb
theorem lift_deep : ∀ (ws : List Bool) (h : EH) (k : Exs) (least a : Int), least ≤ 7 → 0 ≤ a → a ≤ 90 → dX h k least a ≤ 32 → dX (liftS ws h k).1.1 (liftS ws h k).1.2 least a ≤ dX h k least a := by
  intro ws
  induction ws with
  | nil =>
    intro h k least a hl h0 h1 hd
    rw [show (liftS [] h k).1 = (leafH, .nil) from rfl, leaf_dX least a hl]
    exact dX_ge h k least a h0 (by omega)
  | cons b ws ih =>
    intro h k least a hl h0 h1 hd
    unfold liftS
    cases hg : getX k (kidAt b k) with
    | none =>
      dsimp only
      rw [leaf_dX least a hl]
      exact dX_ge h k least a h0 (by omega)
    | some y =>
      dsimp only
      have hr := inAt_range h least a h0 (by omega)
      have ha := dK_acc h k true (inAt h least a) (inAt h least a)
      have hd' : dK h k true (inAt h least a) (inAt h least a) ≤ 32 := hd
      have hk := kidD_range h
      have hw : wrap64 (inAt h least a + kidD h) = inAt h least a + kidD h := by unfold wrap64; omega
      refine dK_set h _ k _ y true _ _ hg (fun least' hl' hz => ?_) hd'
      rw [hw] at hz ⊢
      exact ih y.1 y.2 least' _ hl' (by omega) (by omega) hz
/-- The lifted expression is right where the whole is. -/
theorem lift_right (ws : List Bool) (h : EH) (k : Exs) (he : errX rnS cnS h k = 0) : errX rnS cnS (liftS ws h k).1.1 (liftS ws h k).1.2 = 0 := by
  have h1 := orE0 (show orE (if 32 < dX h k 1 0 then 13 else 0) _ = 0 from he)
  have h2 := orE0 h1.2
  have hd : dX h k 1 0 ≤ 32 := by
    by_cases hc : 32 < dX h k 1 0
    · rw [if_pos hc] at h1; exact absurd h1.1 (by decide)
    · omega
  have h3 := lift_err ws h k h2.1 h2.2
  have h4 := lift_deep ws h k 1 0 (by omega) (by omega) (by omega) hd
  unfold errX
  rw [if_neg (by omega), h3.1, h3.2]
  rfl
/- values are right -/
theorem truthF_R (b : Bool) : Ty.rightV (truthF b).1 (truthF b).2 = true := by cases b <;> rfl
theorem wholeF_R (n e : Int) (h : (wholeF n e).2 = 0) : Ty.rightV (wholeF n e).1.1 (wholeF n e).1.2 = true := by
  unfold wholeF at h ⊢
  split at h
  · rename_i he
    rw [if_pos he]
    rfl
  · exfalso
    unfold trapF at h
    dsimp only at h
    repeat' split at h
    all_goals omega
theorem canon_canon (a : Int) : F.Fl.canonS (F.Fl.canonS a) = F.Fl.canonS a := by
  unfold F.Fl.canonS
  by_cases h : F.Fl.nan a = true
  · rw [if_pos h]
    split <;> rfl
  · rw [if_neg h, if_neg h]
theorem right2 (b : Int) (h : F.Fl.canonS b = b) : Ty.rightV 2 b = true := by
  unfold Ty.rightV
  rw [if_neg (by decide), if_pos rfl, h]
  simp
theorem res_canon (op : BinOp) (x y : Nat) : F.Fl.canonS (F.resS (floatBits op .f64 x y)) = F.resS (floatBits op .f64 x y) := by
  cases floatBits op .f64 x y with
  | none => rfl
  | some n => exact canon_canon _
theorem intsF_R (op a b : Int) (h : (intsF op a b).2 = 0) : Ty.rightV (intsF op a b).1.1 (intsF op a b).1.2 = true := by
  unfold intsF at h ⊢
  repeat' split
  all_goals first
    | exact truthF_R _
    | (apply wholeF_R; simp_all)
theorem fltsF_R (op a b : Int) : Ty.rightV (fltsF op a b).1 (fltsF op a b).2 = true := by
  unfold fltsF
  repeat' split
  all_goals first | exact right2 _ (res_canon _ _ _) | exact truthF_R _
theorem boolsF_R (op : Int) (a b : Bool) : Ty.rightV (boolsF op a b).1 (boolsF op a b).2 = true := by
  unfold boolsF
  repeat' split
  all_goals exact truthF_R _
theorem binF_R (op : Int) (a b : Vl) (h : (binF op a b).2 = 0) : Ty.rightV (binF op a b).1.1 (binF op a b).1.2 = true := by
  unfold binF at h ⊢
  split
  · rename_i hc; rw [if_pos hc] at h; exact absurd h (by decide)
  · rename_i hc
    rw [if_neg hc] at h
    split
    · rename_i h1; rw [if_pos h1] at h; exact intsF_R _ _ _ h
    · split
      · exact fltsF_R _ _ _
      · exact boolsF_R _ _ _
theorem neg_canon (a : Int) : F.Fl.canonS (F.Fl.negS a) = F.Fl.negS a := by
  unfold F.Fl.negS
  by_cases h : F.Fl.nan a = true
  · rw [if_pos h]; decide
  · rw [if_neg h]
    unfold F.Fl.canonS
    rw [if_neg]
    unfold F.Fl.nan at h ⊢
    simp only [decide_eq_true_eq] at h ⊢
    split <;> omega
theorem fromInt_canon (n : Int) : F.Fl.canonS ((floatOfInt .f64 n : Nat) : Int) = ((floatOfInt .f64 n : Nat) : Int) := by
  have := F.nan_word (decide (n < 0)) (F.Fl.rung n.natAbs 0) (F.Fl.rung_le _ _)
  rw [← F.floatOfInt_eq] at this
  unfold F.Fl.canonS
  rw [if_neg (by rw [this.1]; simp)]
theorem unF_R (op : Int) (a : Vl) (h : (unF op a).2 = 0) : Ty.rightV (unF op a).1.1 (unF op a).1.2 = true := by
  unfold unF at h ⊢
  split
  · rename_i hc; rw [if_pos hc] at h; exact absurd h (by decide)
  · rename_i hc
    rw [if_neg hc] at h
    split
    · rename_i h1
      rw [if_pos h1] at h
      split
      · exact right2 _ (neg_canon _)
      · rename_i h2; rw [if_neg h2] at h; exact wholeF_R _ _ h
    · rename_i h1
      rw [if_neg h1] at h
      split
      · exact truthF_R _
      · rename_i h2
        rw [if_neg h2] at h
        split
        · rename_i h3; rw [if_pos h3] at h; exact wholeF_R _ _ h
        · exact right2 _ (fromInt_canon _)
def okR (e : Ev) : Prop := ∀ v, e = .ok v → Ty.rightV v.1 v.2 = true
theorem bd_R {a : Ev} {f : Vl → Ev} (h : ∀ v, a = .ok v → okR (f v)) : okR (a.bd f) := by
  cases a with
  | ok v => exact h v rfl
  | flt c => intro v e; cases e
  | trp c => intro v e; cases e
theorem trapEv_R {r : Vl × Int} (h : r.2 = 0 → Ty.rightV r.1.1 r.1.2 = true) : okR (trapEv r) := by
  unfold trapEv
  split
  · rename_i h0; intro v e; cases e; exact h h0
  · intro v e; cases e
theorem flt_R (c : Int) : okR (.flt c) := by intro v e; cases e
theorem findC_R (l : List Con) (m n : Bs) : okR (findC l m n) := by
  induction l with
  | nil => exact flt_R _
  | cons c r ih =>
    unfold findC
    split
    · split
      · rename_i h; intro v e; cases e; exact h
      · exact flt_R _
    · exact ih
theorem callF_R (l : List Ev) : okR (callF l) := by
  induction l with
  | nil => exact flt_R _
  | cons e r ih =>
    unfold callF
    exact bd_R fun _ _ => ih
theorem twoF_R (op : Int) (a b : Ev) (ha : okR a) : okR (twoF op a b) := by
  unfold twoF
  refine bd_R fun v hv => ?_
  split
  · exact flt_R _
  · intro u e; cases e; exact ha v hv
  · exact bd_R fun u _ => trapEv_R (binF_R _ _ _)
theorem lit_R {h : EH} {n : Nat} (hk : h.kind = 1) (hf : fitsE cnS h n = true) : Ty.rightV h.vt h.vb = true := by
  unfold fitsE at hf
  rw [if_pos hk, Bool.and_eq_true] at hf
  have h1 := hf.1
  unfold litOk at h1
  unfold Ty.rightV
  by_cases t1 : h.vt = 1
  · rw [if_pos t1]
  by_cases t2 : h.vt = 2
  · rw [if_neg t1, if_pos t2, Bool.and_eq_true] at h1
    rw [if_neg t1, if_pos t2]
    have : cnS h.vb = h.vb := of_decide_eq_true h1.2
    simpa using this
  by_cases t3 : h.vt = 3
  · rw [if_neg t1, if_neg t2, if_pos t3] at h1
    rw [if_neg t1, if_neg t2, if_pos t3]
    exact h1
  · rw [if_neg t1, if_neg t2, if_neg t3] at h1
    cases h1
theorem getD_R {l : List Ev} (h : ∀ e ∈ l, okR e) (i : Nat) : okR (l.getD i (.flt 0)) := by
  rw [List.getD_eq_getElem?_getD]
  cases hg : l[i]? with
  | none => exact flt_R _
  | some e => exact h e (List.mem_of_getElem? hg)
theorem evN_R (l : List Con) (h : EH) (n : Nat) (he : errH rnS cnS h n = 0) (ks : List Ev) (hk : ∀ e ∈ ks, okR e) : okR (evN l h ks) := by
  have hf : fitsE cnS h n = true := by
    have := (orE0 (show orE (if fitsE cnS h n then 0 else 1) _ = 0 from he)).1
    by_cases hf : fitsE cnS h n = true
    · exact hf
    · rw [if_neg hf] at this; cases this
  have hkind := fits_kind hf
  unfold evN
  split
  · exact findC_R _ _ _
  · split
    · exact callF_R _
    · split
      · exact bd_R fun v _ => trapEv_R (unF_R _ _)
      · split
        · exact twoF_R _ _ _ (getD_R hk 0)
        · intro v e
          cases e
          exact lit_R (by omega) hf
theorem evF_R (l : List Con) : ∀ (k : Exs), errL rnS cnS k = 0 → ∀ e ∈ evF l k, okR e
  | .nil, _ => by intro e he; simp [evF] at he
  | .cons h k r, hx => by
    intro e he
    have he2 := orE0 (show orE (orE (errH rnS cnS h k.len) (errL rnS cnS k)) (errL rnS cnS r) = 0 from hx)
    have he3 := orE0 he2.1
    rw [evF, List.mem_cons] at he
    rcases he with rfl | he
    · exact evN_R l h k.len he3.1 _ (evF_R l k he3.2)
    · exact evF_R l r he2.2 e he
/-- What a right expression comes to is right. -/
theorem evX_R (l : List Con) (h : EH) (k : Exs) (he : errX rnS cnS h k = 0) : okR (evX l h k) := by
  have he2 := orE0 (orE0 (show orE _ _ = 0 from he)).2
  exact evN_R l h k.len he2.1 _ (evF_R l k he2.2)
end Go.Proofs.YtakkiipkmogagaaGreat.Fo
