/- lifted, whole; plain: errors are not zero, what a lifted expression is made of (for FoldLifts). -/
import Derived.Test.YtbmaaaeipcopcaaFoL7
namespace Go.Proofs.Ytbmaaaeipcopcaa.Fo
open Go.RowKit Te
set_option linter.unusedSimpArgs false
set_option linter.unusedVariables false

theorem nil_of_len : ∀ (k : Exs), k.len = 0 → k = .nil
  | .nil, _ => rfl
  | .cons _ _ _, h => by simp [Exs.len] at h
theorem lift_all : ∀ ws : List Bool, LfX ws
  | [] => fun h k ao cap wa wc T w hT hkp hs hbd hw => lift_base [] h k (Or.inl rfl) ao cap wa wc T w hkp hw
  | b :: ws => fun h k ao cap wa wc T w hT hkp hs hbd hw => by
    by_cases hk0 : k.len = 0
    · have e := nil_of_len k hk0
      have hl : liftS (b :: ws) h k = ((leafH, .nil), (h, k)) := by
        subst e
        unfold liftS
        simp [getX]
      rw [hl]
      exact lift_base (b :: ws) h k (Or.inr hk0) ao cap wa wc T w hkp hw
    · obtain ⟨kb, ko, rfl⟩ : ∃ kb ko, ao = some ⟨kb, ko, none⟩ := by
        rcases hkp.now.2.2 with h0 | ⟨b, off, e, _⟩
        · exact absurd h0 hk0
        · exact ⟨b, off, e⟩
      obtain ⟨wb, wo, rfl⟩ : ∃ wb wo, wa = some ⟨wb, wo, none⟩ := by
        rcases hw.2.2 with h0 | ⟨b, off, e, _⟩
        · cases h0
        · exact ⟨b, off, e⟩
      have hd1 : ws.length + 1 ≤ wc := hw.1
      cases b with
      | false =>
        obtain ⟨y, hy⟩ := getX_some k 0 (by omega)
        have hl : liftS (false :: ws) h k = ((h, setX k 0 (liftS ws y.1 y.2).1), (liftS ws y.1 y.2).2) := by
          rw [liftS, show kidAt false k = 0 from rfl, hy]
        rw [hl]
        by_cases hone : wc = 1
        · obtain rfl : ws = [] := List.eq_nil_of_length_eq_zero (by omega)
          subst hone
          exact lift_step_false_one (lift_all []) h k y hy kb ko cap wb wo T w hT hkp hs hbd hw
        · exact lift_step_false_more ws (lift_all ws) h k y hy kb ko cap wb wo wc hone T w hT hkp hs hbd hw
      | true =>
        obtain ⟨y, hy⟩ := getX_some k (k.len - 1) (by omega)
        have hl : liftS (true :: ws) h k = ((h, setX k (k.len - 1) (liftS ws y.1 y.2).1), (liftS ws y.1 y.2).2) := by
          rw [liftS, show kidAt true k = k.len - 1 from rfl, hy]
        rw [hl]
        by_cases hone : wc = 1
        · obtain rfl : ws = [] := List.eq_nil_of_length_eq_zero (by omega)
          subst hone
          exact lift_step_true_one (lift_all []) h k y hy kb ko cap wb wo T w hT hkp hs hbd hw
        · exact lift_step_true_more ws (lift_all ws) h k y hy kb ko cap wb wo wc hone T w hT hkp hs hbd hw
/- An answer without an error is a value. -/
def okC (e : Ev) : Prop := e.code = 0 → ∃ v, e = .ok v
theorem flt_C {c : Int} (h : c ≠ 0) : okC (.flt c) := fun e => absurd e h
theorem bd_C {a : Ev} {f : Vl → Ev} (ha : okC a) (h : ∀ v, okC (f v)) : okC (a.bd f) := by
  cases a with
  | ok v => exact h v
  | flt c => exact fun e => by obtain ⟨v, hv⟩ := ha e; cases hv
  | trp c => exact fun e => by obtain ⟨v, hv⟩ := ha e; cases hv
theorem trapEv_C (r : Vl × Int) : okC (trapEv r) := by
  unfold trapEv
  split
  · exact fun _ => ⟨_, rfl⟩
  · rename_i h0
    intro e
    have e : errnoF r.2 = 0 := e
    unfold errnoF at e
    rw [if_neg h0] at e
    repeat' split at e
    all_goals omega
theorem findC_C (l : List Con) (m n : Bs) : okC (findC l m n) := by
  induction l with
  | nil => exact flt_C (by decide)
  | cons c r ih =>
    unfold findC
    split
    · split
      · exact fun _ => ⟨_, rfl⟩
      · exact flt_C (by decide)
    · exact ih
theorem callF_C (l : List Ev) (h : ∀ e ∈ l, okC e) : okC (callF l) := by
  induction l with
  | nil => exact flt_C (by decide)
  | cons e r ih =>
    unfold callF
    exact bd_C (h e (by simp)) fun _ => ih (fun e he => h e (by simp [he]))
theorem twoF_C (op : Int) (a b : Ev) (ha : okC a) (hb : okC b) : okC (twoF op a b) := by
  unfold twoF
  refine bd_C ha fun v => ?_
  split
  · exact flt_C (by decide)
  · exact fun _ => ⟨_, rfl⟩
  · exact bd_C hb fun u => trapEv_C _
theorem getD_C {l : List Ev} (h : ∀ e ∈ l, okC e) (i : Nat) (hi : i < l.length) : okC (l.getD i (.flt 0)) := by
  rw [List.getD_eq_getElem?_getD, List.getElem?_eq_getElem hi]
  exact h _ (List.getElem_mem hi)
theorem evF_len (l : List Con) : ∀ k : Exs, (evF l k).length = k.len
  | .nil => rfl
  | .cons h k r => by rw [evF, List.length_cons, evF_len l r]; rfl
theorem evN_C (l : List Con) (h : EH) (n : Nat) (he : errH rnS cnS h n = 0) (ks : List Ev) (hn : ks.length = n) (hk : ∀ e ∈ ks, okC e) : okC (evN l h ks) := by
  have hf : fitsE cnS h n = true := by
    have := (orE0 (show orE (if fitsE cnS h n then 0 else 1) _ = 0 from he)).1
    by_cases hf : fitsE cnS h n = true
    · exact hf
    · rw [if_neg hf] at this; cases this
  unfold evN
  split
  · exact findC_C _ _ _
  · split
    · exact callF_C _ hk
    · split
      · rename_i h6
        have : n = 1 := by
          unfold fitsE at hf
          rw [if_neg (by omega), if_neg (by omega), if_neg (by omega), if_neg (by omega), if_neg (by omega), if_pos h6] at hf
          exact (of_decide_eq_true hf).2.2.1
        exact bd_C (getD_C hk 0 (by omega)) fun v => trapEv_C _
      · split
        · rename_i h7
          have : n = 2 := by
            unfold fitsE at hf
            rw [if_neg (by omega), if_neg (by omega), if_neg (by omega), if_neg (by omega), if_neg (by omega), if_neg (by omega), if_pos h7] at hf
            exact (of_decide_eq_true hf).2.2.1
          exact twoF_C _ _ _ (getD_C hk 0 (by omega)) (getD_C hk 1 (by omega))
        · exact fun _ => ⟨_, rfl⟩
theorem evF_C (l : List Con) : ∀ (k : Exs), errL rnS cnS k = 0 → ∀ e ∈ evF l k, okC e
  | .nil, _ => by intro e he; simp [evF] at he
  | .cons h k r, hx => by
    intro e he
    have he2 := orE0 (show orE (orE (errH rnS cnS h k.len) (errL rnS cnS k)) (errL rnS cnS r) = 0 from hx)
    have he3 := orE0 he2.1
    rw [evF, List.mem_cons] at he
    rcases he with rfl | he
    · exact evN_C l h k.len he3.1 _ (evF_len l k) (evF_C l k he3.2)
    · exact evF_C l r he2.2 e he
theorem evX_C (l : List Con) (h : EH) (k : Exs) (he : errX rnS cnS h k = 0) : okC (evX l h k) := by
  have he2 := orE0 (orE0 (show orE _ _ = 0 from he)).2
  exact evN_C l h k.len he2.1 _ (evF_len l k) (evF_C l k he2.2)
/- Which errors an expression that is not right has. -/
def okN (e : Int) : Prop := e = 0 ∨ e = 13 ∨ e = 1 ∨ e = 12 ∨ e = 3
theorem orE_N {a b : Int} (ha : okN a) (hb : okN b) : okN (orE a b) := by
  unfold orE
  split
  · exact hb
  · exact ha
theorem rn_N (x : Bs) : okN (rnS x) := by
  show okN (N.rightS x)
  unfold N.rightS okN
  repeat' split
  all_goals simp
theorem errH_N (h : EH) (n : Nat) : okN (errH rnS cnS h n) := by
  unfold errH
  refine orE_N (by split <;> simp [okN]) (orE_N ?_ (by split <;> simp [okN]))
  unfold nameE
  split
  · exact rn_N _
  · split
    · exact orE_N (rn_N _) (rn_N _)
    · exact Or.inl rfl
theorem errL_N : ∀ k : Exs, okN (errL rnS cnS k)
  | .nil => Or.inl rfl
  | .cons h k r => orE_N (orE_N (errH_N h k.len) (errL_N k)) (errL_N r)
theorem errX_N (h : EH) (k : Exs) : okN (errX rnS cnS h k) := orE_N (by split <;> simp [okN]) (orE_N (errH_N h k.len) (errL_N k))
/- What a lifted expression is made of. -/
theorem okX_get : ∀ (k : Exs) (i : Nat) (y : EH × Exs), OkX k → getX k i = some y → OkE y.1 ∧ OkX y.2
  | .nil, i, y, _, h => by cases i <;> simp [getX] at h
  | .cons h k r, 0, y, ho, hy => by
    simp only [getX, Option.some.injEq] at hy
    subst hy
    exact ⟨ho.1, ho.2.1⟩
  | .cons h k r, i + 1, y, ho, hy => okX_get r i y ho.2.2 (by simpa [getX] using hy)
theorem okX_set : ∀ (k : Exs) (i : Nat) (y : EH × Exs), OkX k → OkE y.1 → OkX y.2 → OkX (setX k i y)
  | .nil, i, y, _, _, _ => trivial
  | .cons h k r, 0, y, ho, h1, h2 => ⟨h1, h2, ho.2.2⟩
  | .cons h k r, i + 1, y, ho, h1, h2 => ⟨ho.1, ho.2.1, okX_set r i y ho.2.2 h1 h2⟩
theorem okE_leaf : OkE leafH := ⟨by constructor <;> decide, by constructor <;> decide, by constructor <;> decide, by decide, by decide, by unfold OkN; decide, by unfold OkN; decide⟩
theorem ok_lift : ∀ (ws : List Bool) (h : EH) (k : Exs), OkE h → OkX k → (OkE (liftS ws h k).1.1 ∧ OkX (liftS ws h k).1.2) ∧ (OkE (liftS ws h k).2.1 ∧ OkX (liftS ws h k).2.2)
  | [], h, k, h1, h2 => ⟨⟨okE_leaf, trivial⟩, h1, h2⟩
  | b :: ws, h, k, h1, h2 => by
    unfold liftS
    split
    · exact ⟨⟨okE_leaf, trivial⟩, h1, h2⟩
    · rename_i y hy
      obtain ⟨y1, y2⟩ := okX_get k _ y h2 hy
      obtain ⟨⟨a, b⟩, c, d⟩ := ok_lift ws y.1 y.2 y1 y2
      exact ⟨⟨h1, okX_set k _ _ h2 a b⟩, c, d⟩
theorem evalS_U (l : List Con) (hok : ∀ c ∈ l, U64 c.b) (h : EH) (hh : OkE h) (k : Exs) (hk : OkX k) {t b q : Int} (he : evalS l h k = ((t, b), q)) : U64 b := by
  unfold evalS at he
  split at he
  · simp only [Prod.mk.injEq] at he
    have hu := evX_U l hok h hh k hk
    generalize evX l h k = E at he hu
    cases E with
    | ok v =>
      have hv : v = (t, b) := he.1
      have := hu v rfl
      rw [hv] at this
      exact this
    | flt c =>
      have hv : ((0, 0) : Vl) = (t, b) := he.1
      cases hv
      exact U0
    | trp c =>
      have hv : ((0, 0) : Vl) = (t, b) := he.1
      cases hv
      exact U0
  · simp only [Prod.mk.injEq] at he
    have := he.1.2
    subst this
    exact U0
/-- FoldLifts, plain: the same answer. -/
theorem lift_eval (l : List Con) (ws : List Bool) (h : EH) (k : Exs) (t b q t2 b2 q2 : Int) (hn : namX zz h k = false) (hl : ∀ c ∈ l, c.name ≠ zz) (he : evalS l h k = ((t, b), q)) (hq : ¬ (q = 13 ∨ q = 1 ∨ q = 12 ∨ q = 3)) (hp : evalS l (liftS ws h k).2.1 (liftS ws h k).2.2 = ((t2, b2), q2)) (hq2 : q2 = 0) :
    evalS (l ++ [⟨[], zz, t2, b2⟩]) (liftS ws h k).1.1 (liftS ws h k).1.2 = ((t, b), q) := by
  subst hq2
  have hr : errX rnS cnS h k = 0 := by
    refine Decidable.byContradiction fun h0 => hq ?_
    unfold evalS at he
    rw [if_neg h0] at he
    have := errX_N h k
    simp only [Prod.mk.injEq] at he
    rw [he.2] at this h0
    rcases this with h1 | h1
    · exact absurd h1 h0
    · exact h1
  have hpr : errX rnS cnS (liftS ws h k).2.1 (liftS ws h k).2.2 = 0 := by
    refine Decidable.byContradiction fun h0 => h0 ?_
    unfold evalS at hp
    rw [if_neg h0] at hp
    simp only [Prod.mk.injEq] at hp
    exact hp.2
  have hpv : evX l (liftS ws h k).2.1 (liftS ws h k).2.2 = .ok (t2, b2) := by
    unfold evalS at hp
    rw [if_pos hpr] at hp
    simp only [Prod.mk.injEq] at hp
    obtain ⟨v, hv⟩ := evX_C l _ _ hpr hp.2
    rw [hv] at hp ⊢
    have : v = (t2, b2) := hp.1
    rw [this]
  have hrv := evX_R l _ _ hpr (t2, b2) hpv
  have hx := lift_right ws h k hr
  have hv := lift_val l t2 b2 hl hrv ws h k hn hpv
  unfold evalS at he ⊢
  rw [if_pos hr] at he
  rw [if_pos hx, hv]
  exact he
end Go.Proofs.Ytbmaaaeipcopcaa.Fo
