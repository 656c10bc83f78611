/- PwG PwH PwO PsG PsH PsI PsO PsP PsQ PsE2 TrIn TrQ -/
import Derived.Test.YteijjaabngkbjaaGreatDoorShelf3B
import Derived.Deep.RegionHeld3
import Derived.RegionDies
import Derived.Test.YteijjaabngkbjaaGreatDoorLxAll
import Derived.Recover
import Derived.Test.YteijjaabngkbjaaGreatDoorPsJB
import Derived.Test.YteijjaabngkbjaaGreatDoorTrD2B
import Derived.Deep.Slices
import Derived.Deep.Strs
import Derived.ChangeSlices
import Derived.ChangeArms
import Derived.DataReads
namespace Go.Proofs.YteijjaabngkbjaaGreatDoor
open Go.RowKit Lx Te
set_option linter.unusedSimpArgs false
set_option linter.unusedVariables false
set_option linter.unusedSectionVars false
def Nz (B z : Nat) (w : World) (P : World → Prop) : Prop := ∀ w', Fr (fun k => k < B ∨ k = z) w w' → P w'
theorem Nz.step {B z : Nat} {S : Nat → Prop} {w w' : World} {P : World → Prop} (h : Nz B z w P) (hf : Fr S w w') (hS : ∀ k, S k → k < B ∨ k = z) : Nz B z w' P :=
  fun w'' hf' => h w'' ((hf.mono (fun k _ hk => hS k hk)).same hf')
theorem Nz.two {B z : Nat} {w : World} {x y : Pz.Ex} {ao ao2 : Option Addr} {cap cap2 b : Nat} {t : TypeId} (hx : Nz B z w (fun w => ExL w ao cap x.2)) (hy : Nz B z w (fun w => ExL w ao2 cap2 y.2))
    (hb : w.heap[b]? = some (.cells #[ci x.1.kind, ci x.1.op, ct x.1.mod, ct x.1.name, ci x.1.vt, .int .u64 x.1.vb, .slice ao x.2.len cap, ci y.1.kind, ci y.1.op, ct y.1.mod, ct y.1.name, ci y.1.vt, .int .u64 y.1.vb, .slice ao2 y.2.len cap2] t (0, 0))) (hB : B ≤ b) (hz : b ≠ z) :
    Nz B z w (fun w => ExL w (some ⟨b, 0, none⟩) 2 (.cons x.1 x.2 (.cons y.1 y.2 .nil))) := by
  intro w' hf
  have hx' := hx w' hf
  have hy' := hy w' hf
  have hb' := hf.heap hb (by omega)
  have hc := fun j => cell_of_row w' b j _ t (0, 0) hb'
  refine ⟨Nat.le_refl _, by decide, Or.inr ⟨b, 0, rfl, ⟨⟨ao, cap, fun j u hu => ?_, hx'.1, hx'.2.1, hx'.2.2⟩, ⟨ao2, cap2, fun j u hu => ?_, hy'.1, hy'.2.1, hy'.2.2⟩, trivial⟩⟩⟩
  · rw [Nat.zero_add, hc j]
    have h7 : j < 7 := (List.getElem?_eq_some_iff.1 hu).1
    obtain rfl | rfl | rfl | rfl | rfl | rfl | rfl : j = 0 ∨ j = 1 ∨ j = 2 ∨ j = 3 ∨ j = 4 ∨ j = 5 ∨ j = 6 := by omega
    all_goals exact hu
  · have h7 : j < 7 := (List.getElem?_eq_some_iff.1 hu).1
    obtain rfl | rfl | rfl | rfl | rfl | rfl | rfl : j = 0 ∨ j = 1 ∨ j = 2 ∨ j = 3 ∨ j = 4 ∨ j = 5 ∨ j = 6 := by omega
    all_goals (rw [hc]; exact hu)
section
variable {E : Bool → Nat → List Tok → Pz.Ou Pz.Ex} (hE : CE E)
end
end Go.Proofs.YteijjaabngkbjaaGreatDoor
namespace Go.Proofs.YteijjaabngkbjaaGreatDoor
open Go.RowKit Lx Te
set_option linter.unusedSimpArgs false
set_option linter.unusedVariables false
set_option linter.unusedSectionVars false
def TB (l : Sts) (v : Value) (w w' : World) : Prop := ∃ ao cap, v = .slice ao l.len cap ∧ Nw w.heap.size w' (fun w => StL w ao cap l)
def CE0 (E : Nat → List Tok → Pz.Ou Pz.Ex) : Prop := ∀ (d : Nat) (ts : List Tok) (rs : Pz.Rs Pz.Ex) (q : Nat) (w : World), d ≤ 32 → E d ts = some rs → Ps w q ts d false → Calls Tryz.prog 59 #[pp q] w (Out TE q d w rs)
def CC0 (C : Nat → Pz.Ex → List Tok → Pz.Ou Pz.Ex) : Prop := ∀ (d : Nat) (x : Pz.Ex) (ao : Option Addr) (n cap : Nat) (ts : List Tok) (rs : Pz.Rs Pz.Ex) (q : Nat) (w : World), d ≤ 32 → C d x ts = some rs → Ps w q ts d false →
  Calls Tryz.prog 224 #[pp q, .agg #[ci x.1.kind, ci x.1.op, ct x.1.mod, ct x.1.name, ci x.1.vt, .int .u64 x.1.vb, .slice ao n cap]] w (Out TE q d w rs)
def CB0 (B : Nat → List Tok → Pz.Ou Sts) : Prop := ∀ (d : Nat) (ts : List Tok) (rs : Pz.Rs Sts) (q : Nat) (w : World), d ≤ 32 → B d ts = some rs → Ps w q ts d false → Calls Tryz.prog 159 #[pp q] w (Out TB q d w rs)
section
variable {E : Nat → List Tok → Pz.Ou Pz.Ex} (hE : CE0 E) {C : Nat → Pz.Ex → List Tok → Pz.Ou Pz.Ex} (hC : CC0 C) {B : Nat → List Tok → Pz.Ou Sts} (hB : CB0 B)
include hE
include hB
omit hE
omit hB
include hE
include hC
end
end Go.Proofs.YteijjaabngkbjaaGreatDoor
namespace Go.Proofs.YteijjaabngkbjaaGreatDoor
open Go.RowKit Lx Te
set_option linter.unusedSimpArgs false
set_option linter.unusedVariables false
set_option linter.unusedSectionVars false
def Pz.ex (r : Option Pz.Ex) : Pz.Ex := r.getD (⟨0, 0, [], [], 0, 0⟩, .nil)
end Go.Proofs.YteijjaabngkbjaaGreatDoor
namespace Go.Proofs.YteijjaabngkbjaaGreatDoor
set_option linter.unusedSimpArgs false
set_option linter.unusedVariables false
namespace Pz
open Lx Te
abbrev Co := Nat × By × Int × Int
section
variable {words : List By} {V : Nat → By → Int × Int × Int}
def Rd (words : List By) (V : Nat → By → Int × Int × Int) (u : By) (T : List Co) : Prop := ∀ q, ∃ ts, Toks words V q (u.drop (gap u)) ts ∧ ts.map Tok.core = T
theorem Rd.nil : Rd words V [] [] := fun q => ⟨[], by simpa using Toks.done q, rfl⟩
theorem Rd.blank {c : UInt8} {u : By} {T : List Co} (hc : blB c = true) (h : Rd words V u T) : Rd words V (c :: u) T := by
  intro q
  obtain ⟨ts, h1, h2⟩ := h q
  refine ⟨ts, ?_, h2⟩
  rw [gap, gapM_false, if_pos hc, Nat.add_comm, List.drop_succ_cons]
  exact h1
theorem Rd.step {x r : By} {k : Nat} {ty b : Int} {T : List Co} (h0 : x ≠ []) (hg : gap (x ++ r) = 0) (hk : kindLen words (x ++ r) = (k, x.length)) (hv : V k x = (ty, b, 0)) (h : Rd words V r T) : Rd words V (x ++ r) ((k, x, ty, b) :: T) := by
  intro q
  obtain ⟨ts, h1, h2⟩ := h (q + x.length + gap r)
  refine ⟨⟨k, x, ty, b, q⟩ :: ts, ?_, by simp [h2, Tok.core]⟩
  rw [hg, List.drop_zero]
  exact .more q x r k ty b ts hk h0 hg hv h1
theorem gap0 {c : UInt8} {r : By} (h1 : blB c = false) (h2 : c ≠ 47) : gap (c :: r) = 0 := by
  rw [gap, gapM_false, if_neg (by simp [h1]), if_neg (fun h => h2 h.1)]
theorem ltr_f {c : UInt8} (h : ltr c = true) : blB c = false ∧ c ≠ 47 ∧ dgt c = false ∧ c ≠ 61 := by
  refine ⟨?_, ?_, ?_, ?_⟩
  · cases hb : blB c with
    | false => rfl
    | true => have := (blank_no hb).1; simp [nmB, h] at this
  · rintro rfl; revert h; decide
  · simp only [ltr, dgt, Bool.or_eq_true, Bool.and_eq_true, decide_eq_true_eq, Bool.and_eq_false_iff, decide_eq_false_iff_not] at *; omega
  · rintro rfl; revert h; decide
theorem dgt_f {c : UInt8} (h : dgt c = true) : blB c = false ∧ c ≠ 47 ∧ c ≠ 61 := by
  refine ⟨?_, ?_, ?_⟩
  · cases hb : blB c with
    | false => rfl
    | true => have := (blank_no hb).2.2.1; simp [h] at this
  · rintro rfl; revert h; decide
  · rintro rfl; revert h; decide
def StN (r : By) : Prop := ∀ c, r[0]? = some c → nmB c = false
def enB (c : UInt8) : Bool := c == 32 || c == 41 || c == 44 || c == 59
def End (r : By) : Prop := ∀ c, r[0]? = some c → enB c = true
theorem enB_c {c : UInt8} (h : enB c = true) : c = 32 ∨ c = 41 ∨ c = 44 ∨ c = 59 := by
  simpa [enB, or_assoc] using h
theorem End.st {r : By} (h : End r) : StN r := fun c hc => by
  rcases enB_c (h c hc) with rfl | rfl | rfl | rfl <;> decide
theorem End.no {r : By} (h : End r) : r[0]? ≠ some 61 := fun hc => by
  have := h _ hc; revert this; decide
theorem End.nil : End [] := fun c h => by simp at h
theorem End.cons {c : UInt8} {r : By} (h : enB c = true) : End (c :: r) := fun d hd => by
  simp at hd; subst hd; exact h
theorem StN.cons {c : UInt8} {r : By} (h : nmB c = false) : StN (c :: r) := fun d hd => by
  simp at hd; subst hd; exact h
theorem Rd.word {x r : By} {T : List Co} {ty b : Int} (hx : ∃ c r', x = c :: r' ∧ ltr c = true) (ha : ∀ c ∈ x, nmB c = true) (hr : StN r) (k : Nat) (hk : k = if x ∈ words then 2 else 1) (hv : V k x = (ty, b, 0)) (h : Rd words V r T) : Rd words V (x ++ r) ((k, x, ty, b) :: T) := by
  obtain ⟨c, r', rfl, hc⟩ := hx
  obtain ⟨f1, f2, f3, _⟩ := ltr_f hc
  have hrun := run_stop nmB (c :: r') r ha hr
  refine Rd.step (by simp) (by rw [List.cons_append]; exact gap0 f1 f2) ?_ hv h
  rw [List.cons_append] at hrun ⊢
  rw [kind_cons, if_neg (by simp [f3]), if_pos hc, hrun, hk]
  congr 2
  rw [← List.cons_append, List.take_left]
theorem Rd.mark {a : UInt8} {r : By} {T : List Co} (h1 : Lx.one a = true) (h2 : ∀ b, r[0]? = some b → Lx.two a b = false) (h3 : gap (a :: r) = 0) (hv : V 5 [a] = (0, 0, 0)) (h : Rd words V r T) : Rd words V (a :: r) ((5, [a], 0, 0) :: T) := by
  have e : kindLen words (a :: r) = (5, 1) := by
    have hd : dgt a = false ∧ ltr a = false := by
      simp only [Lx.one, Bool.or_eq_true, beq_iff_eq] at h1
      rcases h1 with (((((((((((((((h | h) | h) | h) | h) | h) | h) | h) | h) | h) | h) | h) | h) | h) | h) | h) | h <;> (subst h; decide)
    rw [kind_cons, if_neg (by simp [hd.1]), if_neg (by simp [hd.2])]
    cases r with
    | nil => simp [mkLen, h1]
    | cons b r => rw [mkLen, if_neg (by simp [h2 b (by simp)]), if_pos h1]
  exact Rd.step (x := [a]) (r := r) (by simp) h3 e hv h
theorem Rd.mark2 {a b : UInt8} {r : By} {T : List Co} (h1 : Lx.two a b = true) (hv : V 5 [a, b] = (0, 0, 0)) (h : Rd words V r T) : Rd words V (a :: b :: r) ((5, [a, b], 0, 0) :: T) := by
  have ha : a = 60 ∨ a = 62 ∨ a = 61 ∨ a = 33 ∨ a = 38 ∨ a = 124 := by
    simp only [Lx.two, Bool.or_eq_true, Bool.and_eq_true, beq_iff_eq] at h1
    rcases h1 with (⟨_, ((h | h) | h) | h⟩ | ⟨h, _⟩) | ⟨h, _⟩ <;> simp [h]
  have hd : dgt a = false ∧ ltr a = false ∧ blB a = false ∧ a ≠ 47 := by
    rcases ha with rfl | rfl | rfl | rfl | rfl | rfl <;> decide
  have e : kindLen words (a :: b :: r) = (5, 2) := by
    rw [kind_cons, if_neg (by simp [hd.1]), if_neg (by simp [hd.2.1]), mkLen, if_pos h1]
  exact Rd.step (x := [a, b]) (r := r) (by simp) (gap0 hd.2.2.1 hd.2.2.2) e hv h
theorem Rd.digits {x r : By} {T : List Co} {ty b : Int} (hx : x ≠ []) (ha : ∀ c ∈ x, dgt c = true) (hr : End r) (hv : V 3 x = (ty, b, 0)) (h : Rd words V r T) : Rd words V (x ++ r) ((3, x, ty, b) :: T) := by
  cases x with
  | nil => exact absurd rfl hx
  | cons c r' =>
    obtain ⟨f1, f2, _⟩ := dgt_f (ha c (by simp))
    have hne : ∀ d, r[0]? = some d → dgt d = false ∧ d ≠ 120 ∧ d ≠ 46 := fun d hd => by
      rcases enB_c (hr d hd) with rfl | rfl | rfl | rfl <;> decide
    have hrun := run_stop dgt (c :: r') r ha (fun d hd => (hne d hd).1)
    refine Rd.step (by simp) (by rw [List.cons_append]; exact gap0 f1 f2) ?_ hv h
    rw [List.cons_append, kind_cons, if_pos (ha c (by simp)), ← List.cons_append, numLen, hrun]
    rw [if_neg, if_neg]
    · rintro ⟨hc, _⟩
      rw [List.getElem?_append_right (Nat.le_refl _), Nat.sub_self] at hc
      exact (hne _ hc).2.2 rfl
    · intro e
      cases r' with
      | nil =>
        simp only [List.cons_append, List.nil_append, List.take_succ_cons, List.cons.injEq] at e
        cases r with
        | nil => simp at e
        | cons d r => simp at e; exact (hne d (by simp)).2.1 e.2
      | cons d r' =>
        simp only [List.cons_append, List.take_succ_cons, List.take_zero, List.cons.injEq] at e
        have := ha d (by simp)
        rw [e.2.1] at this
        revert this; decide
theorem Rd.hex {z r : By} {T : List Co} {ty b : Int} (ha : ∀ c ∈ z, hxB c = true) (hr : End r) (hv : V 4 (48 :: 120 :: z) = (ty, b, 0)) (h : Rd words V r T) : Rd words V ((48 :: 120 :: z) ++ r) ((4, 48 :: 120 :: z, ty, b) :: T) := by
  have hne : ∀ d, r[0]? = some d → hxB d = false := fun d hd => by
    rcases enB_c (hr d hd) with rfl | rfl | rfl | rfl <;> decide
  have hrun := run_stop hxB z r ha hne
  refine Rd.step (by simp) (gap0 (by decide) (by decide)) ?_ hv h
  rw [List.cons_append, kind_cons, if_pos (by decide), numLen, if_pos (by simp)]
  simp only [List.cons_append, List.drop_succ_cons, List.drop_zero, hrun, List.length_cons]
  rw [Nat.add_comm]
end
end Pz
end Go.Proofs.YteijjaabngkbjaaGreatDoor
namespace Go.Proofs.YteijjaabngkbjaaGreatDoor
set_option linter.unusedSimpArgs false
set_option linter.unusedVariables false
namespace Pz
open Lx Te
structure LawT (rn : Bs → Int) (cn : Int → Int) (tx : Int → Int → Bs) (words : List By) (V : Nat → By → Int × Int × Int) : Prop where
  nm : ∀ x, rn x = 0 → (∃ c r, x = c :: r ∧ ltr c = true) ∧ (∀ c ∈ x, nmB c = true) ∧ x ∉ words ∧ V 1 x = (0, 0, 0)
  wd : ∀ x, V 2 x = (0, 0, 0)
  mrk : ∀ x, V 5 x = (0, 0, 0)
  int : ∀ vb, 0 ≤ vb → vb < 9223372036854775808 → tx 1 vb ≠ [] ∧ (∀ c ∈ tx 1 vb, dgt c = true) ∧ V 3 (tx 1 vb) = (1, vb, 0)
  flo : ∀ vb, 0 ≤ vb → litOk cn 2 vb = true → vb ≠ 9218868437227405312 → vb ≠ 9221120237041090561 → ∃ z, tx 2 vb = 48 :: 120 :: z ∧ (∀ c ∈ z, hxB c = true) ∧ V 4 (tx 2 vb) = (2, vb, 0)
  inf : tx 2 9218868437227405312 = [105, 110, 102]
  nan : tx 2 9221120237041090561 = [110, 97, 110]
  fal : tx 3 0 = [102, 97, 108, 115, 101]
  tru : tx 3 1 = [116, 114, 117, 101]
  wi : [105, 110, 102] ∈ words
  wn : [110, 97, 110] ∈ words
  wf : [102, 97, 108, 115, 101] ∈ words
  wt : [116, 114, 117, 101] ∈ words
  wI : [105, 110, 116] ∈ words
  wF : [102, 108, 111, 97, 116] ∈ words
  wp : [105, 110, 112, 117, 116] ∈ words
section
variable {rn : Bs → Int} {cn : Int → Int} {tx : Int → Int → Bs} {words : List By} {V : Nat → By → Int × Int × Int} (L : LawT rn cn tx words V)
include L
def Gd (words : List By) (V : Nat → By → Int × Int × Int) (u : By) (T : List Co) : Prop := Rd words V u T ∧ u[0]? ≠ some 61
omit L in
theorem Gd.blank {u : By} {T : List Co} (h : Rd words V u T) : Gd words V (32 :: u) T := ⟨h.blank (by decide), by simp⟩
theorem g_name {x r : By} {T : List Co} (hx : rn x = 0) (hr : StN r) (h : Rd words V r T) : Gd words V (x ++ r) ((1, x, 0, 0) :: T) := by
  obtain ⟨h1, h2, h3, h4⟩ := L.nm x hx
  refine ⟨Rd.word h1 h2 hr 1 (by rw [if_neg h3]) h4 h, ?_⟩
  obtain ⟨c, r', rfl, hc⟩ := h1
  intro e
  simp at e
  exact (ltr_f hc).2.2.2 e
theorem g_word {x r : By} {T : List Co} (hw : x ∈ words) (h1 : ∃ c r, x = c :: r ∧ ltr c = true) (h2 : x.all nmB = true) (hr : StN r) (h : Rd words V r T) : Gd words V (x ++ r) ((2, x, 0, 0) :: T) := by
  refine ⟨Rd.word h1 (by simpa using h2) hr 2 (by rw [if_pos hw]) (L.wd x) h, ?_⟩
  obtain ⟨c, r', rfl, hc⟩ := h1
  intro e
  simp at e
  exact (ltr_f hc).2.2.2 e
theorem g_lit (vt vb : Int) (h0 : 0 ≤ vb) (hl : litOk cn vt vb = true) {r : By} {T : List Co} (hr : End r) (h : Rd words V r T) : Gd words V (tx vt vb ++ r) ((tL tx vt vb).core :: T) := by
  unfold tL
  by_cases v1 : vt = 1
  · subst v1
    simp only [litOk, if_true, decide_eq_true_eq] at hl
    obtain ⟨a1, a2, a3⟩ := L.int vb h0 hl
    rw [if_pos rfl]
    refine ⟨Rd.digits a1 a2 hr a3 h, ?_⟩
    cases e : tx 1 vb with
    | nil => exact absurd e a1
    | cons c r' => intro e'; simp at e'; exact (dgt_f (a2 c (by simp [e]))).2.2 e'
  · rw [if_neg v1]
    by_cases v2 : vt = 2
    · subst v2
      rw [if_pos rfl]
      by_cases e1 : vb = 9218868437227405312
      · subst e1
        rw [if_pos rfl, L.inf]
        exact g_word L L.wi ⟨105, [110, 102], rfl, by decide⟩ (by decide) hr.st h
      · rw [if_neg e1]
        by_cases e2 : vb = 9221120237041090561
        · subst e2
          rw [if_pos rfl, L.nan]
          exact g_word L L.wn ⟨110, [97, 110], rfl, by decide⟩ (by decide) hr.st h
        · rw [if_neg e2]
          obtain ⟨z, a1, a2, a3⟩ := L.flo vb h0 hl e1 e2
          show Gd words V _ ((4, tx 2 vb, 2, vb) :: T)
          rw [a1] at a3 ⊢
          exact ⟨Rd.hex a2 hr a3 h, by simp⟩
    · rw [if_neg v2]
      simp only [litOk, if_neg v1, if_neg v2] at hl
      by_cases v3 : vt = 3
      · subst v3
        simp only [if_true, decide_eq_true_eq] at hl
        by_cases b0 : vb = 0
        · subst b0
          rw [if_pos rfl, L.fal]
          exact g_word L L.wf ⟨102, [97, 108, 115, 101], rfl, by decide⟩ (by decide) hr.st h
        · obtain rfl : vb = 1 := by omega
          rw [if_neg (by decide), L.tru]
          exact g_word L L.wt ⟨116, [114, 117, 101], rfl, by decide⟩ (by decide) hr.st h
      · simp [v3] at hl
theorem g_mark {a : UInt8} {r : By} {T : List Co} (ha : a = 40 ∨ a = 41 ∨ a = 44 ∨ a = 46 ∨ a = 59 ∨ a = 58 ∨ a = 123 ∨ a = 125 ∨ a = 45) (h : Rd words V r T) : Gd words V (a :: r) ((5, [a], 0, 0) :: T) := by
  refine ⟨Rd.mark ?_ ?_ ?_ (L.mrk _) h, ?_⟩
  · rcases ha with rfl | rfl | rfl | rfl | rfl | rfl | rfl | rfl | rfl <;> decide
  · intro b _
    rcases ha with rfl | rfl | rfl | rfl | rfl | rfl | rfl | rfl | rfl <;> simp [Lx.two]
  · rcases ha with rfl | rfl | rfl | rfl | rfl | rfl | rfl | rfl | rfl <;> exact gap0 (by decide) (by decide)
  · rcases ha with rfl | rfl | rfl | rfl | rfl | rfl | rfl | rfl | rfl <;> simp
theorem g_not {r : By} {T : List Co} (h : Gd words V r T) : Gd words V (33 :: r) ((5, [33], 0, 0) :: T) := by
  refine ⟨Rd.mark (by decide) ?_ (gap0 (by decide) (by decide)) (L.mrk _) h.1, by simp⟩
  intro b hb
  by_cases e : b = 61
  · subst e; exact absurd hb h.2
  · simp [Lx.two, e]
theorem g_sep (p : EH) (hp : p.kind = 7 → 1 ≤ p.op ∧ p.op ≤ 13) {r : By} {T : List Co} (h : Rd words V r T) : Gd words V (sep p ++ r) ((kSe p).map Tok.core ++ T) := by
  unfold sep kSe
  have hb : Rd words V (32 :: r) T := h.blank (by decide)
  have h1 : ∀ a : UInt8, Lx.one a = true → (∀ b, b = 32 → Lx.two a b = false) → a ≠ 32 → Gd words V (32 :: a :: 32 :: r) ((5, [a], 0, 0) :: T) := fun a ha h2 h3 => Gd.blank (Rd.mark ha (fun b hb' => by simp at hb'; exact h2 b hb'.symm) (by
      rw [gap, gapM_false, if_neg, if_neg]
      · rintro ⟨_, e⟩; simp at e
      · intro e; simp only [Lx.one, Bool.or_eq_true, beq_iff_eq] at ha
        rcases ha with (((((((((((((((h | h) | h) | h) | h) | h) | h) | h) | h) | h) | h) | h) | h) | h) | h) | h) | h <;> (subst h; revert e; decide)) (L.mrk _) hb)
  have h2 : ∀ a b : UInt8, Lx.two a b = true → Gd words V (32 :: a :: b :: 32 :: r) ((5, [a, b], 0, 0) :: T) := fun a b ha => Gd.blank (Rd.mark2 ha (L.mrk _) hb)
  by_cases hk : p.kind = 7
  · rw [if_pos hk, if_pos hk]
    obtain ⟨o1, o2⟩ := hp hk
    have ho : p.op = 1 ∨ p.op = 2 ∨ p.op = 3 ∨ p.op = 4 ∨ p.op = 5 ∨ p.op = 6 ∨ p.op = 7 ∨ p.op = 8 ∨ p.op = 9 ∨ p.op = 10 ∨ p.op = 11 ∨ p.op = 12 ∨ p.op = 13 := by omega
    rcases ho with e | e | e | e | e | e | e | e | e | e | e | e | e <;> rw [e]
    · exact h1 43 (by decide) (fun b e => by subst e; decide) (by decide)
    · exact h1 45 (by decide) (fun b e => by subst e; decide) (by decide)
    · exact h1 42 (by decide) (fun b e => by subst e; decide) (by decide)
    · exact h1 47 (by decide) (fun b e => by subst e; decide) (by decide)
    · exact h1 37 (by decide) (fun b e => by subst e; decide) (by decide)
    · exact h2 61 61 (by decide)
    · exact h2 33 61 (by decide)
    · exact h1 60 (by decide) (fun b e => by subst e; decide) (by decide)
    · exact h2 60 61 (by decide)
    · exact h1 62 (by decide) (fun b e => by subst e; decide) (by decide)
    · exact h2 62 61 (by decide)
    · exact h2 38 38 (by decide)
    · exact h2 124 124 (by decide)
  · rw [if_neg hk, if_neg hk]
    exact g_mark L (by decide) hb
omit L in
theorem ite_head {p : Prop} [Decidable p] {a b : By} (ha : ∃ z, a = 32 :: z) (hb : ∃ z, b = 32 :: z) : ∃ z, (if p then a else b) = 32 :: z := by
  by_cases h : p
  · rw [if_pos h]; exact ha
  · rw [if_neg h]; exact hb
omit L in
theorem mark_head (op : Int) : ∃ z, Te.mark op = 32 :: z := by
  unfold Te.mark
  repeat (first | exact ⟨_, rfl⟩ | refine ite_head ⟨_, rfl⟩ ?_)
omit L in
theorem sep_end (p : EH) (r : By) : End (sep p ++ r) := by
  unfold sep
  split
  · obtain ⟨z, e⟩ := mark_head p.op
    rw [e]
    exact End.cons (by decide)
  · exact End.cons (by decide)
theorem g_bare (h : EH) (k : Exs) (hR : RX rn cn h k) (h0 : 0 ≤ h.vb) (IH : ∀ (rest : By) (T : List Co), End rest → Rd words V rest T → Gd words V (txK tx h true k ++ rest) ((kK tx h true k).map Tok.core ++ T))
    (rest : By) (T : List Co) (hE : End rest) (hT : Rd words V rest T) : Gd words V (Te.bare tx h k ++ rest) ((kB tx h k).map Tok.core ++ T) := by
  obtain ⟨e1, e2⟩ := hR
  unfold errH at e1
  obtain ⟨hfit, e1⟩ := orE_0 e1
  obtain ⟨hnm, _⟩ := orE_0 e1
  have hfit : fitsE cn h k.len = true := by
    by_cases e : fitsE cn h k.len = true
    · exact e
    · rw [if_neg e] at hfit; omega
  have hK : h.kind = 1 ∨ h.kind = 2 ∨ h.kind = 3 ∨ h.kind = 4 ∨ h.kind = 5 ∨ h.kind = 6 ∨ h.kind = 7 ∨ h.kind = 8 := by
    unfold fitsE at hfit
    repeat' split at hfit
    all_goals first | omega | cases hfit
  unfold Te.bare kB
  rw [List.append_assoc, List.append_assoc, List.map_append, List.map_append, List.append_assoc, List.append_assoc]
  rcases hK with e | e | e | e | e | e | e | e
  · have hk : k = .nil := len0 (by simp [fitsE, e] at hfit; exact hfit.2.2.2.2)
    have hl : litOk cn h.vt h.vb = true := by simp [fitsE, e] at hfit; exact hfit.1
    subst hk
    simp only [pre, post, kP, kPo, e, txK, kK]
    exact g_lit L h.vt h.vb h0 hl hE hT
  · have hk : k = .nil := len0 (by simp [fitsE, e] at hfit; exact hfit.2.2.2.2)
    have hn : rn h.name = 0 := by simpa [nameE, e] using hnm
    subst hk
    simp only [pre, post, kP, kPo, e, txK, kK]
    exact g_name L hn hE.st hT
  · have hk : k = .nil := len0 (by simp [fitsE, e] at hfit; exact hfit.2.2.2)
    have hm : orE (rn h.mod) (rn h.name) = 0 := by simpa [nameE, e] using hnm
    obtain ⟨m1, m2⟩ := orE_0 hm
    subst hk
    simp only [pre, post, kP, kPo, e, txK, kK]
    have := g_name L m1 (StN.cons (by decide)) (g_mark L (a := 46) (by decide) (g_name L m2 hE.st hT).1).1
    simpa [tN, tM, Tok.core] using this
  · have hn : rn h.name = 0 := by simpa [nameE, e] using hnm
    have := g_name L hn (StN.cons (by decide)) (g_mark L (a := 40) (by decide) (IH (41 :: rest) _ (End.cons (by decide)) (g_mark L (a := 41) (by decide) hT).1).1).1
    simpa [pre, post, kP, kPo, e, tN, tM, Tok.core] using this
  · have hm : orE (rn h.mod) (rn h.name) = 0 := by simpa [nameE, e] using hnm
    obtain ⟨m1, m2⟩ := orE_0 hm
    have := g_name L m1 (StN.cons (by decide)) (g_mark L (a := 46) (by decide) (g_name L m2 (StN.cons (by decide)) (g_mark L (a := 40) (by decide) (IH (41 :: rest) _ (End.cons (by decide)) (g_mark L (a := 41) (by decide) hT).1).1).1).1).1
    simpa [pre, post, kP, kPo, e, tN, tM, Tok.core] using this
  · have ho : h.op = 1 ∨ h.op = 2 ∨ h.op = 3 ∨ h.op = 4 := by
      simp [fitsE, e] at hfit; omega
    rcases ho with o | o | o | o
    · have := g_mark L (a := 45) (by decide) (IH rest T hE hT).1
      simpa [pre, post, kP, kPo, e, o, tM, Tok.core] using this
    · have := g_not L (IH rest T hE hT)
      simpa [pre, post, kP, kPo, e, o, tM, Tok.core] using this
    · have := g_word L L.wI ⟨105, [110, 116], rfl, by decide⟩ (by decide) (StN.cons (by decide)) (g_mark L (a := 40) (by decide) (IH (41 :: rest) _ (End.cons (by decide)) (g_mark L (a := 41) (by decide) hT).1).1).1
      simpa [pre, post, kP, kPo, e, o, tM, tW, Tok.core] using this
    · have := g_word L L.wF ⟨102, [108, 111, 97, 116], rfl, by decide⟩ (by decide) (StN.cons (by decide)) (g_mark L (a := 40) (by decide) (IH (41 :: rest) _ (End.cons (by decide)) (g_mark L (a := 41) (by decide) hT).1).1).1
      simpa [pre, post, kP, kPo, e, o, tM, tW, Tok.core] using this
  · have := IH rest T hE hT
    simpa [pre, post, kP, kPo, e] using this
  · have hk : k = .nil := len0 (by simp [fitsE, e] at hfit; exact hfit.2.2.2.2.2)
    subst hk
    have := g_word L L.wp ⟨105, [110, 112, 117, 116], rfl, by decide⟩ (by decide) hE.st hT
    simpa [pre, post, kP, kPo, e, txK, kK, tW, Tok.core] using this
theorem g_par (b : Bool) (x : By) (X : List Tok) (IH : ∀ (rest : By) (T : List Co), End rest → Rd words V rest T → Gd words V (x ++ rest) (X.map Tok.core ++ T)) (rest : By) (T : List Co) (hE : End rest) (hT : Rd words V rest T) :
    Gd words V (par b x ++ rest) ((kPar b X).map Tok.core ++ T) := by
  cases b with
  | false => exact IH rest T hE hT
  | true =>
    have := g_mark L (a := 40) (by decide) (IH (41 :: rest) _ (End.cons (by decide)) (g_mark L (a := 41) (by decide) hT).1).1
    simpa [par, kPar, tM, Tok.core] using this
theorem g_kids : ∀ (k : Exs) (p : EH) (first : Bool) (hp : p.kind = 7 → 1 ≤ p.op ∧ p.op ≤ 13) (hk : errL rn cn k = 0) (hN : NnX k) (rest : By) (T : List Co), End rest → Rd words V rest T → Gd words V (txK tx p first k ++ rest) ((kK tx p first k).map Tok.core ++ T)
  | .nil, p, first, hp, hk, hN, rest, T, hE, hT => by simpa [txK, kK] using (show Gd words V rest T from ⟨hT, hE.no⟩)
  | .cons h k r, p, first, hp, hk, hN, rest, T, hE, hT => by
    obtain ⟨hR, hr⟩ := RX_kid hk
    obtain ⟨n0, n1, n2⟩ := hN
    have hq : h.kind = 7 → 1 ≤ h.op ∧ h.op ≤ 13 := by
      intro e
      have h1 := hR.1
      unfold errH at h1
      have h2 := (orE_0 h1).1
      by_cases hf : fitsE cn h k.len = true
      · simp [fitsE, e] at hf; omega
      · rw [if_neg hf] at h2; omega
    have i1 := g_kids k h true hq hR.2 n1
    have i2 := g_kids r p false hp hr n2 rest T hE hT
    have i3 := g_par L (decide (level h < kidL p first)) (Te.bare tx h k) (kB tx h k) (g_bare L h k hR n0 i1) (txK tx p false r ++ rest) _ (by
      cases r with
      | nil => simpa [txK] using hE
      | cons h' k' r' => simp only [txK, List.append_assoc]; exact sep_end p _) i2.1
    rw [txK, kK]
    cases first with
    | true => simpa [Te.bare, kB, List.append_assoc] using i3
    | false =>
      have i4 := g_sep L p hp i3.1
      simpa [Te.bare, kB, List.append_assoc] using i4
theorem g_expr (h : EH) (k : Exs) (hR : RX rn cn h k) (h0 : 0 ≤ h.vb) (hN : NnX k) (rest : By) (T : List Co) (hE : End rest) (hT : Rd words V rest T) : Gd words V (Te.bare tx h k ++ rest) ((kB tx h k).map Tok.core ++ T) := by
  refine g_bare L h k hR h0 ?_ rest T hE hT
  have hq : h.kind = 7 → 1 ≤ h.op ∧ h.op ≤ 13 := by
    intro e
    have h1 := hR.1
    unfold errH at h1
    have h2 := (orE_0 h1).1
    by_cases hf : fitsE cn h k.len = true
    · simp [fitsE, e] at hf; omega
    · rw [if_neg hf] at h2; omega
  exact g_kids L k h true hq hR.2 hN
end
end Pz
end Go.Proofs.YteijjaabngkbjaaGreatDoor
namespace Go.Proofs.YteijjaabngkbjaaGreatDoor
set_option linter.unusedSimpArgs false
set_option linter.unusedVariables false
namespace Pz
open Lx Te
theorem toks_det {words : List By} {V : Nat → By → Int × Int × Int} {p : Nat} {u : By} {ts : List Tok} (h : Toks words V p u ts) : ∀ ts', Toks words V p u ts' → ts = ts' := by
  induction h with
  | done p => intro ts' h'; exact (toks_nil words V h').symm
  | more p x r k ty b ts hk h0 hg hv h ih =>
    intro ts' h'
    generalize hu : x ++ r = u at h'
    cases h' with
    | done => simp [h0] at hu
    | more _ x' r' k' ty' b' ts' hk' h0' hg' hv' h' =>
      rw [hu, hk'] at hk
      obtain ⟨rfl, hl⟩ := Prod.mk.inj hk
      obtain ⟨rfl, rfl⟩ := List.append_inj hu hl.symm
      rw [hv] at hv'
      simp only [Prod.mk.injEq, and_true] at hv'
      rw [hv'.1, hv'.2, ih _ h']
section
variable {rn : Bs → Int} {cn : Int → Int} {tx : Int → Int → Bs} {words : List By} {V : Nat → By → Int × Int × Int}
theorem LawT.law (L : LawT rn cn tx words V) (hi : ∀ vb, 0 ≤ vb → ∃ c r, tx 1 vb = c :: r ∧ dgt c = true) : Law rn cn tx where
  nm := fun x h => (L.nm x h).1
  int := hi
  flo := fun vb h0 hl h1 h2 => by
    obtain ⟨z, e, _⟩ := L.flo vb h0 hl h1 h2
    exact ⟨48, 120 :: z, e, by decide⟩
end
end Pz
end Go.Proofs.YteijjaabngkbjaaGreatDoor
namespace Go.Proofs.YteijjaabngkbjaaGreatDoor
set_option linter.unusedSimpArgs false
set_option linter.unusedVariables false
namespace Pz
open Lx Te
def kws : List Bs := [[108, 101, 116], [105, 102], [101, 108, 115, 101], [119, 104, 105, 108, 101], [114, 101, 116, 117, 114, 110], [115, 104, 111, 119], [102, 97, 105, 108], [116, 114, 121], [99, 97, 116, 99, 104], [99, 111, 110, 115, 116], [118, 97, 114], [102, 110], [101, 120, 112, 111, 114, 116], [105, 109, 112, 111, 114, 116], [109, 111, 100, 117, 108, 101], [105, 110, 116], [102, 108, 111, 97, 116], [98, 111, 111, 108]]
section
variable {rn : Bs → Int} {cn : Int → Int} {tx : Int → Int → Bs} {words : List By} {V : Nat → By → Int × Int × Int} (L : LawT rn cn tx words V) (hw : ∀ x ∈ kws, x ∈ words)
theorem rd_pad {u : By} {T : List Co} (h : Rd words V u T) : ∀ n, Rd words V (pad n ++ u) T
  | 0 => by simpa [pad] using h
  | n + 1 => by
    have := ((rd_pad h n).blank (c := 32) (by decide)).blank (c := 32) (by decide)
    simpa [pad, List.replicate_succ] using this
include L
theorem rd_eq {u : By} {T : List Co} (h : Rd words V u T) : Rd words V (32 :: 61 :: 32 :: u) ((5, [61], 0, 0) :: T) :=
  (Rd.mark (by decide) (fun b hb => by simp at hb; subst hb; decide) (gap0 (by decide) (by decide)) (L.mrk _) (h.blank (by decide))).blank (by decide)
theorem rd_end {u : By} {T : List Co} (h : Rd words V u T) : Rd words V (59 :: 10 :: u) ((5, [59], 0, 0) :: T) := (g_mark L (by decide) (h.blank (by decide))).1
theorem rd_br {a : UInt8} (ha : a = 123 ∨ a = 125) {u : By} {T : List Co} (h : Rd words V u T) : Rd words V (a :: 10 :: u) ((5, [a], 0, 0) :: T) := (g_mark L (by rcases ha with rfl | rfl <;> decide) (h.blank (by decide))).1
include hw
theorem rd_w (x : Bs) (hx : x ∈ kws) {u : By} {T : List Co} (h : Rd words V u T) : Rd words V (x ++ 32 :: u) ((2, x, 0, 0) :: T) := by
  have h1 : (∃ c r, x = c :: r ∧ ltr c = true) ∧ x.all nmB = true := by
    simp only [kws, List.mem_cons, List.not_mem_nil, or_false] at hx
    rcases hx with rfl | rfl | rfl | rfl | rfl | rfl | rfl | rfl | rfl | rfl | rfl | rfl | rfl | rfl | rfl | rfl | rfl | rfl <;> exact ⟨⟨_, _, rfl, by decide⟩, by decide⟩
  exact (g_word L (hw x hx) h1.1 h1.2 (StN.cons (by decide)) (h.blank (by decide))).1
theorem rd_w2 (x : Bs) (hx : x ∈ kws) {u : By} {T : List Co} (hu : StN u) (h : Rd words V u T) : Rd words V (x ++ u) ((2, x, 0, 0) :: T) := by
  have h1 : (∃ c r, x = c :: r ∧ ltr c = true) ∧ x.all nmB = true := by
    simp only [kws, List.mem_cons, List.not_mem_nil, or_false] at hx
    rcases hx with rfl | rfl | rfl | rfl | rfl | rfl | rfl | rfl | rfl | rfl | rfl | rfl | rfl | rfl | rfl | rfl | rfl | rfl <;> exact ⟨⟨_, _, rfl, by decide⟩, by decide⟩
  exact (g_word L (hw x hx) h1.1 h1.2 hu h).1
omit hw in
theorem rd_f (x : EH) (k : Exs) (hE : errL rn cn (.cons x k .nil) = 0) (hN : NnX (.cons x k .nil)) {u : By} {T : List Co} (hu : End u) (h : Rd words V u T) : Rd words V (txF tx (.cons x k .nil) ++ u) ((kF tx (.cons x k .nil)).map Tok.core ++ T) :=
  (g_expr L x k (RX_kid hE).1 hN.1 hN.2.1 u T hu h).1
theorem rd_st : ∀ (s : Sts) (n : Nat) (rest : By) (T : List Co), errS rn cn s = 0 → NnS s → Rd words V rest T → Rd words V (stT tx s n ++ rest) ((kSt tx s).map Tok.core ++ T) := by
  intro s
  induction s with
  | nil => intro n rest T _ _ h; simpa [stT, kSt] using h
  | cons h e b l r ihb ihl ihr =>
    intro n rest T he hN hT
    rw [errS] at he
    obtain ⟨h1, h2⟩ := orE_0 he
    obtain ⟨hH, h3⟩ := orE_0 h1
    obtain ⟨hE, h4⟩ := orE_0 h3
    obtain ⟨hb, hl⟩ := orE_0 h4
    obtain ⟨n1, n2, n3, n4⟩ := hN
    have hr := ihr n rest T h2 n4 hT
    unfold errSH at hH
    obtain ⟨hfit, hnm⟩ := orE_0 hH
    have hfit : fitsS h e b.len l.len = true := by
      by_cases e' : fitsS h e b.len l.len = true
      · exact e'
      · rw [if_neg e'] at hfit; omega
    obtain ⟨kind, nm⟩ := h
    have hK : kind = 1 ∨ kind = 2 ∨ kind = 3 ∨ kind = 4 ∨ kind = 5 ∨ kind = 6 ∨ kind = 7 ∨ kind = 8 ∨ kind = 9 := by
      unfold fitsS at hfit
      simp only at hfit
      repeat' split at hfit
      all_goals first | omega | cases hfit
    rcases hK with rfl | rfl | rfl | rfl | rfl | rfl | rfl | rfl | rfl
    · simp [fitsS] at hfit
      obtain ⟨x, k, rfl⟩ := one_of hfit.1
      have hn : rn nm = 0 := by simpa [nameS] using hnm
      have := rd_pad (rd_w L hw [108, 101, 116] (by decide) (g_name L hn (StN.cons (by decide)) (rd_eq L (rd_f L x k hE n1 (End.cons (by decide)) (rd_end L hr)))).1) n
      simpa [stT, kSt, tW, tM, tN, Tok.core, List.append_assoc] using this
    · simp [fitsS] at hfit
      obtain ⟨x, k, rfl⟩ := one_of hfit.1
      have hn : rn nm = 0 := by simpa [nameS] using hnm
      have := rd_pad (g_name L hn (StN.cons (by decide)) (rd_eq L (rd_f L x k hE n1 (End.cons (by decide)) (rd_end L hr)))).1 n
      simpa [stT, kSt, tW, tM, tN, Tok.core, List.append_assoc] using this
    · simp [fitsS] at hfit
      obtain ⟨x, k, rfl⟩ := one_of hfit.1
      by_cases hl0 : 0 < l.len
      · have i1 := rd_pad (rd_br L (Or.inr rfl) hr) n
        have i2 := ihl (n + 1) _ _ hl n3 i1
        have i3 := rd_pad (g_mark L (a := 125) (by decide) ((rd_w L hw [101, 108, 115, 101] (by decide) (rd_br L (Or.inl rfl) i2)).blank (c := 32) (by decide))).1 n
        have i4 := ihb (n + 1) _ _ hb n2 i3
        have := rd_pad (rd_w L hw [105, 102] (by decide) (rd_f L x k hE n1 (End.cons (by decide)) ((rd_br L (Or.inl rfl) i4).blank (c := 32) (by decide)))) n
        simpa [stT, kSt, hl0, tW, tM, tN, Tok.core, List.append_assoc] using this
      · have i3 := rd_pad (rd_br L (Or.inr rfl) hr) n
        have i4 := ihb (n + 1) _ _ hb n2 i3
        have := rd_pad (rd_w L hw [105, 102] (by decide) (rd_f L x k hE n1 (End.cons (by decide)) ((rd_br L (Or.inl rfl) i4).blank (c := 32) (by decide)))) n
        simpa [stT, kSt, hl0, tW, tM, tN, Tok.core, List.append_assoc] using this
    · simp [fitsS] at hfit
      obtain ⟨x, k, rfl⟩ := one_of hfit.1
      have i3 := rd_pad (rd_br L (Or.inr rfl) hr) n
      have i4 := ihb (n + 1) _ _ hb n2 i3
      have := rd_pad (rd_w L hw [119, 104, 105, 108, 101] (by decide) (rd_f L x k hE n1 (End.cons (by decide)) ((rd_br L (Or.inl rfl) i4).blank (c := 32) (by decide)))) n
      simpa [stT, kSt, tW, tM, tN, Tok.core, List.append_assoc] using this
    · simp [fitsS] at hfit
      cases e with
      | nil =>
        have := rd_pad (rd_w2 L hw [114, 101, 116, 117, 114, 110] (by decide) (StN.cons (by decide)) (rd_end L hr)) n
        simpa [stT, kSt, kF, Exs.len, tW, tM, tN, Tok.core, List.append_assoc] using this
      | cons x k r0 =>
        obtain ⟨_, _, e1⟩ := one_of (e := .cons x k r0) (by have := hfit.1; simp [Exs.len] at this ⊢; omega)
        cases e1
        have := rd_pad (rd_w L hw [114, 101, 116, 117, 114, 110] (by decide) (rd_f L x k hE n1 (End.cons (by decide)) (rd_end L hr))) n
        simpa [stT, kSt, Exs.len, tW, tM, tN, Tok.core, List.append_assoc] using this
    · simp [fitsS] at hfit
      obtain ⟨x, k, rfl⟩ := one_of hfit.1
      have := rd_pad (rd_w L hw [115, 104, 111, 119] (by decide) (rd_f L x k hE n1 (End.cons (by decide)) (rd_end L hr))) n
      simpa [stT, kSt, tW, tM, tN, Tok.core, List.append_assoc] using this
    · simp [fitsS] at hfit
      obtain ⟨x, k, rfl⟩ := one_of hfit.1
      have := rd_pad (rd_w L hw [102, 97, 105, 108] (by decide) (rd_f L x k hE n1 (End.cons (by decide)) (rd_end L hr))) n
      simpa [stT, kSt, tW, tM, tN, Tok.core, List.append_assoc] using this
    · simp [fitsS] at hfit
      have hn : rn nm = 0 := by simpa [nameS] using hnm
      have i1 := rd_pad (rd_br L (Or.inr rfl) hr) n
      have i2 := ihl (n + 1) _ _ hl n3 i1
      have i3 := rd_pad (g_mark L (a := 125) (by decide) ((rd_w L hw [99, 97, 116, 99, 104] (by decide) (g_name L hn (StN.cons (by decide)) ((rd_br L (Or.inl rfl) i2).blank (c := 32) (by decide))).1).blank (c := 32) (by decide))).1 n
      have i4 := ihb (n + 1) _ _ hb n2 i3
      have := rd_pad (rd_w L hw [116, 114, 121] (by decide) (rd_br L (Or.inl rfl) i4)) n
      simpa [stT, kSt, tW, tM, tN, Tok.core, List.append_assoc] using this
    · simp [fitsS] at hfit
      obtain ⟨x, k, rfl⟩ := one_of hfit.1
      have := rd_pad (rd_f L x k hE n1 (End.cons (by decide)) (rd_end L hr)) n
      simpa [stT, kSt, tW, tM, tN, Tok.core, List.append_assoc] using this
end
end Pz
end Go.Proofs.YteijjaabngkbjaaGreatDoor
namespace Go.Proofs.YteijjaabngkbjaaGreatDoor
set_option linter.unusedSimpArgs false
set_option linter.unusedVariables false
namespace Pz
open Lx Te
section
variable {rn : Bs → Int} {cn : Int → Int} {tx : Int → Int → Bs} {words : List By} {V : Nat → By → Int × Int × Int} (L : LawT rn cn tx words V) (hw : ∀ x ∈ kws, x ∈ words)
include L hw
theorem rd_ty {t : Int} (ht : t = 0 ∨ isTy t = true) {u : By} {T : List Co} (hu : StN u) (h : Rd words V u T) : Rd words V (tyT t ++ u) ((kTy t).map Tok.core ++ T) ∧ StN (tyT t ++ u) := by
  have ht : t = 0 ∨ t = 1 ∨ t = 2 ∨ t = 3 := by
    rcases ht with rfl | ht
    · exact Or.inl rfl
    · exact Or.inr (isTy_c ht)
  rcases ht with rfl | rfl | rfl | rfl
  · exact ⟨h, hu⟩
  · exact ⟨(g_mark L (a := 58) (by decide) ((rd_w2 L hw [105, 110, 116] (by decide) hu h).blank (c := 32) (by decide))).1, StN.cons (by decide)⟩
  · exact ⟨(g_mark L (a := 58) (by decide) ((rd_w2 L hw [102, 108, 111, 97, 116] (by decide) hu h).blank (c := 32) (by decide))).1, StN.cons (by decide)⟩
  · exact ⟨(g_mark L (a := 58) (by decide) ((rd_w2 L hw [98, 111, 111, 108] (by decide) hu h).blank (c := 32) (by decide))).1, StN.cons (by decide)⟩
theorem rd_p1 (p : Pa) (h1 : rn p.name = 0) (h2 : isTy p.type = true) {u : By} {T : List Co} (hu : StN u) (h : Rd words V u T) : Rd words V (p.name ++ tyT p.type ++ u) ((kP1 p).map Tok.core ++ T) := by
  have i1 := rd_ty L hw (Or.inr h2) hu h
  have := (g_name L h1 i1.2 i1.1).1
  simpa [kP1, tN, Tok.core, List.append_assoc] using this
theorem rd_pa : ∀ (ps : List Pa) (hp : ∀ p ∈ ps, rn p.name = 0 ∧ isTy p.type = true) {u : By} {T : List Co} (hu : StN u) (h : Rd words V u T), Rd words V (paT ps ++ u) ((kPa ps).map Tok.core ++ T)
  | [], _, u, T, hu, h => h
  | [p], hp, u, T, hu, h => by
    have := rd_p1 L hw p (hp p (by simp)).1 (hp p (by simp)).2 hu h
    simpa [paT, kPa] using this
  | p :: q :: r, hp, u, T, hu, h => by
    have i1 := rd_pa (q :: r) (fun x hx => hp x (by simp at hx ⊢; right; exact hx)) hu h
    have i2 := (g_mark L (a := 44) (by decide) (i1.blank (c := 32) (by decide))).1
    have := rd_p1 L hw p (hp p (by simp)).1 (hp p (by simp)).2 (StN.cons (by decide)) i2
    simpa [paT, kPa, tM, Tok.core, List.append_assoc] using this
theorem rd_ex (b : Bool) {u : By} {T : List Co} (h : Rd words V u T) : Rd words V (exT b ++ u) ((kEx b).map Tok.core ++ T) := by
  cases b
  · exact h
  · exact rd_w L hw [101, 120, 112, 111, 114, 116] (by decide) h
theorem rd_ho (d : De) (h1 : isTy d.type = true) (h2 : d.e.len = 1) (h3 : rn d.name = 0) (hE : errL rn cn d.e = 0) (hN : NnX d.e) {u : By} {T : List Co} (h : Rd words V u T) : Rd words V (d.name ++ tyT d.type ++ [32, 61, 32] ++ txF tx d.e ++ [59, 10] ++ u) ((kHo tx d).map Tok.core ++ T) := by
  obtain ⟨kind', ex, nm, ty, ps, e, body⟩ := d
  simp only at h1 h2 h3 hE hN ⊢
  obtain ⟨x, k, rfl⟩ := one_of h2
  have i1 := rd_eq L (rd_f L x k hE hN (End.cons (by decide)) (rd_end L h))
  have i2 := rd_ty L hw (Or.inr h1) (StN.cons (by decide)) i1
  have := (g_name L h3 i2.2 i2.1).1
  simpa [kHo, tM, tN, Tok.core, List.append_assoc] using this
theorem rd_de (d : De) (he : errD rn cn d = 0) (hN : NnD d) {u : By} {T : List Co} (h : Rd words V u T) : Rd words V (deT tx d ++ u) ((kDe tx d).map Tok.core ++ T) := by
  obtain ⟨h1, h2, h3, h4, h5, h6, h7⟩ := errD_of he
  have hK : d.kind = 1 ∨ d.kind = 2 ∨ d.kind = 3 := by
    unfold fitsD at h2
    repeat' split at h2
    all_goals first | omega | cases h2
  rcases hK with e | e | e
  · simp [fitsD, e] at h2
    obtain ⟨t1, t2, t3, t4⟩ := h2
    have := rd_ex L hw d.ex (rd_w L hw [99, 111, 110, 115, 116] (by decide) (rd_ho L hw d t1 t2 h3 h6 hN.1 h))
    simpa [deT, kDe, e, tW, Tok.core, List.append_assoc] using this
  · simp [fitsD, e] at h2
    obtain ⟨⟨t0, t1⟩, t2, t3, t4⟩ := h2
    have := rd_w L hw [118, 97, 114] (by decide) (rd_ho L hw d t1 t2 h3 h6 hN.1 h)
    simpa [deT, kDe, e, tW, Tok.core, List.append_assoc] using this
  · simp [fitsD, e] at h2
    obtain ⟨t1, t2⟩ := h2
    have i1 := rd_st L hw d.body 1 _ _ h7 hN.2 (rd_br L (Or.inr rfl) h)
    have i2 := (rd_br L (Or.inl rfl) i1).blank (c := 32) (by decide)
    have i3 := rd_ty L hw t1 (StN.cons (by decide)) i2
    have i4 := rd_pa L hw d.params (errP_of d.params h5) (StN.cons (by decide)) (g_mark L (a := 41) (by decide) i3.1).1
    have i5 := (g_name L h3 (StN.cons (by decide)) (g_mark L (a := 40) (by decide) i4).1).1
    have := rd_ex L hw d.ex (rd_w L hw [102, 110] (by decide) i5)
    simpa [deT, kDe, kFn, e, tW, tM, tN, Tok.core, List.append_assoc] using this
theorem rd_des : ∀ (ds : List De), errDs rn cn ds = 0 → (∀ d ∈ ds, NnD d) → Rd words V (ds.flatMap (deT tx)) ((ds.flatMap (kDe tx)).map Tok.core)
  | [], _, _ => Rd.nil
  | d :: ds, he, hN => by
    rw [errDs] at he
    obtain ⟨h1, h2⟩ := orE_0 he
    have := rd_de L hw d h1 (hN d (by simp)) (rd_des ds h2 (fun x hx => hN x (by simp [hx])))
    simpa using this
theorem rd_im : ∀ (is : List Bs), errI rn is = 0 → ∀ {u : By} {T : List Co}, Rd words V u T → Rd words V (is.flatMap (fun x => [105, 109, 112, 111, 114, 116, 32] ++ x ++ [59, 10]) ++ u) ((is.flatMap kIm).map Tok.core ++ T)
  | [], _, u, T, h => h
  | x :: is, he, u, T, h => by
    rw [errI] at he
    obtain ⟨h1, h2⟩ := orE_0 he
    have := rd_w L hw [105, 109, 112, 111, 114, 116] (by decide) (g_name L h1 (StN.cons (by decide)) (rd_end L (rd_im is h2 h))).1
    simpa [kIm, tW, tM, tN, Tok.core, List.append_assoc] using this
theorem rd_mo (m : Mo) (he : errM rn cn m = 0) (hN : ∀ d ∈ m.decls, NnD d) : Rd words V (moT tx m) ((kMo tx m).map Tok.core) := by
  unfold errM at he
  obtain ⟨h1, he⟩ := orE_0 he
  obtain ⟨h2, he⟩ := orE_0 he
  obtain ⟨h3, he⟩ := orE_0 he
  obtain ⟨h4, h5⟩ := orE_0 he
  have := rd_w L hw [109, 111, 100, 117, 108, 101] (by decide) (g_name L h1 (StN.cons (by decide)) (rd_end L (rd_im L hw m.imports h3 (rd_des L hw m.decls h5 hN)))).1
  simpa [moT, kMo, tW, tM, tN, Tok.core, List.append_assoc] using this
end
end Pz
end Go.Proofs.YteijjaabngkbjaaGreatDoor
namespace Go.Proofs.YteijjaabngkbjaaGreatDoor
set_option linter.unusedSimpArgs false
set_option linter.unusedVariables false
namespace Pz
open Lx Te
section
variable {words : List By} {V : Nat → By → Int × Int × Int}
end
section
variable {rn : Bs → Int} {cn : Int → Int} {tx : Int → Int → Bs} {words : List By} {V : Nat → By → Int × Int × Int} (L : LawT rn cn tx words V) (hw : ∀ x ∈ kws, x ∈ words)
include L hw
theorem mod_one (hi : ∀ vb, 0 ≤ vb → ∃ c r, tx 1 vb = c :: r ∧ dgt c = true) (m m' : Mo) (he : errM rn cn m = 0) (hN : ∀ d ∈ m.decls, NnD d) (he' : errM rn cn m' = 0) (hN' : ∀ d ∈ m'.decls, NnD d) (h : moT tx m = moT tx m') : m = m' := by
  have h1 := rd_mo L hw m he hN
  have h2 := rd_mo L hw m' he' hN'
  rw [h] at h1
  obtain ⟨ts, a1, a2⟩ := h1 0
  obtain ⟨ts', b1, b2⟩ := h2 0
  have e := toks_det a1 _ b1
  subst e
  have c1 := parT_back (L.law hi) (fun x hx e => (L.nm x hx).2.2.1 (by rw [e]; exact hw _ (by decide))) m he hN ts a2 0
  have c2 := parT_back (L.law hi) (fun x hx e => (L.nm x hx).2.2.1 (by rw [e]; exact hw _ (by decide))) m' he' hN' ts b2 0
  rw [c1] at c2
  simpa using c2
end
end Pz
end Go.Proofs.YteijjaabngkbjaaGreatDoor
namespace Go.Proofs.YteijjaabngkbjaaGreatDoor
set_option linter.unusedSimpArgs false
set_option linter.unusedVariables false
namespace Pz
open Lx Te
def Nz {α : Type} : Ou α → Prop
  | some (.er p c) => c ≠ 0
  | _ => True
theorem Nz.ok {α : Type} {a : α} {ts : List Tok} : Nz (some (.ok a ts)) := trivial
theorem Nz.no {α : Type} : Nz (none : Ou α) := trivial
theorem Nz.bd {α β : Type} {m : Ou α} {k : α → List Tok → Ou β} (h : Nz m) (hk : ∀ a ts, Nz (k a ts)) : Nz (bd m k) := by
  rcases m with _ | ⟨a, ts⟩ | ⟨p, c⟩
  · trivial
  · exact hk a ts
  · exact h
theorem Nz.ite {α : Type} {c : Prop} [Decidable c] {a b : Ou α} (h1 : Nz a) (h2 : Nz b) : Nz (if c then a else b) := by
  split
  · exact h1
  · exact h2
theorem Nz.e3 {α : Type} {p : Nat} : Nz (some (.er p 3) : Ou α) := show (3 : Int) ≠ 0 by decide
section
variable {E : Bool → Nat → List Tok → Ou Ex} (hE : ∀ fl d ts, Nz (E fl d ts))
include hE
end
section
variable {E : Nat → List Tok → Ou Ex} {C : Nat → Ex → List Tok → Ou Ex} {B : Nat → List Tok → Ou Sts} (hE : ∀ d ts, Nz (E d ts)) (hC : ∀ d e ts, Nz (C d e ts)) (hB : ∀ d ts, Nz (B d ts))
end
section
variable {E : Nat → List Tok → Ou Ex} {B : Nat → List Tok → Ou Sts} (hE : ∀ d ts, Nz (E d ts)) (hB : ∀ d ts, Nz (B d ts)) (g : Nat)
end
end Pz
end Go.Proofs.YteijjaabngkbjaaGreatDoor
namespace Go.Proofs.YteijjaabngkbjaaGreatDoor.In
open Go.RowKit Te Go.WideShapes Go.ChangeShapes Go.ChangeAt Go.Deep
set_option linter.unusedSimpArgs false
set_option linter.unusedVariables false
theorem cells_int : Tryz.prog.cellsOf 3 = 1 := by kernel_rfl
theorem cells_bool : Tryz.prog.cellsOf 4 = 1 := by kernel_rfl
theorem cells_str : Tryz.prog.cellsOf 9 = 1 := by kernel_rfl
theorem cells_val : Tryz.prog.cellsOf 40 = 2 := by kernel_rfl
theorem cells_u64 : Tryz.prog.cellsOf 38 = 1 := by kernel_rfl
theorem cells_ex : Tryz.prog.cellsOf 59 = 7 := by kernel_rfl
theorem cells_exs : Tryz.prog.cellsOf 48 = 1 := by kernel_rfl
theorem cells_st : Tryz.prog.cellsOf 91 = 5 := by kernel_rfl
theorem cells_sts : Tryz.prog.cellsOf 49 = 1 := by kernel_rfl
theorem cells_pa : Tryz.prog.cellsOf 89 = 2 := by kernel_rfl
theorem cells_pas : Tryz.prog.cellsOf 47 = 1 := by kernel_rfl
theorem cells_de : Tryz.prog.cellsOf 51 = 7 := by kernel_rfl
theorem cells_des : Tryz.prog.cellsOf 23 = 1 := by kernel_rfl
theorem cells_strs : Tryz.prog.cellsOf 22 = 1 := by kernel_rfl
theorem cells_mo : Tryz.prog.cellsOf 25 = 3 := by kernel_rfl
theorem Addr_plain {W : World} {a : Addr} {x : Value} (h : W.cell? (a.add 0) = some x) : a.spot = none := by
  have := World.cell?_spot h
  unfold Addr.add at this
  simpa using this
theorem wf_i64 {n : Int} (h : (Lit.int .i64 n).wf = true) : I64 n := by
  have : -9223372036854775808 ≤ n ∧ n ≤ 9223372036854775807 := by simpa [Lit.wf, IntKind.min, IntKind.max, IntKind.signed, IntKind.bits] using h
  exact this
theorem wf_u64 {n : Int} (h : (Lit.int .u64 n).wf = true) : 0 ≤ n ∧ n < 18446744073709551616 := by
  have : 0 ≤ n ∧ n ≤ 18446744073709551615 := by simpa [Lit.wf, IntKind.min, IntKind.max, IntKind.signed, IntKind.bits] using h
  omega
def bkX : Exs → Nat
  | .nil => 1
  | .cons h k r => h.mod.length + h.name.length + bkX k + bkX r
def bkS : Sts → Nat
  | .nil => 1
  | .cons h e b l r => h.name.length + bkX e + bkS b + bkS l + bkS r
variable {H : Type} {enc : TypeId × Value → H} {W : World}
abbrev bulk (x : DataW H × List MemPlace) : Nat := Rows.uptoBulk x.1
theorem bulk_pos (x : DataW H × List MemPlace) : 1 ≤ bulk x := by
  unfold bulk
  cases x.1 with
  | lit l => cases l <;> simp [Rows.uptoBulk]
  | _ => simp [Rows.uptoBulk]
theorem open_sl {t e : TypeId} {fuel : Nat} {c : Value} {x : DataW H × List MemPlace} (ht : Tryz.prog.underlying t = some (.slice e)) (h : DataW.trod enc Tryz.prog W 0 (fun _ => true) true fuel t [c] = some x) :
    c = .slice none 0 0 ∨ ∃ (a : Addr) (len cap n : Nat) (el rest : List (DataW H × List MemPlace)), fuel = n + 1 ∧ c = .slice (some a) len cap ∧ len ≤ cap ∧ cap ≤ maxLen ∧ x.1 = .slice (el.map (·.1)) (rest.map (·.1)) ∧ el.length = len ∧
      ∀ i, i < len → ∃ y cs, el[i]? = some y ∧ W.cells? 0 (a.add (i * Tryz.prog.cellsOf e)) (Tryz.prog.cellsOf e) = some cs ∧ DataW.trod enc Tryz.prog W 0 (fun _ => true) true n e cs = some y := by
  rcases DataW.trod_slice ht h with ⟨h0, _⟩ | ⟨a, len, cap, el, rest, n, hn, hcs, rfl, hb, hl, hm, hlen, hel, _, _⟩
  · simp only [List.cons.injEq, and_true] at h0
    exact Or.inl h0
  · simp only [List.cons.injEq, and_true] at hcs
    refine Or.inr ⟨a, len, cap, n, el, rest, hn, hcs, hl, hm, rfl, hlen, fun i hi => ?_⟩
    have key := hel i hi
    rw [List.getElem?_eq_getElem (by omega)] at key
    obtain ⟨cs, h1, h2⟩ := Option.bind_eq_some_iff.1 key
    exact ⟨_, cs, List.getElem?_eq_getElem (by omega), h1, h2⟩
theorem bulk_drop (el : List (DataW H × List MemPlace)) (i : Nat) (y : DataW H × List MemPlace) (h : el[i]? = some y) : Rows.uptoBulkAll ((el.drop i).map (·.1)) = bulk y + Rows.uptoBulkAll ((el.drop (i + 1)).map (·.1)) := by
  have hi : i < el.length := (List.getElem?_eq_some_iff.1 h).1
  have e : el.drop i = y :: el.drop (i + 1) := by
    rw [List.drop_eq_getElem_cons hi]
    congr 1
    rw [List.getElem?_eq_getElem hi] at h
    exact Option.some.inj h
  rw [e]
  simp only [List.map_cons, Rows.uptoBulkAll]
theorem val_in {fuel : Nat} {c0 c1 : Value} {x : DataW H × List MemPlace} (h : DataW.trod enc Tryz.prog W 0 (fun _ => true) true fuel 40 [c0, c1] = some x) : ∃ t b : Int, c0 = .int .i64 t ∧ c1 = .int .u64 b ∧ I64 t ∧ 0 ≤ b ∧ b < 18446744073709551616 := by
  obtain ⟨xs, n, rfl, rfl, hlen, hxl, hf⟩ := DataW.trod_struct Tryz.underlying40 h
  have hxl : xs.length = 2 := hxl
  match xs, hxl with
  | [x0, x1], _ =>
    have f0 : DataW.trod enc Tryz.prog W 0 (fun _ => true) true n 3 [c0] = some x0 := by
      have : DataW.trod enc Tryz.prog W 0 (fun _ => true) true n 3 (([c0, c1].drop 0).take (Tryz.prog.cellsOf 3)) = some x0 := hf 0 _ rfl
      rw [cells_int] at this
      exact this
    have f1 : DataW.trod enc Tryz.prog W 0 (fun _ => true) true n 38 [c1] = some x1 := by
      have : DataW.trod enc Tryz.prog W 0 (fun _ => true) true n 38 (([c0, c1].drop 1).take (Tryz.prog.cellsOf 38)) = some x1 := hf 1 _ rfl
      rw [cells_u64] at this
      exact this
    obtain ⟨t, e0, rfl, w0⟩ := DataW.trod_int Tryz.underlying3 f0
    obtain ⟨b, e1, rfl, w1⟩ := DataW.trod_int Tryz.underlying38 f1
    exact ⟨t, b, by simpa using e0, by simpa using e1, wf_i64 w0, wf_u64 w1⟩
theorem str_ok {s : ByteArray} (h : s.size ≤ maxLen) : OkN s.data.toList := by
  have : s.data.toList.length ≤ maxLen := by rw [Array.length_toList]; exact h
  unfold maxLen at this
  unfold OkN
  omega
def ExsIn (enc : TypeId × Value → H) (W : World) (fuel : Nat) : Prop := ∀ (c : Value) (x : DataW H × List MemPlace), DataW.trod enc Tryz.prog W 0 (fun _ => true) true fuel 48 [c] = some x →
  ∃ (ao : Option Addr) (cap : Nat) (k : Exs), c = .slice ao k.len cap ∧ ExL W ao cap k ∧ OkX k ∧ bkX k ≤ bulk x
set_option maxRecDepth 20000 in
theorem expr_in {fuel : Nat} (ih : ∀ n, n < fuel → ExsIn enc W n) {cs : List Value} {x : DataW H × List MemPlace} (h : DataW.trod enc Tryz.prog W 0 (fun _ => true) true fuel 59 cs = some x) :
    ∃ (hh : EH) (ao : Option Addr) (cap : Nat) (k : Exs), cs = exC hh (.slice ao k.len cap) ∧ ExL W ao cap k ∧ OkE hh ∧ OkX k ∧ hh.mod.length + hh.name.length + bkX k ≤ bulk x := by
  obtain ⟨xs, n, rfl, rfl, hlen, hxl, hf⟩ := DataW.trod_struct Tryz.underlying59 h
  rw [cells_ex] at hlen
  match cs, hlen with
  | [c0, c1, c2, c3, c4, c5, c6], _ =>
    have hxl : xs.length = 6 := hxl
    match xs, hxl with
    | [x0, x1, x2, x3, x4, x5], _ =>
      have f0 : DataW.trod enc Tryz.prog W 0 (fun _ => true) true n 3 [c0] = some x0 := by
        have : DataW.trod enc Tryz.prog W 0 (fun _ => true) true n 3 (([c0, c1, c2, c3, c4, c5, c6].drop 0).take (Tryz.prog.cellsOf 3)) = some x0 := hf 0 _ rfl
        rw [cells_int] at this
        exact this
      have f1 : DataW.trod enc Tryz.prog W 0 (fun _ => true) true n 3 [c1] = some x1 := by
        have : DataW.trod enc Tryz.prog W 0 (fun _ => true) true n 3 (([c0, c1, c2, c3, c4, c5, c6].drop 1).take (Tryz.prog.cellsOf 3)) = some x1 := hf 1 _ rfl
        rw [cells_int] at this
        exact this
      have f2 : DataW.trod enc Tryz.prog W 0 (fun _ => true) true n 9 [c2] = some x2 := by
        have : DataW.trod enc Tryz.prog W 0 (fun _ => true) true n 9 (([c0, c1, c2, c3, c4, c5, c6].drop 2).take (Tryz.prog.cellsOf 9)) = some x2 := hf 2 _ rfl
        rw [cells_str] at this
        exact this
      have f3 : DataW.trod enc Tryz.prog W 0 (fun _ => true) true n 9 [c3] = some x3 := by
        have : DataW.trod enc Tryz.prog W 0 (fun _ => true) true n 9 (([c0, c1, c2, c3, c4, c5, c6].drop 3).take (Tryz.prog.cellsOf 9)) = some x3 := hf 3 _ rfl
        rw [cells_str] at this
        exact this
      have f4 : DataW.trod enc Tryz.prog W 0 (fun _ => true) true n 40 [c4, c5] = some x4 := by
        have : DataW.trod enc Tryz.prog W 0 (fun _ => true) true n 40 (([c0, c1, c2, c3, c4, c5, c6].drop 4).take (Tryz.prog.cellsOf 40)) = some x4 := hf 4 _ rfl
        rw [cells_val] at this
        exact this
      have f5 : DataW.trod enc Tryz.prog W 0 (fun _ => true) true n 48 [c6] = some x5 := by
        have : DataW.trod enc Tryz.prog W 0 (fun _ => true) true n 48 (([c0, c1, c2, c3, c4, c5, c6].drop 6).take (Tryz.prog.cellsOf 48)) = some x5 := hf 5 _ rfl
        rw [cells_exs] at this
        exact this
      obtain ⟨z0, e0, rfl, w0⟩ := DataW.trod_int Tryz.underlying3 f0
      obtain rfl : c0 = .int .i64 z0 := by simpa using e0
      obtain ⟨z1, e1, rfl, w1⟩ := DataW.trod_int Tryz.underlying3 f1
      obtain rfl : c1 = .int .i64 z1 := by simpa using e1
      obtain ⟨z2, e2, rfl, w2⟩ := DataW.trod_string Tryz.underlying9 f2
      obtain rfl : c2 = .string z2 := by simpa using e2
      have y2 : OkN z2.data.toList := str_ok w2
      obtain ⟨z3, e3, rfl, w3⟩ := DataW.trod_string Tryz.underlying9 f3
      obtain rfl : c3 = .string z3 := by simpa using e3
      have y3 : OkN z3.data.toList := str_ok w3
      obtain ⟨t4, b4, rfl, rfl, v41, v42, v43⟩ := val_in f4
      obtain ⟨ao, cap, k, rfl, hL, hO, hB⟩ := ih n (by omega) _ _ f5
      refine ⟨⟨z0, z1, z2.data.toList, z3.data.toList, t4, b4⟩, ao, cap, k, by simp [exC, ci, ct], hL, ⟨wf_i64 w0, wf_i64 w1, v41, v42, v43, y2, y3⟩, hO, ?_⟩
      simp only [bulk, Rows.uptoBulk, Rows.uptoBulkAll, List.map_cons, List.map_nil] at hB ⊢
      omega
theorem exs_step (fuel : Nat) (ih : ∀ n, n < fuel → ExsIn enc W n) : ExsIn enc W fuel := by
  intro c x h
  rcases open_sl Tryz.underlying48 h with rfl | ⟨a, len, cap, n, el, rest, hn, rfl, hl, hm, hx, hlen, hel⟩
  · refine ⟨none, 0, .nil, rfl, ⟨by simp [Exs.len], by simp [maxLen], Or.inl rfl⟩, trivial, ?_⟩
    have : 1 ≤ bulk x := bulk_pos _
    simpa [bkX] using this
  · rw [cells_ex] at hel
    have hpl : 0 < len → a.spot = none := by
      intro h0
      obtain ⟨y, cs, _, hc, ht⟩ := hel 0 h0
      obtain ⟨hh, ao, cap', k, rfl, _⟩ := expr_in (fun m hm => ih m (by omega)) ht
      obtain ⟨_, _, hcc⟩ := World.cells?_some hc
      have := hcc 0 (by omega)
      rw [show a.add (0 * 7) = a by simp [Addr.add]] at this
      exact Addr_plain (this.trans rfl)
    have key : ∀ (m i : Nat), i + m = len → ∃ r : Exs, r.len = m ∧ ExA W r a.block (a.off + i * 7) ∧ OkX r ∧ bkX r ≤ Rows.uptoBulkAll ((el.drop i).map (·.1)) + 1 := by
      intro m
      induction m with
      | zero => intro i _; exact ⟨.nil, rfl, trivial, trivial, by simp [bkX]⟩
      | succ m ihm =>
        intro i hi
        obtain ⟨r, r1, r2, r3, r4⟩ := ihm (i + 1) (by omega)
        obtain ⟨y, cs, hy, hc, ht⟩ := hel i (by omega)
        obtain ⟨hh, ao, cap', k, rfl, k1, k2, k3, k4⟩ := expr_in (fun m hm => ih m (by omega)) ht
        obtain ⟨_, _, hcc⟩ := World.cells?_some hc
        have hsp := hpl (by omega)
        refine ⟨.cons hh k r, by simp [Exs.len, r1], ⟨⟨ao, cap', fun j u hu => ?_, k1.1, k1.2.1, k1.2.2⟩, ?_⟩, ⟨k2, k3, r3⟩, ?_⟩
        · have hj : j < 7 := (List.getElem?_eq_some_iff.1 hu).1
          have := hcc j hj
          rw [hu] at this
          obtain ⟨b, off, spot⟩ := a
          simp only at hsp
          subst hsp
          rw [Addr.add_lit, Addr.add_lit] at this
          exact this
        · rw [show a.off + i * 7 + 7 = a.off + (i + 1) * 7 by omega]
          exact r2
        · rw [bulk_drop el i y hy]
          simp only [bkX]
          omega
    obtain ⟨r, r1, r2, r3, r4⟩ := key len 0 (by omega)
    refine ⟨some a, cap, r, by rw [r1], ⟨by rw [r1]; exact hl, hm, ?_⟩, r3, ?_⟩
    · by_cases h0 : len = 0
      · left; rw [r1, h0]
      · right
        have hsp := hpl (by omega)
        obtain ⟨b, off, spot⟩ := a
        simp only at hsp
        subst hsp
        exact ⟨b, off, rfl, by simpa using r2⟩
    · simp only [bulk, hx, Rows.uptoBulk]
      simp only [List.drop_zero] at r4
      omega
theorem exs_in (fuel : Nat) : ExsIn enc W fuel := by
  induction fuel using Nat.strongRecOn with
  | _ fuel ih => exact exs_step fuel ih
def StsIn (enc : TypeId × Value → H) (W : World) (fuel : Nat) : Prop := ∀ (c : Value) (x : DataW H × List MemPlace), DataW.trod enc Tryz.prog W 0 (fun _ => true) true fuel 49 [c] = some x →
  ∃ (ao : Option Addr) (cap : Nat) (k : Sts), c = .slice ao k.len cap ∧ StL W ao cap k ∧ OkS k ∧ bkS k ≤ bulk x
set_option maxRecDepth 20000 in
theorem stmt_in {fuel : Nat} (ih : ∀ n, n < fuel → StsIn enc W n) {cs : List Value} {x : DataW H × List MemPlace} (h : DataW.trod enc Tryz.prog W 0 (fun _ => true) true fuel 91 cs = some x) :
    ∃ (hh : SH) (ao1 : Option Addr) (cap1 : Nat) (e : Exs) (ao2 : Option Addr) (cap2 : Nat) (b : Sts) (ao3 : Option Addr) (cap3 : Nat) (l : Sts), cs = stC hh (.slice ao1 e.len cap1) (.slice ao2 b.len cap2) (.slice ao3 l.len cap3) ∧ ExL W ao1 cap1 e ∧ StL W ao2 cap2 b ∧ StL W ao3 cap3 l ∧
      I64 hh.kind ∧ OkN hh.name ∧ OkX e ∧ OkS b ∧ OkS l ∧ hh.name.length + bkX e + bkS b + bkS l ≤ bulk x := by
  obtain ⟨xs, n, rfl, rfl, hlen, hxl, hf⟩ := DataW.trod_struct Tryz.underlying91 h
  rw [cells_st] at hlen
  match cs, hlen with
  | [c0, c1, c2, c3, c4], _ =>
    have hxl : xs.length = 5 := hxl
    match xs, hxl with
    | [x0, x1, x2, x3, x4], _ =>
      have f0 : DataW.trod enc Tryz.prog W 0 (fun _ => true) true n 3 [c0] = some x0 := by
        have : DataW.trod enc Tryz.prog W 0 (fun _ => true) true n 3 (([c0, c1, c2, c3, c4].drop 0).take (Tryz.prog.cellsOf 3)) = some x0 := hf 0 _ rfl
        rw [cells_int] at this
        exact this
      have f1 : DataW.trod enc Tryz.prog W 0 (fun _ => true) true n 9 [c1] = some x1 := by
        have : DataW.trod enc Tryz.prog W 0 (fun _ => true) true n 9 (([c0, c1, c2, c3, c4].drop 1).take (Tryz.prog.cellsOf 9)) = some x1 := hf 1 _ rfl
        rw [cells_str] at this
        exact this
      have f2 : DataW.trod enc Tryz.prog W 0 (fun _ => true) true n 48 [c2] = some x2 := by
        have : DataW.trod enc Tryz.prog W 0 (fun _ => true) true n 48 (([c0, c1, c2, c3, c4].drop 2).take (Tryz.prog.cellsOf 48)) = some x2 := hf 2 _ rfl
        rw [cells_exs] at this
        exact this
      have f3 : DataW.trod enc Tryz.prog W 0 (fun _ => true) true n 49 [c3] = some x3 := by
        have : DataW.trod enc Tryz.prog W 0 (fun _ => true) true n 49 (([c0, c1, c2, c3, c4].drop 3).take (Tryz.prog.cellsOf 49)) = some x3 := hf 3 _ rfl
        rw [cells_sts] at this
        exact this
      have f4 : DataW.trod enc Tryz.prog W 0 (fun _ => true) true n 49 [c4] = some x4 := by
        have : DataW.trod enc Tryz.prog W 0 (fun _ => true) true n 49 (([c0, c1, c2, c3, c4].drop 4).take (Tryz.prog.cellsOf 49)) = some x4 := hf 4 _ rfl
        rw [cells_sts] at this
        exact this
      obtain ⟨z0, e0, rfl, w0⟩ := DataW.trod_int Tryz.underlying3 f0
      obtain rfl : c0 = .int .i64 z0 := by simpa using e0
      obtain ⟨z1, e1, rfl, w1⟩ := DataW.trod_string Tryz.underlying9 f1
      obtain rfl : c1 = .string z1 := by simpa using e1
      have y1 : OkN z1.data.toList := str_ok w1
      obtain ⟨ao1, cap1, e, rfl, a1, a2, a3⟩ := exs_in n _ _ f2
      obtain ⟨ao2, cap2, b, rfl, b1, b2, b3⟩ := ih n (by omega) _ _ f3
      obtain ⟨ao3, cap3, l, rfl, l1, l2, l3⟩ := ih n (by omega) _ _ f4
      refine ⟨⟨z0, z1.data.toList⟩, ao1, cap1, e, ao2, cap2, b, ao3, cap3, l, by simp [stC, ci, ct], a1, b1, l1, wf_i64 w0, y1, a2, b2, l2, ?_⟩
      simp only [bulk, Rows.uptoBulk, Rows.uptoBulkAll, List.map_cons, List.map_nil] at a3 b3 l3 ⊢
      omega
theorem sts_step (fuel : Nat) (ih : ∀ n, n < fuel → StsIn enc W n) : StsIn enc W fuel := by
  intro c x h
  rcases open_sl Tryz.underlying49 h with rfl | ⟨a, len, cap, n, el, rest, hn, rfl, hl, hm, hx, hlen, hel⟩
  · refine ⟨none, 0, .nil, rfl, ⟨by simp [Sts.len], by simp [maxLen], Or.inl rfl⟩, trivial, ?_⟩
    have : 1 ≤ bulk x := bulk_pos _
    simpa [bkS] using this
  · rw [cells_st] at hel
    have hpl : 0 < len → a.spot = none := by
      intro h0
      obtain ⟨y, cs, _, hc, ht⟩ := hel 0 h0
      obtain ⟨hh, ao1, cap1, e, ao2, cap2, b, ao3, cap3, l, rfl, _⟩ := stmt_in (fun m hm => ih m (by omega)) ht
      obtain ⟨_, _, hcc⟩ := World.cells?_some hc
      have := hcc 0 (by omega)
      rw [show a.add (0 * 5) = a by simp [Addr.add]] at this
      exact Addr_plain (this.trans rfl)
    have key : ∀ (m i : Nat), i + m = len → ∃ r : Sts, r.len = m ∧ StA W r a.block (a.off + i * 5) ∧ OkS r ∧ bkS r ≤ Rows.uptoBulkAll ((el.drop i).map (·.1)) + 1 := by
      intro m
      induction m with
      | zero => intro i _; exact ⟨.nil, rfl, trivial, trivial, by simp [bkS]⟩
      | succ m ihm =>
        intro i hi
        obtain ⟨r, r1, r2, r3, r4⟩ := ihm (i + 1) (by omega)
        obtain ⟨y, cs, hy, hc, ht⟩ := hel i (by omega)
        obtain ⟨hh, ao1, cap1, e, ao2, cap2, b, ao3, cap3, l, rfl, k1, k2, k3, k4, k5, k6, k7, k8, k9⟩ := stmt_in (fun m hm => ih m (by omega)) ht
        obtain ⟨_, _, hcc⟩ := World.cells?_some hc
        have hsp := hpl (by omega)
        refine ⟨.cons hh e b l r, by simp [Sts.len, r1], ⟨⟨ao1, cap1, ao2, cap2, ao3, cap3, fun j u hu => ?_, k1, k2, k3⟩, ?_⟩, ⟨k4, k5, k6, k7, k8, r3⟩, ?_⟩
        · have hj : j < 5 := (List.getElem?_eq_some_iff.1 hu).1
          have := hcc j hj
          rw [hu] at this
          obtain ⟨b, off, spot⟩ := a
          simp only at hsp
          subst hsp
          rw [Addr.add_lit, Addr.add_lit] at this
          exact this
        · rw [show a.off + i * 5 + 5 = a.off + (i + 1) * 5 by omega]
          exact r2
        · rw [bulk_drop el i y hy]
          simp only [bkS]
          omega
    obtain ⟨r, r1, r2, r3, r4⟩ := key len 0 (by omega)
    refine ⟨some a, cap, r, by rw [r1], ⟨by rw [r1]; exact hl, hm, ?_⟩, r3, ?_⟩
    · by_cases h0 : len = 0
      · left; rw [r1, h0]
      · right
        have hsp := hpl (by omega)
        obtain ⟨b, off, spot⟩ := a
        simp only at hsp
        subst hsp
        exact ⟨b, off, rfl, by simpa using r2⟩
    · simp only [bulk, hx, Rows.uptoBulk]
      simp only [List.drop_zero] at r4
      omega
theorem sts_in (fuel : Nat) : StsIn enc W fuel := by
  induction fuel using Nat.strongRecOn with
  | _ fuel ih => exact sts_step fuel ih
set_option maxRecDepth 20000 in
theorem pa_in {fuel : Nat} {cs : List Value} {x : DataW H × List MemPlace} (h : DataW.trod enc Tryz.prog W 0 (fun _ => true) true fuel 89 cs = some x) : ∃ pp : Pa, cs = paC pp ∧ OkN pp.name ∧ I64 pp.type ∧ pp.name.length + 1 ≤ bulk x := by
  obtain ⟨xs, n, rfl, rfl, hlen, hxl, hf⟩ := DataW.trod_struct Tryz.underlying89 h
  rw [cells_pa] at hlen
  match cs, hlen with
  | [c0, c1], _ =>
    have hxl : xs.length = 2 := hxl
    match xs, hxl with
    | [x0, x1], _ =>
      have f0 : DataW.trod enc Tryz.prog W 0 (fun _ => true) true n 9 [c0] = some x0 := by
        have : DataW.trod enc Tryz.prog W 0 (fun _ => true) true n 9 (([c0, c1].drop 0).take (Tryz.prog.cellsOf 9)) = some x0 := hf 0 _ rfl
        rw [cells_str] at this
        exact this
      have f1 : DataW.trod enc Tryz.prog W 0 (fun _ => true) true n 3 [c1] = some x1 := by
        have : DataW.trod enc Tryz.prog W 0 (fun _ => true) true n 3 (([c0, c1].drop 1).take (Tryz.prog.cellsOf 3)) = some x1 := hf 1 _ rfl
        rw [cells_int] at this
        exact this
      obtain ⟨z0, e0, rfl, w0⟩ := DataW.trod_string Tryz.underlying9 f0
      obtain rfl : c0 = .string z0 := by simpa using e0
      have y0 : OkN z0.data.toList := str_ok w0
      obtain ⟨z1, e1, rfl, w1⟩ := DataW.trod_int Tryz.underlying3 f1
      obtain rfl : c1 = .int .i64 z1 := by simpa using e1
      refine ⟨⟨z0.data.toList, z1⟩, by simp [paC, ci, ct], y0, wf_i64 w1, ?_⟩
      simp only [bulk, Rows.uptoBulk, Rows.uptoBulkAll, List.map_cons, List.map_nil]
      omega
theorem pas_in {fuel : Nat} {c : Value} {x : DataW H × List MemPlace} (h : DataW.trod enc Tryz.prog W 0 (fun _ => true) true fuel 47 [c] = some x) :
    ∃ (ao : Option Addr) (cap : Nat) (l : List Pa), c = .slice ao l.length cap ∧ PaL W ao cap l ∧ (∀ p ∈ l, OkN p.name ∧ I64 p.type) ∧ (l.map (fun p => p.name.length + 1)).sum ≤ bulk x := by
  rcases open_sl Tryz.underlying47 h with rfl | ⟨a, len, cap, n, el, rest, hn, rfl, hl, hm, hx, hlen, hel⟩
  · exact ⟨none, 0, [], rfl, ⟨by simp, by simp [maxLen], Or.inl rfl⟩, by simp, by simp⟩
  · rw [cells_pa] at hel
    have hpl : 0 < len → a.spot = none := by
      intro h0
      obtain ⟨y, cs, _, hc, ht⟩ := hel 0 h0
      obtain ⟨pp, rfl, _⟩ := pa_in ht
      obtain ⟨_, _, hcc⟩ := World.cells?_some hc
      have := hcc 0 (by omega)
      rw [show a.add (0 * 2) = a by simp [Addr.add]] at this
      exact Addr_plain (this.trans rfl)
    have key : ∀ (m i : Nat), i + m = len → ∃ r : List Pa, r.length = m ∧ (∀ (j : Nat) (p : Pa), r[j]? = some p → ∀ (j2 : Nat) (u : Value), (paC p)[j2]? = some u → W.cell? ⟨a.block, a.off + (i + j) * 2 + j2, none⟩ = some u) ∧ (∀ p ∈ r, OkN p.name ∧ I64 p.type) ∧ (r.map (fun p => p.name.length + 1)).sum ≤ Rows.uptoBulkAll ((el.drop i).map (·.1)) := by
      intro m
      induction m with
      | zero => intro i _; exact ⟨[], rfl, by simp, by simp, by simp⟩
      | succ m ihm =>
        intro i hi
        obtain ⟨r, r1, r2, r3, r4⟩ := ihm (i + 1) (by omega)
        obtain ⟨y, cs, hy, hc, ht⟩ := hel i (by omega)
        obtain ⟨pp, rfl, q1, q2, q3⟩ := pa_in ht
        obtain ⟨_, _, hcc⟩ := World.cells?_some hc
        have hsp := hpl (by omega)
        refine ⟨pp :: r, by simp [r1], fun j p hj => ?_, ?_, ?_⟩
        · cases j with
          | zero =>
            obtain rfl : pp = p := by simpa using hj
            intro j u hu
            have hj : j < 2 := (List.getElem?_eq_some_iff.1 hu).1
            have := hcc j hj
            rw [hu] at this
            obtain ⟨b, off, spot⟩ := a
            simp only at hsp
            subst hsp
            rw [Addr.add_lit, Addr.add_lit] at this
            rw [show i + 0 = i by omega]
            exact this
          | succ j =>
            have := r2 j p (by simpa using hj)
            rw [show i + 1 + j = i + (j + 1) by omega] at this
            exact this
        · intro p hp
          rcases List.mem_cons.1 hp with rfl | hp
          · exact ⟨q1, q2⟩
          · exact r3 p hp
        · rw [bulk_drop el i y hy]
          simp only [List.map_cons, List.sum_cons]
          omega
    obtain ⟨r, r1, r2, r3, r4⟩ := key len 0 (by omega)
    refine ⟨some a, cap, r, by rw [r1], ⟨by rw [r1]; exact hl, hm, ?_⟩, r3, ?_⟩
    · by_cases h0 : len = 0
      · left; exact List.eq_nil_of_length_eq_zero (by rw [r1, h0])
      · right
        have hsp := hpl (by omega)
        obtain ⟨b, off, spot⟩ := a
        simp only at hsp
        subst hsp
        refine ⟨b, off, rfl, fun i p hp => ?_⟩
        have := r2 i p hp
        simpa using this
    · simp only [bulk, hx, Rows.uptoBulk]
      simp only [List.drop_zero] at r4
      omega
theorem str_in {fuel : Nat} {cs : List Value} {x : DataW H × List MemPlace} (h : DataW.trod enc Tryz.prog W 0 (fun _ => true) true fuel 9 cs = some x) : ∃ pp : Bs, cs = [ct pp] ∧ OkN pp ∧ pp.length + 1 ≤ bulk x := by
  obtain ⟨z0, rfl, rfl, w0⟩ := DataW.trod_string Tryz.underlying9 h
  exact ⟨z0.data.toList, by simp [ct], str_ok w0, by simp [bulk, Rows.uptoBulk]⟩
theorem strs_in {fuel : Nat} {c : Value} {x : DataW H × List MemPlace} (h : DataW.trod enc Tryz.prog W 0 (fun _ => true) true fuel 22 [c] = some x) :
    ∃ (ao : Option Addr) (cap : Nat) (l : List Bs), c = .slice ao l.length cap ∧ SvL W ao cap l ∧ (∀ p ∈ l, OkN p) ∧ (l.map (fun p => p.length + 1)).sum ≤ bulk x := by
  rcases open_sl Tryz.underlying22 h with rfl | ⟨a, len, cap, n, el, rest, hn, rfl, hl, hm, hx, hlen, hel⟩
  · exact ⟨none, 0, [], rfl, ⟨by simp, by simp [maxLen], Or.inl rfl⟩, by simp, by simp⟩
  · rw [cells_str] at hel
    have hpl : 0 < len → a.spot = none := by
      intro h0
      obtain ⟨y, cs, _, hc, ht⟩ := hel 0 h0
      obtain ⟨pp, rfl, _⟩ := str_in ht
      obtain ⟨_, _, hcc⟩ := World.cells?_some hc
      have := hcc 0 (by omega)
      rw [show a.add (0 * 1) = a by simp [Addr.add]] at this
      exact Addr_plain (this.trans rfl)
    have key : ∀ (m i : Nat), i + m = len → ∃ r : List Bs, r.length = m ∧ (∀ (j : Nat) (p : Bs), r[j]? = some p → ∀ (j2 : Nat) (u : Value), [ct p][j2]? = some u → W.cell? ⟨a.block, a.off + (i + j) * 1 + j2, none⟩ = some u) ∧ (∀ p ∈ r, OkN p) ∧ (r.map (fun p => p.length + 1)).sum ≤ Rows.uptoBulkAll ((el.drop i).map (·.1)) := by
      intro m
      induction m with
      | zero => intro i _; exact ⟨[], rfl, by simp, by simp, by simp⟩
      | succ m ihm =>
        intro i hi
        obtain ⟨r, r1, r2, r3, r4⟩ := ihm (i + 1) (by omega)
        obtain ⟨y, cs, hy, hc, ht⟩ := hel i (by omega)
        obtain ⟨pp, rfl, q1, q3⟩ := str_in ht
        obtain ⟨_, _, hcc⟩ := World.cells?_some hc
        have hsp := hpl (by omega)
        refine ⟨pp :: r, by simp [r1], fun j p hj => ?_, ?_, ?_⟩
        · cases j with
          | zero =>
            obtain rfl : pp = p := by simpa using hj
            intro j u hu
            have hj : j < 1 := (List.getElem?_eq_some_iff.1 hu).1
            have := hcc j hj
            rw [hu] at this
            obtain ⟨b, off, spot⟩ := a
            simp only at hsp
            subst hsp
            rw [Addr.add_lit, Addr.add_lit] at this
            rw [show i + 0 = i by omega]
            exact this
          | succ j =>
            have := r2 j p (by simpa using hj)
            rw [show i + 1 + j = i + (j + 1) by omega] at this
            exact this
        · intro p hp
          rcases List.mem_cons.1 hp with rfl | hp
          · exact q1
          · exact r3 p hp
        · rw [bulk_drop el i y hy]
          simp only [List.map_cons, List.sum_cons]
          omega
    obtain ⟨r, r1, r2, r3, r4⟩ := key len 0 (by omega)
    refine ⟨some a, cap, r, by rw [r1], ⟨by rw [r1]; exact hl, hm, ?_⟩, r3, ?_⟩
    · by_cases h0 : len = 0
      · left; exact List.eq_nil_of_length_eq_zero (by rw [r1, h0])
      · right
        have hsp := hpl (by omega)
        obtain ⟨b, off, spot⟩ := a
        simp only at hsp
        subst hsp
        refine ⟨b, off, rfl, fun i p hp => ?_⟩
        have := r2 i p hp
        have := this 0 _ rfl
        simpa using this
    · simp only [bulk, hx, Rows.uptoBulk]
      simp only [List.drop_zero] at r4
      omega
set_option maxRecDepth 20000 in
theorem de_in {fuel : Nat} {cs : List Value} {x : DataW H × List MemPlace} (h : DataW.trod enc Tryz.prog W 0 (fun _ => true) true fuel 51 cs = some x) : ∃ (pp : De) (pv ev bv : Value), cs = deC pp pv ev bv ∧ DeI W pp pv ev bv ∧ OkD pp ∧ pp.name.length + (pp.params.map fun p => p.name.length + 1).sum + bkX pp.e + bkS pp.body + 1 ≤ bulk x := by
  obtain ⟨xs, n, rfl, rfl, hlen, hxl, hf⟩ := DataW.trod_struct Tryz.underlying51 h
  rw [cells_de] at hlen
  match cs, hlen with
  | [c0, c1, c2, c3, c4, c5, c6], _ =>
    have hxl : xs.length = 7 := hxl
    match xs, hxl with
    | [x0, x1, x2, x3, x4, x5, x6], _ =>
      have f0 : DataW.trod enc Tryz.prog W 0 (fun _ => true) true n 3 [c0] = some x0 := by
        have : DataW.trod enc Tryz.prog W 0 (fun _ => true) true n 3 (([c0, c1, c2, c3, c4, c5, c6].drop 0).take (Tryz.prog.cellsOf 3)) = some x0 := hf 0 _ rfl
        rw [cells_int] at this
        exact this
      have f1 : DataW.trod enc Tryz.prog W 0 (fun _ => true) true n 4 [c1] = some x1 := by
        have : DataW.trod enc Tryz.prog W 0 (fun _ => true) true n 4 (([c0, c1, c2, c3, c4, c5, c6].drop 1).take (Tryz.prog.cellsOf 4)) = some x1 := hf 1 _ rfl
        rw [cells_bool] at this
        exact this
      have f2 : DataW.trod enc Tryz.prog W 0 (fun _ => true) true n 9 [c2] = some x2 := by
        have : DataW.trod enc Tryz.prog W 0 (fun _ => true) true n 9 (([c0, c1, c2, c3, c4, c5, c6].drop 2).take (Tryz.prog.cellsOf 9)) = some x2 := hf 2 _ rfl
        rw [cells_str] at this
        exact this
      have f3 : DataW.trod enc Tryz.prog W 0 (fun _ => true) true n 3 [c3] = some x3 := by
        have : DataW.trod enc Tryz.prog W 0 (fun _ => true) true n 3 (([c0, c1, c2, c3, c4, c5, c6].drop 3).take (Tryz.prog.cellsOf 3)) = some x3 := hf 3 _ rfl
        rw [cells_int] at this
        exact this
      have f4 : DataW.trod enc Tryz.prog W 0 (fun _ => true) true n 47 [c4] = some x4 := by
        have : DataW.trod enc Tryz.prog W 0 (fun _ => true) true n 47 (([c0, c1, c2, c3, c4, c5, c6].drop 4).take (Tryz.prog.cellsOf 47)) = some x4 := hf 4 _ rfl
        rw [cells_pas] at this
        exact this
      have f5 : DataW.trod enc Tryz.prog W 0 (fun _ => true) true n 48 [c5] = some x5 := by
        have : DataW.trod enc Tryz.prog W 0 (fun _ => true) true n 48 (([c0, c1, c2, c3, c4, c5, c6].drop 5).take (Tryz.prog.cellsOf 48)) = some x5 := hf 5 _ rfl
        rw [cells_exs] at this
        exact this
      have f6 : DataW.trod enc Tryz.prog W 0 (fun _ => true) true n 49 [c6] = some x6 := by
        have : DataW.trod enc Tryz.prog W 0 (fun _ => true) true n 49 (([c0, c1, c2, c3, c4, c5, c6].drop 6).take (Tryz.prog.cellsOf 49)) = some x6 := hf 6 _ rfl
        rw [cells_sts] at this
        exact this
      obtain ⟨z0, e0, rfl, w0⟩ := DataW.trod_int Tryz.underlying3 f0
      obtain rfl : c0 = .int .i64 z0 := by simpa using e0
      obtain ⟨z1, e1, rfl⟩ := DataW.trod_bool Tryz.underlying4 f1
      obtain rfl : c1 = .bool z1 := by simpa using e1
      obtain ⟨z2, e2, rfl, w2⟩ := DataW.trod_string Tryz.underlying9 f2
      obtain rfl : c2 = .string z2 := by simpa using e2
      have y2 : OkN z2.data.toList := str_ok w2
      obtain ⟨z3, e3, rfl, w3⟩ := DataW.trod_int Tryz.underlying3 f3
      obtain rfl : c3 = .int .i64 z3 := by simpa using e3
      obtain ⟨ao1, cap1, l, rfl, a1, a2, a3⟩ := pas_in f4
      obtain ⟨ao2, cap2, e, rfl, b1, b2, b3⟩ := exs_in n _ _ f5
      obtain ⟨ao3, cap3, b, rfl, d1, d2, d3⟩ := sts_in n _ _ f6
      refine ⟨⟨z0, z1, z2.data.toList, z3, l, e, b⟩, .slice ao1 l.length cap1, .slice ao2 e.len cap2, .slice ao3 b.len cap3, by simp [deC, ci, ct], ⟨ao1, cap1, ao2, cap2, ao3, cap3, rfl, rfl, rfl, a1, b1, d1⟩, ⟨wf_i64 w0, wf_i64 w3, y2, a2, b2, d2⟩, ?_⟩
      simp only [bulk, Rows.uptoBulk, Rows.uptoBulkAll, List.map_cons, List.map_nil] at a3 b3 d3 ⊢
      omega
def bkD (d : De) : Nat := d.name.length + (d.params.map fun p => p.name.length + 1).sum + bkX d.e + bkS d.body + 1
theorem des_in {fuel : Nat} {c : Value} {x : DataW H × List MemPlace} (h : DataW.trod enc Tryz.prog W 0 (fun _ => true) true fuel 23 [c] = some x) :
    ∃ (ao : Option Addr) (cap : Nat) (l : List De), c = .slice ao l.length cap ∧ DeL W ao cap l ∧ (∀ p ∈ l, OkD p) ∧ (l.map bkD).sum ≤ bulk x := by
  rcases open_sl Tryz.underlying23 h with rfl | ⟨a, len, cap, n, el, rest, hn, rfl, hl, hm, hx, hlen, hel⟩
  · exact ⟨none, 0, [], rfl, ⟨by simp, by simp [maxLen], Or.inl rfl⟩, by simp, by simp⟩
  · rw [cells_de] at hel
    have hpl : 0 < len → a.spot = none := by
      intro h0
      obtain ⟨y, cs, _, hc, ht⟩ := hel 0 h0
      obtain ⟨pp, pv, ev, bv, rfl, _⟩ := de_in ht
      obtain ⟨_, _, hcc⟩ := World.cells?_some hc
      have := hcc 0 (by omega)
      rw [show a.add (0 * 7) = a by simp [Addr.add]] at this
      exact Addr_plain (this.trans rfl)
    have key : ∀ (m i : Nat), i + m = len → ∃ r : List De, r.length = m ∧ (∀ (j : Nat) (p : De), r[j]? = some p → ∃ pv ev bv, DeI W p pv ev bv ∧ ∀ (j2 : Nat) (u : Value), (deC p pv ev bv)[j2]? = some u → W.cell? ⟨a.block, a.off + (i + j) * 7 + j2, none⟩ = some u) ∧ (∀ p ∈ r, OkD p) ∧ (r.map bkD).sum ≤ Rows.uptoBulkAll ((el.drop i).map (·.1)) := by
      intro m
      induction m with
      | zero => intro i _; exact ⟨[], rfl, by simp, by simp, by simp⟩
      | succ m ihm =>
        intro i hi
        obtain ⟨r, r1, r2, r3, r4⟩ := ihm (i + 1) (by omega)
        obtain ⟨y, cs, hy, hc, ht⟩ := hel i (by omega)
        obtain ⟨pp, pv, ev, bv, rfl, q0, q1, q3⟩ := de_in ht
        obtain ⟨_, _, hcc⟩ := World.cells?_some hc
        have hsp := hpl (by omega)
        refine ⟨pp :: r, by simp [r1], fun j p hj => ?_, ?_, ?_⟩
        · cases j with
          | zero =>
            obtain rfl : pp = p := by simpa using hj
            refine ⟨pv, ev, bv, q0, fun j u hu => ?_⟩
            have hj : j < 7 := (List.getElem?_eq_some_iff.1 hu).1
            have := hcc j hj
            rw [hu] at this
            obtain ⟨b, off, spot⟩ := a
            simp only at hsp
            subst hsp
            rw [Addr.add_lit, Addr.add_lit] at this
            rw [show i + 0 = i by omega]
            exact this
          | succ j =>
            have := r2 j p (by simpa using hj)
            rw [show i + 1 + j = i + (j + 1) by omega] at this
            exact this
        · intro p hp
          rcases List.mem_cons.1 hp with rfl | hp
          · exact q1
          · exact r3 p hp
        · rw [bulk_drop el i y hy]
          simp only [List.map_cons, List.sum_cons]
          unfold bkD at *
          omega
    obtain ⟨r, r1, r2, r3, r4⟩ := key len 0 (by omega)
    refine ⟨some a, cap, r, by rw [r1], ⟨by rw [r1]; exact hl, hm, ?_⟩, r3, ?_⟩
    · by_cases h0 : len = 0
      · left; exact List.eq_nil_of_length_eq_zero (by rw [r1, h0])
      · right
        have hsp := hpl (by omega)
        obtain ⟨b, off, spot⟩ := a
        simp only at hsp
        subst hsp
        refine ⟨b, off, rfl, fun i p hp => ?_⟩
        have := r2 i p hp
        simpa using this
    · simp only [bulk, hx, Rows.uptoBulk]
      simp only [List.drop_zero] at r4
      omega
set_option maxRecDepth 20000 in
theorem mo_in {fuel : Nat} {cs : List Value} {x : DataW H × List MemPlace} (h : DataW.trod enc Tryz.prog W 0 (fun _ => true) true fuel 25 cs = some x) : ∃ (m : Mo), MoI W m (.agg cs.toArray) ∧ OkM m ∧ m.name.length + (m.imports.map fun p => p.length + 1).sum + (m.decls.map bkD).sum + 1 ≤ bulk x := by
  obtain ⟨xs, n, rfl, rfl, hlen, hxl, hf⟩ := DataW.trod_struct Tryz.underlying25 h
  rw [cells_mo] at hlen
  match cs, hlen with
  | [c0, c1, c2], _ =>
    have hxl : xs.length = 3 := hxl
    match xs, hxl with
    | [x0, x1, x2], _ =>
      have f0 : DataW.trod enc Tryz.prog W 0 (fun _ => true) true n 9 [c0] = some x0 := by
        have : DataW.trod enc Tryz.prog W 0 (fun _ => true) true n 9 (([c0, c1, c2].drop 0).take (Tryz.prog.cellsOf 9)) = some x0 := hf 0 _ rfl
        rw [cells_str] at this
        exact this
      have f1 : DataW.trod enc Tryz.prog W 0 (fun _ => true) true n 22 [c1] = some x1 := by
        have : DataW.trod enc Tryz.prog W 0 (fun _ => true) true n 22 (([c0, c1, c2].drop 1).take (Tryz.prog.cellsOf 22)) = some x1 := hf 1 _ rfl
        rw [cells_strs] at this
        exact this
      have f2 : DataW.trod enc Tryz.prog W 0 (fun _ => true) true n 23 [c2] = some x2 := by
        have : DataW.trod enc Tryz.prog W 0 (fun _ => true) true n 23 (([c0, c1, c2].drop 2).take (Tryz.prog.cellsOf 23)) = some x2 := hf 2 _ rfl
        rw [cells_des] at this
        exact this
      obtain ⟨z0, e0, rfl, w0⟩ := DataW.trod_string Tryz.underlying9 f0
      obtain rfl : c0 = .string z0 := by simpa using e0
      have y0 : OkN z0.data.toList := str_ok w0
      obtain ⟨ao1, cap1, l, rfl, a1, a2, a3⟩ := strs_in f1
      obtain ⟨ao2, cap2, d, rfl, b1, b2, b3⟩ := des_in f2
      refine ⟨⟨z0.data.toList, l, d⟩, ⟨ao1, cap1, ao2, cap2, by simp [moV, ct], a1, b1⟩, ⟨y0, a2, b2⟩, ?_⟩
      simp only [bulk, Rows.uptoBulk, Rows.uptoBulkAll, List.map_cons, List.map_nil] at a3 b3 ⊢
      omega
theorem mo_arg {fuel : Nat} {v : Value} {x : DataW H × List MemPlace} (h : DataW.trod enc Tryz.prog W 0 (fun _ => true) true fuel 25 v.cells.toList = some x) : ∃ (m : Mo), MoI W m v ∧ OkM m ∧ m.name.length + (m.imports.map fun p => p.length + 1).sum + (m.decls.map bkD).sum + 1 ≤ bulk x := by
  have hl : v.cells.toList.length = 3 := by
    obtain ⟨xs, n, _, _, hlen, _⟩ := DataW.trod_struct Tryz.underlying25 h
    rw [cells_mo] at hlen
    exact hlen
  have hv : v = .agg v.cells.toList.toArray := by
    cases v with
    | agg cs => simp [Value.cells]
    | _ => simp [Value.cells] at hl
  have := mo_in h
  rw [← hv] at this
  exact this
end Go.Proofs.YteijjaabngkbjaaGreatDoor.In
namespace Go.Proofs.YteijjaabngkbjaaGreatDoor
open Go.RowKit Te
set_option linter.unusedSimpArgs false
set_option linter.unusedVariables false
def SameL (k : Exs) : Prop := ∀ (k2 : Exs) (ao ao2 : Option Addr) (cap cap2 : Nat) (w : World), ExL w ao cap k → ExL w ao2 cap2 k2 →
  Calls Tryz.prog 54 #[.slice ao k.len cap, .slice ao2 k2.len cap2, .func (.func 55) #[] #[]] w fun e w' => e = .returned (.bool (decide (k = k2))) ∧ Fr (fun _ => False) w w'
def SameX (h : EH) (k : Exs) : Prop := ∀ (h2 : EH) (k2 : Exs) (ao ao2 : Option Addr) (cap cap2 : Nat) (w : World), ExL w ao cap k → ExL w ao2 cap2 k2 →
  Calls Tryz.prog 55 #[exV h (.slice ao k.len cap), exV h2 (.slice ao2 k2.len cap2)] w fun e w' => e = .returned (.bool (decide (h = h2 ∧ k = k2))) ∧ Fr (fun _ => False) w w'
theorem ret_b {x y : Bool} (h : x = y) : Ending.returned (.bool x) = .returned (.bool y) := by rw [h]
set_option maxRecDepth 20000 in
set_option maxHeartbeats 4000000 in
theorem sameX_step (h : EH) (k : Exs) (hL : SameL k) : SameX h k := by
  intro h2 k2 ao ao2 cap cap2 w e1 e2
  by_cases hh : h = h2
  · subst hh
    obtain ⟨kind, op, mod, name, vt, vb⟩ := h
    have f0 : Fr (fun _ => False) w ((w.alloc (.cells #[ci kind, ci op, ct mod, ct name, ci vt, .int .u64 vb, .slice ao k.len cap] 59)).alloc (.cells #[ci kind, ci op, ct mod, ct name, ci vt, .int .u64 vb, .slice ao2 k2.len cap2] 59)) := (Fr.alloc _ _ _).same (Fr.alloc _ _ _)
    have kq := hL k2 ao ao2 cap cap2 _ (e1.keep f0) (e2.keep f0)
    rw [show decide ((⟨kind, op, mod, name, vt, vb⟩ : EH) = ⟨kind, op, mod, name, vt, vb⟩ ∧ k = k2) = decide (k = k2) by simp]
    generalize decide (k = k2) = r at kq
    go_enter Tryz.func55, Tryz.ntmps55
    go_wp2_with (go_at_call 54; refine kq.mono ?_; rintro e w1 ⟨rfl, f1⟩)
    go_ret
    exact ⟨rfl, f0.same f1⟩
  · obtain ⟨kind, op, mod, name, vt, vb⟩ := h
    obtain ⟨kind2, op2, mod2, name2, vt2, vb2⟩ := h2
    have hhH : Hidden (¬ (kind = kind2 ∧ op = op2 ∧ mod = mod2 ∧ name = name2 ∧ vt = vt2 ∧ vb = vb2)) := by
      intro hc
      apply hh
      obtain ⟨rfl, rfl, rfl, rfl, rfl, rfl⟩ := hc
      rfl
    rw [show decide ((⟨kind, op, mod, name, vt, vb⟩ : EH) = ⟨kind2, op2, mod2, name2, vt2, vb2⟩ ∧ k = k2) = false by simp only [decide_eq_false_iff_not]; exact fun hc => hh hc.1]
    clear hh
    go_enter Tryz.func55, Tryz.ntmps55
    go_wp2_with fail
    all_goals (first
      | (go_ret
         exact ⟨rfl, (Fr.alloc _ _ _).same (Fr.alloc _ _ _)⟩)
      | (exfalso
         apply (show ¬ _ from hhH)
         try simp only [Bool.and_eq_true, beq_iff_eq] at *
         simp [*]
         done))
set_option maxRecDepth 20000 in
set_option maxHeartbeats 4000000 in
theorem sameL_step (k : Exs) (ih : ∀ h' k', k'.size < k.size → SameX h' k') : SameL k := by
  intro k2 ao ao2 cap cap2 w e1 e2
  have r1 := e1.rest
  have r2 := e2.rest
  have l1 : k.len ≤ 9223372036854775807 := by have := e1.1; have := e1.2.1; unfold maxLen at this; omega
  have l2 : k2.len ≤ 9223372036854775807 := by have := e2.1; have := e2.2.1; unfold maxLen at this; omega
  have m1 := e1.1
  have m2 := e2.1
  obtain ⟨R, hR⟩ : ∃ R, decide (k = k2) = R := ⟨_, rfl⟩
  rw [hR]
  have hRH : Hidden (decide (k = k2) = R) := hR
  clear hR
  by_cases hlen : k.len = k2.len
  · have hne : ((k.len : Int) != (k2.len : Int)) = false := by simp [hlen]
    have hlenH : Hidden (k.len = k2.len) := hlen
    clear hlen
    go_enter Tryz.func54, Tryz.ntmps54
    go_wp2_with fail
    go_loopg [17] k.len (fun g iv wr => ∃ (i : Nat) (r q : Exs), iv = ci (i : Int) ∧ i + r.len = k.len ∧ i + q.len = k2.len ∧ r.size ≤ k.size ∧ ExR w ao i r ∧ ExR w ao2 i q ∧ R = decide (r = q) ∧ g = r.len ∧ Fr (fun _ => False) w wr)
    case atStart => exact ⟨0, k, k2, rfl, by omega, by omega, Nat.le_refl _, r1, r2, (show _ = R from hRH).symm, rfl, Fr.refl _ _⟩
    case round =>
      obtain ⟨i, r, q, rfl, hl1, hl2, hsize, hrow, hrow2, hdk, hgk, hfr⟩ := hrel
      have hgkH : Hidden (gk = r.len) := hgk
      have hdkH : Hidden (R = decide (r = q)) := hdk
      have hl1H : Hidden (i + r.len = k.len) := hl1
      have hl2H : Hidden (i + q.len = k2.len) := hl2
      clear hgk hdk hl1 hl2 r1 r2
      cases r with
      | nil =>
        have hi : i = k.len := hl1H
        have hq : q.len = 0 := by have : i + q.len = k2.len := hl2H; have : k.len = k2.len := hlenH; omega
        have hq0 : q = .nil := by
          cases q with
          | nil => rfl
          | cons _ _ _ => simp [Exs.len] at hq
        have hres : Hidden (true = R) := by rw [show R = _ from hdkH, hq0]; rfl
        clear hq hq0 hrow2 hrow
        subst hi
        go_wp2_with fail
        go_ret
        exact ⟨ret_b hres, hfr⟩
      | cons h' k' r' =>
        cases q with
        | nil =>
          exfalso
          have a1 : i + (r'.len + 1) = k.len := hl1H
          have a2 : i + 0 = k2.len := hl2H
          have a3 : k.len = k2.len := hlenH
          omega
        | cons h'' k'' r'' =>
          have hil : i < k.len := by have : i + (r'.len + 1) = k.len := hl1H; omega
          have hil2 : i < k2.len := by have : i + (r''.len + 1) = k2.len := hl2H; omega
          obtain ⟨b, off, ao', cap', rfl, hL, hn1, d0, d1, d2, d3, d4, d5, d6⟩ := hrow.next
          obtain ⟨b', off', ao'', cap'', rfl, hL2, hn2, c0, c1, c2, c3, c4, c5, c6⟩ := hrow2.next
          have d0 := hfr.cellN d0
          have d1 := hfr.cellN d1
          have d2 := hfr.cellN d2
          have d3 := hfr.cellN d3
          have d4 := hfr.cellN d4
          have d5 := hfr.cellN d5
          have d6 := hfr.cellN d6
          have fa := Fr.alloc (fun _ => False) wr (.cells #[ci h'.kind, ci h'.op, ct h'.mod, ct h'.name, ci h'.vt, .int .u64 h'.vb, .slice ao' k'.len cap'] 59)
          have ff := hfr.same fa
          have c0 := ff.cellN c0
          have c1 := ff.cellN c1
          have c2 := ff.cellN c2
          have c3 := ff.cellN c3
          have c4 := ff.cellN c4
          have c5 := ff.cellN c5
          have c6 := ff.cellN c6
          have fb := Fr.alloc (fun _ => False) (wr.alloc (.cells #[ci h'.kind, ci h'.op, ct h'.mod, ct h'.name, ci h'.vt, .int .u64 h'.vb, .slice ao' k'.len cap'] 59)) (.cells #[ci h''.kind, ci h''.op, ct h''.mod, ct h''.name, ci h''.vt, .int .u64 h''.vb, .slice ao'' k''.len cap''] 59)
          obtain ⟨x0, x1, x2, x3, x4, x5, x6⟩ := ex_box (fb.heap (alloc_new wr (.cells #[ci h'.kind, ci h'.op, ct h'.mod, ct h'.name, ci h'.vt, .int .u64 h'.vb, .slice ao' k'.len cap'] 59)) (fun f => f))
          have f2 := ff.same fb
          simp only [Exs.size] at hsize
          have ke := ih h' k' (by omega) h'' k'' ao' ao'' cap' cap'' _ (hL.keep f2) (hL2.keep f2)
          have hdk2 : Hidden (R = (decide (h' = h'' ∧ k' = k'') && decide (r' = r''))) := by
            show R = _
            rw [show R = _ from hdkH, Bool.eq_iff_iff]
            simp [and_assoc]
          generalize decide (h' = h'' ∧ k' = k'') = sb at ke hdk2
          cases sb
          · have hres : Hidden (false = R) := (show R = false from hdk2).symm
            clear hdkH hdk2
            go_wp2_with fail
            go_at_call 55
            refine ke.mono ?_
            rintro e w3 ⟨rfl, f3⟩
            go_wp2_with fail
            go_ret
            exact ⟨ret_b hres, f2.same f3⟩
          · clear hdkH
            go_wp2_with fail
            go_at_call 55
            refine ke.mono ?_
            rintro e w3 ⟨rfl, f3⟩
            go_wp2_with fail
            go_roundg r'.len
            case measure =>
              have : gk = r'.len + 1 := hgkH
              omega
            case rel =>
              refine ⟨i + 1, r', r'', by go_num, ?_, ?_, by omega, hn1, hn2, hdk2, rfl, f2.same f3⟩
              · have : i + (r'.len + 1) = k.len := hl1H
                omega
              · have : i + (r''.len + 1) = k2.len := hl2H
                omega
  · have hne : ((k.len : Int) != (k2.len : Int)) = true := by rw [bne_iff_ne]; omega
    have hres : Hidden (false = R) := by
      rw [← (show _ = R from hRH)]
      show false = decide (k = k2)
      symm
      simp only [decide_eq_false_iff_not]
      intro hc
      exact hlen (by rw [hc])
    clear hlen
    go_enter Tryz.func54, Tryz.ntmps54
    go_wp2_with fail
    go_ret
    exact ⟨ret_b hres, Fr.refl _ _⟩
theorem sameL_any (k : Exs) : SameL k := by
  have : ∀ (n : Nat) (k : Exs), k.size < n → SameL k := by
    intro n
    induction n with
    | zero => intro k hk; omega
    | succ n ih => intro k hk; exact sameL_step k (fun h' k' hk' => sameX_step h' k' (ih k' (by omega)))
  exact this (k.size + 1) k (by omega)
end Go.Proofs.YteijjaabngkbjaaGreatDoor
