/- Texts of ours, in one. -/
import Derived.Test.YtoiglopilpoafaaGreatDoorPk29
import Derived.Test.YtoiglopilpoafaaGreatDoorPk20
import Derived.Test.YtoiglopilpoafaaGreatDoorPk4
import Derived.Test.YtoiglopilpoafaaGreatDoorPk13
import Derived.Test.YtoiglopilpoafaaGreatDoorPk10
import Derived.Deep.RegionHeld3
import Derived.OwnWalk
namespace Go.Proofs.YtoiglopilpoafaaGreatDoor.Im
open Go.RowKit Ty Cd
set_option linter.unusedSimpArgs false
set_option linter.unusedVariables false

/-- What is left of the bytes; none: it has failed. -/
abbrev Lf := Option Bs
def rdN (k : Nat) : Lf → Nat × Lf
  | none => (0, none)
  | some r => if k ≤ r.length then (numGo 0 (r.take k), some (r.drop k)) else (0, none)
def rdB : Lf → UInt8 × Lf
  | some (c :: r) => (c, some r)
  | _ => (0, none)
def rdL (s : Lf) : Nat × Lf := rdN 8 s
def rdI (s : Lf) : Nat × Lf := if (rdN 4 s).1 < 2147483648 then rdN 4 s else (0, none)
def rdR (most : Nat) (s : Lf) : Bs × Lf := match (rdI s).2 with
  | none => ([], none)
  | some r => if (rdI s).1 ≤ most ∧ (rdI s).1 ≤ r.length then (r.take (rdI s).1, some (r.drop (rdI s).1)) else ([], none)
def rdMany {α : Type} (take : Lf → α × Lf) : Nat → Lf → List α × Lf
  | 0, s => ([], s)
  | _ + 1, none => ([], none)
  | n + 1, some r => ((take (some r)).1 :: (rdMany take n (take (some r)).2).1, (rdMany take n (take (some r)).2).2)
def rdY (s : Lf) : Int × Lf := (((rdB s).1.toNat : Int), (rdB s).2)
def rdT (s : Lf) : List Int × Lf := rdMany rdY (rdB s).1.toNat (rdB s).2
def rdV (s : Lf) : (Int × Int) × Lf := (((rdY s).1, ((rdL (rdY s).2).1 : Int)), (rdL (rdY s).2).2)
def rdF (s : Lf) : Fu × Lf :=
  (⟨⟨(rdT s).1, (rdY (rdT s).2).1⟩, (rdT (rdY (rdT s).2).2).1, (decS (rdR 65536 (rdT (rdY (rdT s).2).2).2).1).2⟩, (rdR 65536 (rdT (rdY (rdT s).2).2).2).2)
def rdM (s : Lf) : Lf := (rdB (rdB (rdB (rdB s).2).2).2).2
def rdVs (s : Lf) : List (Int × Int) × Lf := rdMany rdV (rdI s).1 (rdI s).2
def rdFs (s : Lf) : List Fu × Lf := rdMany rdF (rdI s).1 (rdI s).2
/-- What the bytes are read as. -/
def rdG (b : Bs) : Ig := ⟨(rdVs (rdM (some b))).1, (rdFs (rdVs (rdM (some b))).2).1, ((rdI (rdFs (rdVs (rdM (some b))).2).2).1 : Int)⟩

theorem numGo_beX (n k a : Nat) : numGo a (be k n) = a * 256 ^ k + n % 256 ^ k := by simpa [numGo] using Cd.numGo_be k n a []
theorem take_l {a b : Bs} {n : Nat} (h : a.length = n) : (a ++ b).take n = a := by rw [← h]; exact List.take_left
theorem drop_l {a b : Bs} {n : Nat} (h : a.length = n) : (a ++ b).drop n = b := by rw [← h]; exact List.drop_left
theorem rdN_be (k n : Nat) (r : Bs) (h : n < 256 ^ k) : rdN k (some (be k n ++ r)) = (n, some r) := by
  have hl := be_len k n
  unfold rdN
  simp only []
  rw [if_pos (by rw [List.length_append]; omega), take_l hl, drop_l hl, numGo_beX, Nat.mod_eq_of_lt h]
  simp
theorem rdI_be (n : Nat) (r : Bs) (h : n < 2147483648) : rdI (some (be 4 n ++ r)) = (n, some r) := by
  unfold rdI
  rw [rdN_be 4 n r (by omega), if_pos h]
theorem rdL_be (n : Nat) (r : Bs) (h : n < 18446744073709551616) : rdL (some (be 8 n ++ r)) = (n, some r) := rdN_be 8 n r (by omega)
theorem u8_nat {x : Int} (h : 0 ≤ x ∧ x < 256) : ((u8 x).toNat : Int) = x := by
  unfold u8
  rw [UInt8.toNat_ofNat']
  omega
theorem rdY_u8 (x : Int) (r : Bs) (h : 0 ≤ x ∧ x < 256) : rdY (some (u8 x :: r)) = (x, some r) := by
  show (((u8 x).toNat : Int), some r) = _
  rw [u8_nat h]
theorem rdMany_wr {α : Type} {take : Lf → α × Lf} {wr : α → Bs} {P : α → Prop} (h : ∀ a r, P a → take (some (wr a ++ r)) = (a, some r)) : ∀ (l : List α) (r : Bs), (∀ a ∈ l, P a) → rdMany take l.length (some (l.flatMap wr ++ r)) = (l, some r)
  | [], r, _ => rfl
  | a :: l, r, hp => by
    have ih := rdMany_wr h l r (fun x hx => hp x (List.mem_cons_of_mem _ hx))
    rw [List.flatMap_cons, List.append_assoc, List.length_cons, rdMany, h a _ (hp a List.mem_cons_self)]
    simp only []
    rw [ih]
theorem rdT_wr (l : List Int) (r : Bs) (h : l.length < 256 ∧ ∀ x ∈ l, 0 ≤ x ∧ x < 256) : rdT (some (wrT l ++ r)) = (l, some r) := by
  have e : (UInt8.ofNat l.length).toNat = l.length := by rw [UInt8.toNat_ofNat']; omega
  have := rdMany_wr (wr := fun x => [u8 x]) (fun a r (h : 0 ≤ a ∧ a < 256) => rdY_u8 a r h) l r h.2
  unfold wrT rdT
  rw [List.append_assoc]
  show rdMany rdY (UInt8.ofNat l.length).toNat (some (l.flatMap (fun x => [u8 x]) ++ r)) = _
  rw [e]
  exact this
theorem rdV_wr (v : Int × Int) (r : Bs) (h : (0 ≤ v.1 ∧ v.1 < 256) ∧ 0 ≤ v.2 ∧ v.2 < 18446744073709551616) : rdV (some (wrV v ++ r)) = (v, some r) := by
  obtain ⟨t, b⟩ := v
  have e1 : rdY (some (wrV (t, b) ++ r)) = (t, some (be 8 b.toNat ++ r)) := rdY_u8 t _ h.1
  have e2 := rdL_be b.toNat r (by have := h.2; simp only [] at this; omega)
  unfold rdV
  rw [e1]
  simp only []
  rw [e2]
  simp only [Prod.mk.injEq, and_true, true_and]
  have := h.2
  simp only [] at this
  omega
theorem rdR_wr (b r : Bs) (h : b.length ≤ 65536) : rdR 65536 (some (be 4 b.length ++ b ++ r)) = (b, some r) := by
  have e := rdI_be b.length (b ++ r) (by omega)
  unfold rdR
  rw [List.append_assoc, e]
  simp only []
  rw [if_pos ⟨h, by rw [List.length_append]; omega⟩, take_l rfl, drop_l rfl]
theorem decS_enc {l : List In} (h : OkC l) : decS (encS l) = (0, l) := by
  unfold decS
  have := decGo_enc l ((encS l).length + 1) [] h.1 (by omega) (by simpa using h.2)
  simpa using this
theorem rdF_wr (f : Fu) (r : Bs) (h : OkFn f) : rdF (some (wrF f ++ r)) = (f, some r) := by
  obtain ⟨⟨ps, res⟩, loc, cd⟩ := f
  have e0 : wrF ⟨⟨ps, res⟩, loc, cd⟩ ++ r = wrT ps ++ (u8 res :: (wrT loc ++ (be 4 (encS cd).length ++ encS cd ++ r))) := by
    unfold wrF wrC
    simp only [List.append_assoc, List.cons_append, List.nil_append]
  have e1 := rdT_wr ps (u8 res :: (wrT loc ++ (be 4 (encS cd).length ++ encS cd ++ r))) h.ps
  have e2 := rdY_u8 res (wrT loc ++ (be 4 (encS cd).length ++ encS cd ++ r)) h.res
  have e3 := rdT_wr loc (be 4 (encS cd).length ++ encS cd ++ r) h.loc
  have e4 := rdR_wr (encS cd) r (by have h1 := encS_le cd; have h2 := h.cd.2; simp only [] at h2; omega)
  unfold rdF
  rw [e0, e1]
  simp only []
  rw [e2]
  simp only []
  rw [e3]
  simp only []
  rw [e4]
  simp only []
  rw [decS_enc h.cd]
/-- Of the bytes of a right image it is that. -/
theorem rdG_wr {i : Ig} (h : RtI i) : rdG (wrI i) = i := by
  obtain ⟨vars, fns, mn⟩ := i
  have ok := h.ok
  obtain ⟨h1, h2, _, h4, _⟩ := right_G h.right
  simp only [] at h1 h2
  have hm : 0 ≤ mn ∧ mn.toNat < fns.length := by
    unfold beginsI at h4
    simp only [Bool.and_eq_true, decide_eq_true_eq] at h4
    refine ⟨h4.1, ?_⟩
    cases hx : fns[mn.toNat]? with
    | none => rw [hx] at h4; exact absurd h4.2 (by simp)
    | some f => exact (List.getElem?_eq_some_iff.1 hx).1
  have e0 : rdM (some (wrI ⟨vars, fns, mn⟩)) = some (be 4 vars.length ++ (vars.flatMap wrV ++ (be 4 fns.length ++ (fns.flatMap wrF ++ (be 4 mn.toNat ++ []))))) := by
    unfold wrI wrB
    simp only [List.append_assoc, List.append_nil]
    rfl
  have e1 : rdVs (rdM (some (wrI ⟨vars, fns, mn⟩))) = (vars, some (be 4 fns.length ++ (fns.flatMap wrF ++ (be 4 mn.toNat ++ [])))) := by
    unfold rdVs
    rw [e0, rdI_be _ _ (by omega)]
    exact rdMany_wr rdV_wr vars _ ok.vars.2
  have e2 : rdFs (rdVs (rdM (some (wrI ⟨vars, fns, mn⟩)))).2 = (fns, some (be 4 mn.toNat ++ [])) := by
    rw [e1]
    unfold rdFs
    simp only []
    rw [rdI_be _ _ (by omega)]
    exact rdMany_wr rdF_wr fns _ ok.fns.2
  unfold rdG
  rw [e2, e1]
  simp only []
  rw [rdI_be _ _ (by omega)]
  simp only [Ig.mk.injEq, true_and]
  omega
def innerS (b : Bs) : Bs := b.take (b.length - 4)
/-- What Unpack answers: the error, and the image where there is none. -/
def unE (b : Bs) : Int := if 65536 < b.length then 3 else if b.length < 4 ∨ b.drop (b.length - 4) ≠ sealS (innerS b) then 53 else if rightG (rdG (innerS b)) ≠ 0 ∨ wrI (rdG (innerS b)) ≠ innerS b then 53 else 0
def igNo : Ig := ⟨[], [], 0⟩
def unG (b : Bs) : Ig := if unE b = 0 then rdG (innerS b) else igNo
theorem rdMany_all {α : Type} {take : Lf → α × Lf} {P : α → Prop} (h : ∀ s, P (take s).1) : ∀ (n : Nat) (s : Lf), ∀ a ∈ (rdMany take n s).1, P a
  | 0, s, a, ha => by cases ha
  | n + 1, none, a, ha => by cases ha
  | n + 1, some r, a, ha => by
    rw [rdMany] at ha
    rcases List.mem_cons.1 ha with rfl | ha
    · exact h _
    · exact rdMany_all h n _ a ha
theorem rdN_lt (k : Nat) (s : Lf) : (rdN k s).1 < 256 ^ k := by
  cases s with
  | none => exact Nat.pow_pos (by decide)
  | some r =>
    unfold rdN
    simp only []
    split
    · rename_i h
      have := Cd.numGo_lt (r.take k) 0
      rw [List.length_take, Nat.min_eq_left h] at this
      simpa using this
    · exact Nat.pow_pos (by decide)
theorem rdI_lt (s : Lf) : (rdI s).1 < 2147483648 := by
  unfold rdI
  split
  · assumption
  · decide
theorem dec_ok {b : Bs} (h : (decS b).1 = 0) : ∀ i ∈ (decS b).2, rightS i = true ∧ U64 i.b := by
  obtain ⟨l, h1, h2, h3, h4⟩ := decGo_ok (b.length + 1) [] b (decS b).2 (by omega) (by unfold decS at h ⊢; exact Prod.ext h rfl) (by simp)
  rw [List.nil_append] at h1
  rw [h1]
  exact h3
theorem dec_all (b : Bs) : ∀ i ∈ (decS b).2, rightS i = true ∧ U64 i.b := by
  by_cases h : (decS b).1 = 0
  · exact dec_ok h
  · rw [show (decS b).2 = [] from decGo_err (b.length + 1) [] b (by omega) h]
    intro i hi
    cases hi
theorem dec_len (b : Bs) : (decS b).2.length ≤ 4096 := by
  by_cases h : (decS b).1 = 0
  · obtain ⟨l, h1, h2, h3, h4⟩ := decGo_ok (b.length + 1) [] b (decS b).2 (by omega) (by unfold decS at h ⊢; exact Prod.ext h rfl) (by simp)
    exact h4
  · rw [show (decS b).2 = [] from decGo_err (b.length + 1) [] b (by omega) h]
    simp
theorem hi_le (op : Int) : hi op ≤ 65535 := by
  unfold hi
  repeat' split
  all_goals omega
theorem okIn_of {i : In} (h : rightS i = true ∧ U64 i.b) : OkIn i := by
  obtain ⟨h1, h2, h3, h4⟩ := right_parts h.1
  have hl := lo_pos i.op
  have hh := hi_le i.op
  have ho : 1 ≤ i.op ∧ i.op ≤ 17 := by simpa [known] using h1
  refine ⟨⟨by omega, by omega⟩, ⟨by omega, by omega⟩, ?_, h.2⟩
  have ht : 0 ≤ i.t ∧ i.t < 256 := by
    by_cases e : i.op = 1
    · rw [if_pos e] at h2
      exact val_byte (Or.inr (right_val h2))
    · rw [if_neg e] at h2
      simp only [Bool.and_eq_true, beq_iff_eq] at h2
      omega
  exact ⟨by omega, by omega⟩
theorem rdF_code (s : Lf) : ∀ i ∈ (rdF s).1.cd, rightS i = true ∧ U64 i.b := dec_all _
theorem rdV_bits (s : Lf) : 0 ≤ (rdV s).1.2 ∧ (rdV s).1.2 < 18446744073709551616 := by
  have := rdN_lt 8 (rdY s).2
  show 0 ≤ ((rdL (rdY s).2).1 : Int) ∧ ((rdL (rdY s).2).1 : Int) < _
  unfold rdL
  omega
theorem rdG_bits (b : Bs) : ∀ v ∈ (rdG b).vars, 0 ≤ v.2 ∧ v.2 < 18446744073709551616 := rdMany_all rdV_bits _ _
theorem rdG_code (b : Bs) : ∀ f ∈ (rdG b).fns, ∀ i ∈ f.cd, rightS i = true ∧ U64 i.b := rdMany_all rdF_code _ _
theorem rdG_rt {b : Bs} (h : rightG (rdG b) = 0) : RtI (rdG b) := ⟨h, rdG_bits b, fun f hf i hi => (rdG_code b f hf i hi).2⟩
theorem unE_rt {b : Bs} (h : unE b = 0) : RtI (unG b) ∧ b = packS (unG b) ∧ b.length ≤ 65536 := by
  have hg : unG b = rdG (innerS b) := by unfold unG; rw [if_pos h]
  rw [hg]
  unfold unE at h
  by_cases h1 : 65536 < b.length
  · rw [if_pos h1] at h; cases h
  rw [if_neg h1] at h
  by_cases h2 : b.length < 4 ∨ b.drop (b.length - 4) ≠ sealS (innerS b)
  · rw [if_pos h2] at h; cases h
  rw [if_neg h2] at h
  by_cases h3 : rightG (rdG (innerS b)) ≠ 0 ∨ wrI (rdG (innerS b)) ≠ innerS b
  · rw [if_pos h3] at h; cases h
  simp only [not_or, Decidable.not_not, ne_eq] at h2 h3
  refine ⟨rdG_rt h3.1, ?_, by omega⟩
  unfold packS
  rw [h3.2, ← h2.2]
  exact (List.take_append_drop _ _).symm
theorem unE_ok (b : Bs) : unE b = 0 ↔ IsI b := by
  constructor
  · intro h
    obtain ⟨h1, h2, h3⟩ := unE_rt h
    exact ⟨_, h1, h2, h3⟩
  · rintro ⟨i, hi, hb, hl⟩
    have h4 := seal_len (wrI i)
    have hlen : b.length = (wrI i).length + 4 := by rw [hb]; unfold packS; rw [List.length_append, h4]
    have hin : innerS b = wrI i := by
      unfold innerS
      rw [show b.length - 4 = (wrI i).length by omega, hb]
      exact take_l rfl
    have hdr : b.drop (b.length - 4) = sealS (wrI i) := by
      rw [show b.length - 4 = (wrI i).length by omega, hb]
      exact drop_l rfl
    unfold unE
    rw [if_neg (by omega), if_neg (by rw [hin, hdr]; simp; omega), if_neg (by rw [hin, rdG_wr hi]; simp [hi.right])]
theorem unG_pack {i : Ig} (hi : RtI i) (hl : (packS i).length ≤ 65536) : unE (packS i) = 0 ∧ unG (packS i) = i := by
  have h0 : unE (packS i) = 0 := (unE_ok _).2 ⟨i, hi, rfl, hl⟩
  refine ⟨h0, ?_⟩
  have h4 := seal_len (wrI i)
  unfold unG
  rw [if_pos h0]
  have hin : innerS (packS i) = wrI i := by
    unfold innerS packS
    rw [List.length_append, h4, show (wrI i).length + 4 - 4 = (wrI i).length by omega]
    exact take_l rfl
  rw [hin, rdG_wr hi]
/-- What Pack answers. -/
def pkE (i : Ig) : Int := if rightG i ≠ 0 then rightG i else if 65536 < (packS i).length then 3 else 0
def pkB (i : Ig) : Bs := if pkE i = 0 then packS i else []
end Go.Proofs.YtoiglopilpoafaaGreatDoor.Im

namespace Go.Proofs.YtoiglopilpoafaaGreatDoor.Im
open Go.RowKit Ty Cd
set_option linter.unusedSimpArgs false
set_option linter.unusedVariables false

def valC (v : Int × Int) : List Value := [ci v.1, .int .u64 v.2]
/-- A row of values. -/
def VL (w : World) (ao : Option Addr) (cap : Nat) (l : List (Int × Int)) : Prop :=
  l.length ≤ cap ∧ cap ≤ maxLen ∧ (ao = none → cap = 0) ∧ (l = [] ∨ ∃ b off, ao = some ⟨b, off, none⟩ ∧ ∀ (i : Nat) (v : Int × Int), l[i]? = some v → w.cell? ⟨b, off + i * 2, none⟩ = some (ci v.1) ∧ w.cell? ⟨b, off + i * 2 + 1, none⟩ = some (.int .u64 v.2))
theorem VL.keep {w w' : World} {ao : Option Addr} {cap : Nat} {l : List (Int × Int)} (h : VL w ao cap l) (hf : Fr (fun _ => False) w w') : VL w' ao cap l := by
  obtain ⟨h1, h2, h3, h4⟩ := h
  refine ⟨h1, h2, h3, ?_⟩
  rcases h4 with h4 | ⟨b, off, rfl, h4⟩
  · exact Or.inl h4
  · exact Or.inr ⟨b, off, rfl, fun i v hv => ⟨hf.cellN (h4 i v hv).1, hf.cellN (h4 i v hv).2⟩⟩
def fnC (f : Fu) (x : (Option Addr × Nat) × (Option Addr × Nat) × (Option Addr × Nat)) : List Value := [.slice x.1.1 f.sg.ps.length x.1.2, ci f.sg.res, .slice x.2.1.1 f.loc.length x.2.1.2, .slice x.2.2.1 f.cd.length x.2.2.2]
/-- What stands in a function's rows. -/
def FnP (w : World) (f : Fu) (x : (Option Addr × Nat) × (Option Addr × Nat) × (Option Addr × Nat)) : Prop := InL w x.1.1 x.1.2 f.sg.ps ∧ InL w x.2.1.1 x.2.1.2 f.loc ∧ IL w x.2.2.1 x.2.2.2 f.cd
theorem FnP.keep {w w' : World} {f : Fu} {x : (Option Addr × Nat) × (Option Addr × Nat) × (Option Addr × Nat)} (h : FnP w f x) (hf : Fr (fun _ => False) w w') : FnP w' f x := ⟨h.1.keep hf, h.2.1.keep hf, h.2.2.keep hf⟩
/-- A row of functions. -/
def FL (w : World) (ao : Option Addr) (cap : Nat) (l : List Fu) : Prop :=
  l.length ≤ cap ∧ cap ≤ maxLen ∧ (ao = none → cap = 0) ∧ (l = [] ∨ ∃ b off, ao = some ⟨b, off, none⟩ ∧ ∀ (i : Nat) (f : Fu), l[i]? = some f → ∃ x, FnP w f x ∧ ∀ (j : Nat) (u : Value), (fnC f x)[j]? = some u → w.cell? ⟨b, off + i * 4 + j, none⟩ = some u)
theorem FL.keep {w w' : World} {ao : Option Addr} {cap : Nat} {l : List Fu} (h : FL w ao cap l) (hf : Fr (fun _ => False) w w') : FL w' ao cap l := by
  obtain ⟨h1, h2, h3, h4⟩ := h
  refine ⟨h1, h2, h3, ?_⟩
  rcases h4 with h4 | ⟨b, off, rfl, h4⟩
  · exact Or.inl h4
  · refine Or.inr ⟨b, off, rfl, fun i f hx => ?_⟩
    obtain ⟨x, a1, a2⟩ := h4 i f hx
    exact ⟨x, a1.keep hf, fun j u hu => hf.cellN (a2 j u hu)⟩
/-- Numbers that a row can have. -/
structure OkG (i : Ig) : Prop where
  nv : i.vars.length ≤ 4398046510976
  nf : i.fns.length ≤ 1099511627776
  ps : ∀ f ∈ i.fns, f.sg.ps.length ≤ 17592186044416
  loc : ∀ f ∈ i.fns, f.loc.length ≤ 17592186044416
  cd : ∀ f ∈ i.fns, f.cd.length ≤ 4398046510976
  okI : ∀ f ∈ i.fns, ∀ x ∈ f.cd, OkIn x
  bits : ∀ v ∈ i.vars, 0 ≤ v.2 ∧ v.2 < 18446744073709551616
/-- An image in memory. -/
def IgA (w : World) (i : Ig) (va fa : Option Addr) (vc fc : Nat) : Prop := VL w va vc i.vars ∧ FL w fa fc i.fns
theorem IgA.keep {w w' : World} {i : Ig} {va fa : Option Addr} {vc fc : Nat} (h : IgA w i va fa vc fc) (hf : Fr (fun _ => False) w w') : IgA w' i va fa vc fc := ⟨h.1.keep hf, h.2.keep hf⟩
abbrev igV (i : Ig) (va fa : Option Addr) (vc fc : Nat) : Value := .agg #[.slice va i.vars.length vc, .slice fa i.fns.length fc, ci i.mn]
end Go.Proofs.YtoiglopilpoafaaGreatDoor.Im

namespace Go.Proofs.YtoiglopilpoafaaGreatDoor.Im
open Go.RowKit Ty Cd
set_option linter.unusedSimpArgs false
set_option linter.unusedVariables false
set_option maxRecDepth 20000

theorem to_wi {S : Nat → Prop} {w w' : World} (h : Fr S w w') : Wi.Fr S w w' := ⟨h.os, h.output, h.size, h.block⟩
theorem of_wi {S : Nat → Prop} {w w' : World} (h : Wi.Fr S w w') : Fr S w w' := ⟨h.os, h.output, h.size, h.block⟩
theorem numS_eq (l : Bs) : Wi.numS l = numGo 0 l := by
  have : ∀ (l : Bs) (a : Nat), l.foldl (fun n c => n * 256 + c.toNat) a = numGo a l := by
    intro l
    induction l with
    | nil => intro a; rfl
    | cons c l ih => intro a; exact ih _
  exact this l 0
/-- What is left of the bytes that a Reader reads. -/
def Rs (w : World) (q : Nat) : Lf → Prop
  | some r => Wi.Rd w q r 0
  | none => ∃ c, (c == 0) = false ∧ Wi.Rd w q [] c
theorem Rs.lt {w : World} {q : Nat} {s : Lf} (h : Rs w q s) : q < w.heap.size := by
  cases s with
  | none => obtain ⟨c, _, h⟩ := h; obtain ⟨v, h, _⟩ := h; exact Wi.lt_of_heap h
  | some r => obtain ⟨v, h, _⟩ := (show Wi.Rd w q r 0 from h); exact Wi.lt_of_heap h
theorem Rs.later {w w' : World} {q : Nat} {s : Lf} (h : Rs w q s) (hf : Fr (fun _ => False) w w') : Rs w' q s := by
  cases s with
  | none => obtain ⟨c, e, h⟩ := h; exact ⟨c, e, h.later (to_wi hf)⟩
  | some r => exact (show Wi.Rd w q r 0 from h).later (to_wi hf)
theorem rd_aside {w w' : World} {q : Nat} {rest : Bs} {e : Int} {S : Nat → Prop} (h : Wi.Rd w q rest e) (hf : Fr S w w') (hS : ∀ k, S k → q < k) : Wi.Rd w' q rest e := by
  refine h.keep (to_wi hf) (fun s => by have := hS q s; omega) (fun v k hk e s => ?_)
  obtain ⟨v', h1, h2, h3⟩ := h
  have e2 : v = v' := by rw [h1] at hk; simpa using hk.symm
  subst e2
  have := h3 k e
  have := hS k s
  omega
theorem Rs.aside {w w' : World} {q : Nat} {s : Lf} {S : Nat → Prop} (h : Rs w q s) (hf : Fr S w w') (hS : ∀ k, S k → q < k) : Rs w' q s := by
  cases s with
  | none => obtain ⟨c, e, h⟩ := h; exact ⟨c, e, rd_aside h hf hS⟩
  | some r => exact rd_aside (show Wi.Rd w q r 0 from h) hf hS
theorem fn_q {w w' : World} {q : Nat} (h : Wi.Fr (fun _ => False) w w') : Fr (fun k => k = q) w w' := (of_wi h).mono fun _ _ f => f.elim
theorem byte_rs (q : Nat) (s : Lf) (w : World) (h : Rs w q s) : Calls Tryz.prog 36 #[Wi.rp q] w fun e w' => e = .returned (.int .u8 ((rdB s).1.toNat : Int)) ∧ Rs w' q (rdB s).2 ∧ Fr (fun k => k = q) w w' := by
  match s, h with
  | none, h =>
    obtain ⟨c, hc, hr⟩ := h
    exact (Wi.dead_Byte q [] c w hc hr).mono fun e w' ⟨h1, h2⟩ => ⟨h1, ⟨c, hc, hr.later h2⟩, fn_q h2⟩
  | some [], h => exact (Wi.rd_Byte_out q [] 40 w (by decide) h (fun w1 h => Wi.takeByte_out q w1 h)).mono fun e w' h => ⟨h.1, ⟨40, by decide, h.2.1⟩, of_wi h.2.2⟩
  | some (c :: r), h =>
    refine (Wi.rd_Byte_in q _ r (Wi.Is (.int .u8 (c.toNat : Int))) w h (fun w1 h => Wi.takeByte_in q c r w1 h)).mono ?_
    rintro e w' ⟨⟨v, rfl, hv⟩, h2, h3⟩
    have hv : v = _ := hv
    subst hv
    exact ⟨rfl, h2, of_wi h3⟩
theorem long_rs (q : Nat) (s : Lf) (w : World) (h : Rs w q s) : Calls Tryz.prog 62 #[Wi.rp q] w fun e w' => e = .returned (.int .u64 ((rdL s).1 : Int)) ∧ Rs w' q (rdL s).2 ∧ Fr (fun k => k = q) w w' := by
  match s, h with
  | none, h =>
    obtain ⟨c, hc, hr⟩ := h
    exact (Wi.dead_Long q [] c w hc hr).mono fun e w' ⟨h1, h2⟩ => ⟨h1, ⟨c, hc, hr.later h2⟩, fn_q h2⟩
  | some r, h =>
    have h : Wi.Rd w q r 0 := h
    unfold rdL rdN
    by_cases hl : 8 ≤ r.length
    · simp only [if_pos hl]
      refine (Wi.rd_Long_in q r (r.drop 8) (Wi.Is (.int .u64 (Wi.numS (r.take 8) : Int))) w h (fun w1 h => Wi.takeLong_in q r w1 hl h)).mono ?_
      rintro e w' ⟨⟨v, rfl, hv⟩, h2, h3⟩
      have hv : v = _ := hv
      subst hv
      rw [numS_eq]
      exact ⟨rfl, h2, of_wi h3⟩
    · simp only [if_neg hl]
      exact (Wi.rd_Long_out q r 40 w (by decide) h (fun w1 h => Wi.takeLong_out q r w1 (by omega) h)).mono fun e w' h => ⟨h.1, ⟨40, by decide, h.2.1⟩, of_wi h.2.2⟩
theorem int_rs (q : Nat) (s : Lf) (w : World) (h : Rs w q s) : Calls Tryz.prog 38 #[Wi.rp q] w fun e w' => e = .returned (ci ((rdI s).1 : Int)) ∧ Rs w' q (rdI s).2 ∧ Fr (fun k => k = q) w w' := by
  match s, h with
  | none, h =>
    obtain ⟨c, hc, hr⟩ := h
    exact (Wi.dead_Int q [] c w hc hr).mono fun e w' ⟨h1, h2⟩ => ⟨h1, ⟨c, hc, hr.later h2⟩, fn_q h2⟩
  | some r, h =>
    have h : Wi.Rd w q r 0 := h
    unfold rdI rdN
    by_cases hl : 4 ≤ r.length
    · simp only [if_pos hl]
      by_cases hn : numGo 0 (r.take 4) < 2147483648
      · simp only [if_pos hn]
        refine (Wi.rd_Int_in q r (r.drop 4) (Wi.Is (.int .i64 (Wi.numS (r.take 4) : Int))) w h (fun w1 h => Wi.takeInt_in q r _ w1 hl rfl (by rw [numS_eq]; exact hn) h)).mono ?_
        rintro e w' ⟨⟨v, rfl, hv⟩, h2, h3⟩
        have hv : v = _ := hv
        subst hv
        rw [numS_eq]
        exact ⟨rfl, h2, of_wi h3⟩
      · simp only [if_neg hn]
        exact (Wi.rd_Int_out q r 42 w (by decide) h (fun w1 h => Wi.takeInt_bad q r _ w1 hl rfl (by rw [numS_eq]; omega) h)).mono fun e w' h => ⟨h.1, ⟨42, by decide, h.2.1⟩, of_wi h.2.2⟩
    · simp only [if_neg hl]
      exact (Wi.rd_Int_out q r 40 w (by decide) h (fun w1 h => Wi.takeInt_out q r w1 (by omega) h)).mono fun e w' h => ⟨h.1, ⟨40, by decide, h.2.1⟩, of_wi h.2.2⟩
theorem bl_of {w : World} {v : Value} {l : Bs} (h : Wi.Sl w v (Wi.bc l)) : ∃ ao cap, v = .slice ao l.length cap ∧ BL w ao cap l := by
  obtain ⟨ao, cap, e, h1, h2, h3, h4⟩ := h
  rw [Wi.bc_length] at e h1
  refine ⟨ao, cap, e, h1, h2, h3, ?_⟩
  rcases h4 with h4 | ⟨b, off, rfl, h4⟩
  · left
    cases l with
    | nil => rfl
    | cons c r => simp [Wi.bc] at h4
  · exact Or.inr ⟨b, off, rfl, fun i c hc => h4 i _ (by unfold Wi.bc; rw [List.getElem?_map, hc]; rfl)⟩
theorem sl_of {w : World} {ao : Option Addr} {cap : Nat} {l : Bs} (h : BL w ao cap l) : Wi.Sl w (.slice ao l.length cap) (Wi.bc l) := by
  obtain ⟨h1, h2, h3, h4⟩ := h
  refine ⟨ao, cap, by rw [Wi.bc_length], by rw [Wi.bc_length]; exact h1, h2, h3, ?_⟩
  rcases h4 with rfl | ⟨b, off, rfl, h4⟩
  · exact Or.inl rfl
  · refine Or.inr ⟨b, off, rfl, fun i x hx => ?_⟩
    unfold Wi.bc at hx
    rw [List.getElem?_map] at hx
    cases hc : l[i]? with
    | none => rw [hc] at hx; cases hx
    | some c =>
      rw [hc] at hx
      cases hx
      exact h4 i c hc
theorem raw_fail {q : Nat} {w w' : World} {c : Int} {e : Ending} (hc : (c == 0) = false) (h : Wi.Failed q w (.slice none 0 0) c e w') : ∃ ao cap, e = .returned (.slice ao ([] : Bs).length cap) ∧ BL w' ao cap [] ∧ Rs w' q none ∧ Fr (fun k => k = q) w w' :=
  ⟨none, 0, h.1, ⟨by simp, by simp [maxLen], fun _ => rfl, Or.inl rfl⟩, ⟨c, hc, h.2.1⟩, of_wi h.2.2⟩
theorem raw_rs (q : Nat) (s : Lf) (w : World) (h : Rs w q s) : Calls Tryz.prog 65 #[Wi.rp q, ci 65536] w fun e w' => ∃ ao cap, e = .returned (.slice ao (rdR 65536 s).1.length cap) ∧ BL w' ao cap (rdR 65536 s).1 ∧ Rs w' q (rdR 65536 s).2 ∧ Fr (fun k => k = q) w w' := by
  match s, h with
  | none, h =>
    obtain ⟨c, hc, hr⟩ := h
    refine (Wi.dead_Raw q [] c w hc hr).mono fun e w' ⟨h1, h2⟩ => raw_fail hc ⟨h1, hr.later h2, h2.mono fun _ _ f => f.elim⟩
  | some r, h =>
    have h : Wi.Rd w q r 0 := h
    by_cases hl : 4 ≤ r.length
    · by_cases hn : numGo 0 (r.take 4) < 2147483648
      · have eI : rdI (some r) = (numGo 0 (r.take 4), some (r.drop 4)) := by unfold rdI rdN; simp only [if_pos hl, if_pos hn]
        obtain ⟨N, hN⟩ : ∃ N, numGo 0 (r.take 4) = N := ⟨_, rfl⟩
        rw [hN] at eI hn
        by_cases hm : N ≤ 65536
        · by_cases hb : N ≤ (r.drop 4).length
          · have e : rdR 65536 (some r) = ((r.drop 4).take N, some ((r.drop 4).drop N)) := by unfold rdR; rw [eI]; simp only []; rw [if_pos ⟨hm, hb⟩]
            rw [e]
            refine (Wi.rd_Raw_in q r ((r.drop 4).drop N) (fun v w => Wi.Sl w v (Wi.bc ((r.drop 4).take N))) w h (fun w1 _ h => (Wi.takeRaw_in q r N 65536 w1 hl (by show Wi.numS _ = _; rw [numS_eq, hN]) hn (by omega) h hb).mono ?_)).mono ?_
            · rintro e w' ⟨⟨v, rfl, ao, cap, rfl, ho⟩, h2, h3⟩
              exact ⟨⟨_, rfl, ho.1⟩, h2, h3⟩
            · rintro e w' ⟨⟨v, rfl, hs⟩, h2, h3⟩
              obtain ⟨ao, cap, rfl, hB⟩ := bl_of hs
              exact ⟨ao, cap, rfl, hB, h2, of_wi h3⟩
          · have e : rdR 65536 (some r) = ([], none) := by unfold rdR; rw [eI]; simp only []; rw [if_neg (fun h => hb h.2)]
            rw [e]
            exact (Wi.rd_Raw_out q r 40 w (by decide) h (fun w1 _ h => Wi.takeRaw_out q r N 65536 w1 hl (by show Wi.numS _ = _; rw [numS_eq, hN]) hn (by omega) h (by omega))).mono fun e w' h => raw_fail (by decide) h
        · have e : rdR 65536 (some r) = ([], none) := by unfold rdR; rw [eI]; simp only []; rw [if_neg (fun h => hm h.1)]
          rw [e]
          exact (Wi.rd_Raw_out q r 3 w (by decide) h (fun w1 _ h => Wi.takeRaw_gave q 3 65536 w1 (Wi.takeCount_big q r N 65536 w1 hl (by show Wi.numS _ = _; rw [numS_eq, hN]) hn (by omega) h))).mono fun e w' h => raw_fail (by decide) h
      · have e : rdR 65536 (some r) = ([], none) := by unfold rdR rdI rdN; simp only [if_pos hl, if_neg hn]
        rw [e]
        exact (Wi.rd_Raw_out q r 42 w (by decide) h (fun w1 _ h => Wi.takeRaw_gave q 42 65536 w1 (Wi.takeCount_gave q 42 _ w1 (Wi.takeInt_bad q r _ w1 hl rfl (by rw [numS_eq]; omega) h)))).mono fun e w' h => raw_fail (by decide) h
    · have e : rdR 65536 (some r) = ([], none) := by unfold rdR rdI rdN; simp only [if_neg hl]; rfl
      rw [e]
      exact (Wi.rd_Raw_out q r 40 w (by decide) h (fun w1 _ h => Wi.takeRaw_gave q 40 65536 w1 (Wi.takeCount_gave q 40 _ w1 (Wi.takeInt_out q r w1 (by omega) h)))).mono fun e w' h => raw_fail (by decide) h
theorem err_rs (q : Nat) (s : Lf) (w : World) (h : Rs w q s) : Calls Tryz.prog 58 #[Wi.rp q] w fun e w' => (∃ c : Int, e = .returned (ci c) ∧ (c == 0) = s.isSome) ∧ w' = w := by
  match s, h with
  | none, h =>
    obtain ⟨c, hc, hr⟩ := h
    exact (Wi.err_some q [] c w hr).mono fun e w' ⟨h1, h2⟩ => ⟨⟨c, h1, hc⟩, h2.symm⟩
  | some r, h => exact (Wi.err_some q r 0 w h).mono fun e w' ⟨h1, h2⟩ => ⟨⟨0, h1, rfl⟩, h2.symm⟩
theorem read_rs (ao : Option Addr) (n cap : Nat) (l : Bs) (hn : l.length = n) (w : World) (hb : n ≤ 140737488355328) (h : BL w ao cap l) :
    Calls Tryz.prog 35 #[.slice ao n cap] w fun e w' => ∃ q, e = .returned (Wi.rp q) ∧ Rs w' q (some l) ∧ w.heap.size ≤ q ∧ Fr (fun _ => False) w w' := by
  subst hn
  exact (Wi.read_any _ l w hb (sl_of h)).mono fun e w' ⟨q, h1, h2, h3, h4⟩ => ⟨q, h1, h2, h3, of_wi h4⟩
theorem beS_be (n : Nat) : ∀ k, Wi.beS n k = be k n
  | 0 => rfl
  | k + 1 => by
    show UInt8.ofNat (n / 2 ^ (8 * k)) :: Wi.beS n k = UInt8.ofNat (n / 256 ^ k % 256) :: be k n
    rw [beS_be n k, Nat.pow_mul, show (2 : Nat) ^ 8 = 256 by decide]
    congr 1
    apply UInt8.toNat_inj.1
    rw [UInt8.toNat_ofNat', UInt8.toNat_ofNat']
    omega
theorem i31_be {n : Nat} (h : n < 2147483648) : Wi.i31 (n : Int) = be 4 n := by
  unfold Wi.i31 Wi.u64
  rw [beS_be]
  congr 1
  omega
theorem byte_wr (W : World) (pv : Value) (c : UInt8) (bs : Bs) (n : Nat) (w : World) (h : Wi.WOwn W pv w bs (1 + n)) :
    Calls Tryz.prog 26 #[pv, .int .u8 (c.toNat : Int)] w fun e w' => e = .returned (.tuple #[]) ∧ Wi.WOwn W pv w' (bs ++ [c]) n := Wi.byte_own W pv c bs n w h
theorem int_wr (W : World) (pv : Value) (N : Nat) (bs : Bs) (n : Nat) (w : World) (hN : N < 2147483648) (h : Wi.WOwn W pv w bs (4 + n)) :
    Calls Tryz.prog 27 #[pv, .int .i64 (N : Int)] w fun e w' => e = .returned (.tuple #[]) ∧ Wi.WOwn W pv w' (bs ++ be 4 N) n := by
  obtain ⟨g, a, b, d⟩ := h
  refine (Wi.int_any pv (N : Int) bs g n w a).mono ?_
  rintro e w' ⟨rfl, hto⟩
  rw [i31_be hN] at hto
  exact ⟨rfl, Wi.WOwn.step b d hto⟩
theorem long_wr (W : World) (pv : Value) (N : Nat) (bs : Bs) (n : Nat) (w : World) (hN : N < 18446744073709551616) (h : Wi.WOwn W pv w bs (8 + n)) :
    Calls Tryz.prog 28 #[pv, .int .u64 (N : Int)] w fun e w' => e = .returned (.tuple #[]) ∧ Wi.WOwn W pv w' (bs ++ be 8 N) n := by
  obtain ⟨g, a, b, d⟩ := h
  refine (Wi.long_any pv N bs g n w hN a).mono ?_
  rintro e w' ⟨rfl, hto⟩
  rw [beS_be] at hto
  exact ⟨rfl, Wi.WOwn.step b d hto⟩
theorem raw_wr (W V w : World) (pv v : Value) (l bs : Bs) (n : Nat) (hl : l.length < 2147483648) (h : Wi.WOwn W pv V bs (4 + (l.length + n))) (hV : Fr (fun _ => False) V w) (ho : Bw w V.heap.size v l) :
    Calls Tryz.prog 48 #[pv, v] w fun e w' => e = .returned (.tuple #[]) ∧ Wi.WOwn W pv w' (bs ++ (be 4 l.length ++ l)) n := by
  obtain ⟨g, a, b, d⟩ := h
  have a' := a.keep (to_wi hV) (fun _ _ f => f) (fun _ _ f => f)
  have hs : Wi.Sl w v (Wi.bc l) := (Wi.Sl.of_own (show w.ownsRow _ 5 1 v l.length (Wi.bc l) from ho)).1
  refine (Wi.raw_any pv v l bs g n w a' hs (Or.inr fun k hk h2 => ?_)).mono ?_
  · have h1 := (own_block ho k hk).1
    have h3 := a.lt k h2
    omega
  · rintro e w' ⟨rfl, hto⟩
    rw [Wi.rawS, i31_be hl] at hto
    exact ⟨rfl, Wi.WOwn.step (b.same (to_wi hV)) d hto⟩
theorem bytes_wr (W : World) (p : Nat) (bs : Bs) (n : Nat) (w : World) (h : Wi.WOwn W (.pointer (some ⟨p, 0, none⟩)) w bs n) :
    Calls Tryz.prog 30 #[.pointer (some ⟨p, 0, none⟩)] w fun e w' => ∃ v, e = .returned v ∧ Bw w' w.heap.size v bs ∧ Fr (fun _ => False) w w' := by
  obtain ⟨g, hw, hb⟩ := h.wr
  refine (Wi.bytes_some p bs g w hw (by omega)).mono ?_
  rintro e w' ⟨v', rfl, hc⟩
  have h1 := hc.1
  rw [Wi.bc_length] at h1
  exact ⟨v', rfl, h1, of_wi hc.2⟩
end Go.Proofs.YtoiglopilpoafaaGreatDoor.Im

namespace Go.Proofs.YtoiglopilpoafaaGreatDoor.Cd
open Go.RowKit Ty
set_option linter.unusedSimpArgs false
set_option linter.unusedVariables false

/-- append of some elements to a row of the call's own, as a step of a region whose order is drawn. -/
theorem step_raw {w : World} {ops : Array Oper} {o : Oper} {a : Act} {K : Act → World → Prop} {Q : Exit → Act → World → Prop} {E : Prop} (hgd : o.guard = none) (s x : Operand) (ty e : TypeId) (z : Value) (size bytes : Nat)
    (hty : Tryz.prog.underlying ty = some (.slice e)) (hinfo : (Tryz.prog.info? e).map (fun i => (i.zero, i.size, i.bytes)) = some (some z, size, bytes)) (hzs : z.cells.size = size) (hsz : 0 < size)
    (ho : o.op = .call { callee := .builtin .append, args := #[s, x], argTypes := #[ty, ty] }) (B : Nat) (v : Value) (n : Nat) (cells : List Value) (ad : Addr) (k c : Nat) (news : List Value)
    (hs : a.eval s = v) (hr : w.ownsRow B e size v n cells) (hx : a.eval x = .slice (some ad) k c) (hl : news.length = k * size) (hc : ∀ (j : Nat) (u : Value), news[j]? = some u → w.cell? (ad.add j) = some u) (h1 : ∀ u ∈ news, u.oneCell' = true)
    (hm : n + k ≤ maxLen) (hb : (n + k) * bytes ≤ 140737488355328) (hB : B ≤ w.heap.size)
    (h : ∀ v' w', w'.ownsRow B e size v' (n + k) (cells ++ news) → Fr (fun b => v.ownBlock = some b) w w' → (v'.ownBlock = v.ownBlock ∨ v'.ownBlock = some w.heap.size) → K (a.put o.dst v') w') : if Region.wanted o (yielded ops a.tmps) = true then Oper.wp Tryz.prog o a w K Q else E := by
  have hw : Region.wanted o (yielded ops a.tmps) = true := by simp [Region.wanted, hgd]
  rw [if_pos hw]
  cases hi : Tryz.prog.info? e with
  | none => rw [hi] at hinfo; cases hinfo
  | some i =>
    rw [hi] at hinfo
    simp only [Option.map_some, Option.some.injEq, Prod.mk.injEq] at hinfo
    obtain ⟨v', w', hrun, h2, h3, _, h5⟩ := run_append_own_at (P := Tryz.prog) w B ty o.type e i z size bytes hty hi hinfo.1 hinfo.2.1 hinfo.2.2 hzs hsz v n cells hr ad k c news hl hc h1 hm hb hB
    unfold Oper.wp
    simp only [execOp, ho, resolve, invoke, builtin, Sem.run_bind, Sem.run_pure, Result.andThen_ok, List.map_toArray, List.map_cons, List.map_nil, hs, hx, hrun]
    exact h v' w' h2 ((Fr.grown h3).mono fun k _ e => e.symm) h5
theorem inC_one (x : In) : ∀ u ∈ inC x, u.oneCell' = true := by
  intro u hu
  simp only [inC, List.mem_cons, List.not_mem_nil, or_false] at hu
  rcases hu with rfl | rfl | rfl | rfl <;> rfl
theorem flat_snoc (l : List In) (x : In) : (l ++ [x]).flatMap inC = l.flatMap inC ++ inC x := by simp
end Go.Proofs.YtoiglopilpoafaaGreatDoor.Cd
