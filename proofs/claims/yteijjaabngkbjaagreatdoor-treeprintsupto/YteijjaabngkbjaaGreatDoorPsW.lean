/- Plain: how long the text of a right module is. -/
import Derived.Test.YteijjaabngkbjaaGreatDoorPsV
namespace Go.Proofs.YteijjaabngkbjaaGreatDoor
set_option linter.unusedSimpArgs false
set_option linter.unusedVariables false
namespace Pz
open Lx Te
open Go.RowKit (wrap64)

section
variable {rn : Bs → Int} {cn : Int → Int} {tx : Int → Int → Bs} (hn : ∀ x, rn x = 0 → x.length ≤ 32) (ht : ∀ vt vb, litOk cn vt vb = true → 0 ≤ vb → (tx vt vb).length ≤ 3001)
theorem ifx {c : Prop} [Decidable c] {a : Int} (h : (if c then (0 : Int) else a) = 0) (ha : a ≠ 0) : c := by
  split at h
  · assumption
  · exact absurd h ha
include hn ht in
theorem pre_ln (h : EH) (n : Nat) (h0 : 0 ≤ h.vb) (he : errH rn cn h n = 0) : (pre tx h).length ≤ 3100 := by
  unfold errH at he
  obtain ⟨e1, e2⟩ := orE_0 he
  obtain ⟨e2, _⟩ := orE_0 e2
  have hf := ifx (c := fitsE cn h n = true) e1 (by decide)
  unfold nameE at e2
  unfold pre
  by_cases k1 : h.kind = 1
  · rw [if_pos k1]
    unfold fitsE at hf
    rw [if_pos k1, Bool.and_eq_true] at hf
    have := ht h.vt h.vb hf.1 h0
    omega
  rw [if_neg k1]
  by_cases k2 : h.kind = 2
  · rw [if_pos k2]
    rw [if_pos (Or.inl k2)] at e2
    have := hn _ e2
    omega
  rw [if_neg k2]
  by_cases k3 : h.kind = 3
  · rw [if_pos k3]
    rw [if_neg (by omega), if_pos (Or.inl k3)] at e2
    obtain ⟨a, b⟩ := orE_0 e2
    have := hn _ a
    have := hn _ b
    simp only [List.length_append, List.length_cons]
    omega
  rw [if_neg k3]
  by_cases k4 : h.kind = 4
  · rw [if_pos k4]
    rw [if_pos (Or.inr k4)] at e2
    have := hn _ e2
    simp only [List.length_append, List.length_cons, List.length_nil]
    omega
  rw [if_neg k4]
  by_cases k5 : h.kind = 5
  · rw [if_pos k5]
    rw [if_neg (by omega), if_pos (Or.inr k5)] at e2
    obtain ⟨a, b⟩ := orE_0 e2
    have := hn _ a
    have := hn _ b
    simp only [List.length_append, List.length_cons, List.length_nil]
    omega
  rw [if_neg k5]
  repeat' split
  all_goals simp
theorem post_ln (h : EH) : (post h).length ≤ 1 := by
  unfold post
  repeat' split
  all_goals simp
theorem mark_ln (op : Int) : (Te.mark op).length ≤ 4 := by
  by_cases h : 1 ≤ op ∧ op ≤ 12
  · obtain rfl | rfl | rfl | rfl | rfl | rfl | rfl | rfl | rfl | rfl | rfl | rfl : op = 1 ∨ op = 2 ∨ op = 3 ∨ op = 4 ∨ op = 5 ∨ op = 6 ∨ op = 7 ∨ op = 8 ∨ op = 9 ∨ op = 10 ∨ op = 11 ∨ op = 12 := by omega
    all_goals decide
  · have e : Te.mark op = [32, 124, 124, 32] := by
      unfold Te.mark
      rw [if_neg (by omega), if_neg (by omega), if_neg (by omega), if_neg (by omega), if_neg (by omega), if_neg (by omega), if_neg (by omega), if_neg (by omega), if_neg (by omega), if_neg (by omega), if_neg (by omega), if_neg (by omega)]
    rw [e]
    decide
theorem sep_ln (h : EH) : (sep h).length ≤ 4 := by
  unfold sep
  split
  · exact mark_ln _
  · simp
theorem par_ln (b : Bool) (l : Bs) : (par b l).length ≤ l.length + 2 := by
  unfold par
  split <;> simp
include hn ht in
theorem txK_ln : ∀ (k : Exs) (p : EH) (f : Bool), errL rn cn k = 0 → NnX k → (txK tx p f k).length ≤ 4000 * k.size
  | .nil, _, _, _, _ => by simp [txK]
  | .cons h k r, p, f, he, hs => by
    obtain ⟨hh, hr⟩ := RX_kid he
    have i1 := txK_ln k h true hh.2 hs.2.1
    have i2 := txK_ln r p false hr hs.2.2
    have e1 := pre_ln hn ht h k.len hs.1 hh.1
    have e2 := post_ln h
    have e3 := sep_ln p
    have e4 := par_ln (decide (level h < kidL p f)) (pre tx h ++ txK tx h true k ++ post h)
    unfold txK
    simp only [List.length_append, Exs.size] at e4 ⊢
    have e5 : (if f then [] else sep p : Bs).length ≤ 4 := by
      split
      · simp
      · exact e3
    omega
include hn ht in
theorem txF_ln (k : Exs) (he : errL rn cn k = 0) (hs : NnX k) : (txF tx k).length ≤ 4000 * k.size := by
  cases k with
  | nil => simp [txF]
  | cons h k r =>
    obtain ⟨hh, hr⟩ := RX_kid he
    have i1 := txK_ln hn ht k h true hh.2 hs.2.1
    have e1 := pre_ln hn ht h k.len hs.1 hh.1
    have e2 := post_ln h
    simp only [txF, Te.bare, List.length_append, Exs.size]
    omega
theorem pad_ln (n : Nat) : (Te.pad n).length = 2 * n := by
  unfold Te.pad
  induction n with
  | zero => rfl
  | succ n ih => rw [List.replicate_succ, List.flatten_cons, List.length_append, ih]; simp; omega
include hn ht in
theorem stT_ln : ∀ (s : Sts) (n : Nat) (acc : Int), n ≤ 32 → errS rn cn s = 0 → NnS s → dS s (n : Int) acc ≤ 32 → (stT tx s n).length ≤ 5000 * s.size
  | .nil, _, _, _, _, _, _ => by simp [stT]
  | .cons h e b l r, n, acc, hn2, he, hs, hd => by
    rw [errS] at he
    obtain ⟨a1, a2⟩ := orE_0 he
    obtain ⟨a3, a4⟩ := orE_0 a1
    obtain ⟨a5, a6⟩ := orE_0 a4
    obtain ⟨a7, a8⟩ := orE_0 a6
    obtain ⟨s1, s2, s3, s4⟩ := hs
    obtain ⟨d1, d2, d3, acc', d4⟩ := dS_cons (by omega) (by omega) hd
    have i0 := stT_ln r n acc' hn2 a2 s4 d4
    have i1 := txF_ln hn ht e a5 s1
    have ib : hasBody h.kind = true ∨ 0 < b.len → (stT tx b (n + 1)).length ≤ 5000 * b.size := fun hb => by
      have := d2 hb
      have := dS_acc b ((n : Int) + 1) ((n : Int) + 1)
      exact stT_ln b (n + 1) ((n : Int) + 1) (by omega) a7 s2 (by simpa using d2 hb)
    have il : h.kind = 8 ∨ 0 < l.len → (stT tx l (n + 1)).length ≤ 5000 * l.size := fun hb => by
      have := d3 hb
      have := dS_acc l ((n : Int) + 1) ((n : Int) + 1)
      exact stT_ln l (n + 1) ((n : Int) + 1) (by omega) a8 s3 (by simpa using d3 hb)
    have hnm : h.kind = 1 ∨ h.kind = 2 ∨ h.kind = 8 → h.name.length ≤ 32 := by
      intro hk
      unfold errSH at a3
      obtain ⟨_, q⟩ := orE_0 a3
      unfold nameS at q
      rw [if_pos (by omega)] at q
      exact hn _ q
    have hp := pad_ln n
    unfold stT
    simp only [List.length_append, Sts.size]
    by_cases k1 : h.kind = 1
    · have := hnm (by omega)
      simp only [if_pos k1, List.length_append, List.length_cons, List.length_nil]
      omega
    by_cases k2 : h.kind = 2
    · have := hnm (by omega)
      simp only [if_neg k1, if_pos k2, List.length_append, List.length_cons, List.length_nil]
      omega
    by_cases k3 : h.kind = 3
    · have := ib (Or.inl (by rw [k3]; rfl))
      simp only [if_neg k1, if_neg k2, if_pos k3, List.length_append, List.length_cons, List.length_nil]
      by_cases hl : 0 < l.len
      · have := il (Or.inr hl)
        simp only [if_pos hl, List.length_append, List.length_cons, List.length_nil]
        omega
      · simp only [if_neg hl, List.length_nil]
        omega
    by_cases k4 : h.kind = 4
    · have := ib (Or.inl (by rw [k4]; rfl))
      simp only [if_neg k1, if_neg k2, if_neg k3, if_pos k4, List.length_append, List.length_cons, List.length_nil]
      omega
    by_cases k5 : h.kind = 5
    · simp only [if_neg k1, if_neg k2, if_neg k3, if_neg k4, if_pos k5, List.length_append, List.length_cons, List.length_nil]
      split
      · simp only [List.length_cons]; omega
      · simp only [List.length_nil]; omega
    by_cases k6 : h.kind = 6
    · simp only [if_neg k1, if_neg k2, if_neg k3, if_neg k4, if_neg k5, if_pos k6, List.length_append, List.length_cons, List.length_nil]
      omega
    by_cases k7 : h.kind = 7
    · simp only [if_neg k1, if_neg k2, if_neg k3, if_neg k4, if_neg k5, if_neg k6, if_pos k7, List.length_append, List.length_cons, List.length_nil]
      omega
    by_cases k8 : h.kind = 8
    · have := ib (Or.inl (by rw [k8]; rfl))
      have := il (Or.inl k8)
      have := hnm (by omega)
      simp only [if_neg k1, if_neg k2, if_neg k3, if_neg k4, if_neg k5, if_neg k6, if_neg k7, if_pos k8, List.length_append, List.length_cons, List.length_nil]
      omega
    · simp only [if_neg k1, if_neg k2, if_neg k3, if_neg k4, if_neg k5, if_neg k6, if_neg k7, if_neg k8, List.length_append, List.length_cons, List.length_nil]
      omega
theorem tyT_ln (t : Int) : (tyT t).length ≤ 7 := by
  unfold tyT
  repeat' split
  all_goals simp
include hn in
theorem paT_ln : ∀ (l : List Pa), errP rn l = 0 → (paT l).length ≤ 100 * l.length
  | [], _ => by simp [paT]
  | [p], h => by
    have h1 := (orE_0 (orE_0 h).1).1
    have := hn _ h1
    have := tyT_ln p.type
    simp only [paT, List.length_append, List.length_cons, List.length_nil]
    omega
  | p :: q :: r, h => by
    have h1 := (orE_0 (orE_0 h).1).1
    have := hn _ h1
    have := tyT_ln p.type
    have := paT_ln (q :: r) (orE_0 h).2
    simp only [paT, List.length_append, List.length_cons, List.length_nil] at *
    omega
include hn ht in
theorem deT_ln (d : De) (he : errD rn cn d = 0) (hN : NnD d) : (deT tx d).length ≤ 5000 * ndD d := by
  unfold errD at he
  obtain ⟨a1, a2⟩ := orE_0 he
  obtain ⟨a3, a4⟩ := orE_0 a2
  obtain ⟨a5, a6⟩ := orE_0 a4
  obtain ⟨a7, a8⟩ := orE_0 a6
  obtain ⟨a9, b1⟩ := orE_0 a8
  obtain ⟨b2, b3⟩ := orE_0 b1
  have hdd : dD d ≤ 32 := by
    apply Classical.byContradiction
    intro hc
    rw [if_pos (by omega)] at a1
    exact absurd a1 (by decide)
  have hfit := ifx (c := fitsD d = true) a3 (by decide)
  have hnm := hn _ a5
  have hty := tyT_ln d.type
  have hx : (exT d.ex).length ≤ 7 := by unfold exT; split <;> simp
  have hF := txF_ln hn ht d.e b2 hN.1
  have hP := paT_ln hn d.params a9
  unfold deT ndD
  by_cases k1 : d.kind = 1
  · simp only [if_pos k1, List.length_append, List.length_cons, List.length_nil]
    omega
  by_cases k2 : d.kind = 2
  · simp only [if_neg k1, if_pos k2, List.length_append, List.length_cons, List.length_nil]
    omega
  · have k3 : d.kind = 3 := by
      apply Classical.byContradiction
      intro k3
      unfold fitsD at hfit
      rw [if_neg k1, if_neg k2, if_neg k3] at hfit
      exact absurd hfit (by decide)
    have hS := stT_ln hn ht d.body 1 1 (by decide) b3 hN.2 (by have := (dD_of hdd).2 k3; simpa using this)
    simp only [if_neg k1, if_neg k2, List.length_append, List.length_cons, List.length_nil]
    omega
include hn ht in
theorem desT_ln : ∀ (l : List De), errDs rn cn l = 0 → (∀ d ∈ l, NnD d) → (l.flatMap (deT tx)).length ≤ 5000 * fDs l
  | [], _, _ => by simp
  | d :: r, he, hN => by
    obtain ⟨h1, h2⟩ := orE_0 he
    have i := desT_ln r h2 (fun x hx => hN x (by simp [hx]))
    have j := deT_ln hn ht d h1 (hN d (by simp))
    simp only [List.flatMap_cons, List.length_append, fDs, List.map_cons, List.sum_cons] at *
    omega
include hn in
theorem impT_ln : ∀ (l : List Bs), errI rn l = 0 → (l.flatMap (fun x => [105, 109, 112, 111, 114, 116, 32] ++ x ++ [59, 10])).length ≤ 100 * l.length
  | [], _ => by simp
  | x :: r, he => by
    obtain ⟨h1, h2⟩ := orE_0 he
    have i := impT_ln r h2
    have j := hn _ h1
    rw [List.flatMap_cons]
    simp only [List.length_append, List.length_cons, List.length_nil] at *
    omega
include hn ht in
/-- How long the text of a right module is. -/
theorem moT_ln (m : Mo) (he : errM rn cn m = 0) (hN : ∀ d ∈ m.decls, NnD d) : (moT tx m).length ≤ 100 + 100 * m.imports.length + 5000 * fDs m.decls := by
  unfold errM at he
  obtain ⟨a1, a2⟩ := orE_0 he
  obtain ⟨a3, a4⟩ := orE_0 a2
  obtain ⟨a5, a6⟩ := orE_0 a4
  obtain ⟨a7, a8⟩ := orE_0 a6
  have h1 := hn _ a1
  have h2 := impT_ln hn m.imports a5
  have h3 := desT_ln hn ht m.decls a8 hN
  unfold moT
  rw [List.length_append, List.length_append]
  simp only [List.length_append, List.length_cons, List.length_nil] at *
  omega
end
end Pz
end Go.Proofs.YteijjaabngkbjaaGreatDoor
