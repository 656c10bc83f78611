/- PwP PsX PsY PxF -/
import Derived.Test.YteijjaabngkbjaaGreatDoorPzBB
import Derived.Test.YteijjaabngkbjaaGreatDoorPwBB
namespace Go.Proofs.YteijjaabngkbjaaGreatDoor
open Go.RowKit Lx Te
set_option linter.unusedSimpArgs false
set_option linter.unusedVariables false
set_option linter.unusedSectionVars false
set_option maxRecDepth 20000 in
set_option maxHeartbeats 2000000 in
theorem alive7_any (w : World) (ht : F.Tab w) : Calls Tryz.prog 13 #[] w fun e w' => e = .returned (.bool true) ∧ Fr (fun _ => False) w w' := by
  have kA : Calls Tryz.prog 31 #[.string ⟨#[49, 32, 43, 32, 50, 32, 42, 32, 120]⟩] w fun e w' => ∃ ao cap, e = .returned (.tuple #[.agg #[.int .i64 7, .int .i64 1, .string ⟨#[]⟩, .string ⟨#[]⟩, .int .i64 0, .int .u64 0, .slice ao 2 cap], .int .i64 0, .int .i64 0]) ∧ ExL w' ao cap (.cons ⟨1, 0, [], [], 1, 1⟩ .nil (.cons ⟨7, 3, [], [], 0, 0⟩ (.cons ⟨1, 0, [], [], 1, 2⟩ .nil (.cons ⟨2, 0, [], [120], 0, 0⟩ .nil .nil)) .nil)) ∧ Fr (fun _ => False) w w' := xpr_any liveA _ 0 0 (by decide) liveA_is w ht
  have kB : ∀ w, F.Tab w → Calls Tryz.prog 31 #[.string ⟨#[97, 32, 60, 32, 98, 32, 60, 32, 99]⟩] w fun e w' => ∃ ao cap, e = .returned (.tuple #[.agg #[.int .i64 0, .int .i64 0, .string ⟨#[]⟩, .string ⟨#[]⟩, .int .i64 0, .int .u64 0, .slice ao 0 cap], .int .i64 6, .int .i64 11]) ∧ ExL w' ao cap .nil ∧ Fr (fun _ => False) w w' := fun w ht => xpr_any liveB _ 6 11 (by decide) liveB_is w ht
  have kC : ∀ w, F.Tab w → Calls Tryz.prog 14 #[.string ⟨#[109, 111, 100, 117, 108, 101, 32, 109, 59, 32, 102, 110, 32, 102, 40, 97, 58, 32, 105, 110, 116, 41, 58, 32, 98, 111, 111, 108, 32, 123, 32, 114, 101, 116, 117, 114, 110, 32, 97, 32, 62, 32, 48, 59, 32, 125]⟩] w fun e w' => ∃ ao cap ao' cap', e = .returned (.tuple #[.agg #[.string ⟨#[109]⟩, .slice ao 0 cap, .slice ao' 1 cap'], .int .i64 0, .int .i64 0]) ∧ SvL w' ao cap [] ∧ DeL w' ao' cap' [⟨3, false, [102], 3, [⟨[97], 1⟩], .nil, .cons ⟨5, []⟩ (.cons ⟨7, 10, [], [], 0, 0⟩ (.cons ⟨2, 0, [], [97], 0, 0⟩ .nil (.cons ⟨1, 0, [], [], 1, 0⟩ .nil .nil)) .nil) .nil .nil .nil⟩] ∧ Fr (fun _ => False) w w' := fun w ht => par_any liveC _ 0 0 (by decide) liveC_is w ht
  go_enter Tryz.func13, Tryz.ntmps13
  go_wp2_with fail
  go_at_call 31
  refine kA.mono ?_
  rintro e W1 ⟨ao1, cap1, rfl, hx, f1⟩
  obtain ⟨hl1, hm1, h0 | ⟨b1, off1, rfl, hA⟩⟩ := hx
  · simp [Exs.len] at h0
  obtain ⟨_, ⟨ao5, cap5, hc5, _⟩, _⟩ := hA
  have hop : W1.cell? ⟨b1, off1 + 7 + 1, none⟩ = some (.int .i64 3) := hc5 1 _ rfl
  have hm1' : cap1 ≤ 9223372036854775807 := by unfold maxLen at hm1; omega
  have hl1' : 2 ≤ cap1 := hl1
  have fa := Fr.alloc (fun _ => False) W1 (.cells #[.int .i64 7, .int .i64 1, .string ⟨#[]⟩, .string ⟨#[]⟩, .int .i64 0, .int .u64 0, .slice (some ⟨b1, off1, none⟩) 2 cap1] 59)
  have hn1 : Hidden ((W1.alloc (.cells #[.int .i64 7, .int .i64 1, .string ⟨#[]⟩, .string ⟨#[]⟩, .int .i64 0, .int .u64 0, .slice (some ⟨b1, off1, none⟩) 2 cap1] 59)).heap[W1.heap.size]? = some (.cells #[.int .i64 7, .int .i64 1, .string ⟨#[]⟩, .string ⟨#[]⟩, .int .i64 0, .int .u64 0, .slice (some ⟨b1, off1, none⟩) 2 cap1] 59 (0, 0))) := alloc_new _ _
  clear hc5 hl1 hm1
  go_wp2_with fail
  go_at_call 31
  refine (kB _ (tab_fr ht (f1.same fa))).mono ?_
  rintro e W2 ⟨ao2, cap2, rfl, hx2, f2⟩
  have fb := Fr.alloc (fun _ => False) W2 (.cells #[.int .i64 0, .int .i64 0, .string ⟨#[]⟩, .string ⟨#[]⟩, .int .i64 0, .int .u64 0, .slice ao2 0 cap2] 59)
  have g2 := (f1.same fa).same (f2.same fb)
  go_wp2_with fail
  go_at_call 14
  refine (kC _ (tab_fr ht g2)).mono ?_
  rintro e W3 ⟨ao3, cap3, ao4, cap4, rfl, hs3, hd3, f3⟩
  obtain ⟨hl4, hm4, h0 | ⟨b4, off4, rfl, hD⟩⟩ := hd3
  · cases h0
  obtain ⟨pv, ev, bv, ⟨a1, p1, a2, p2, a3, p3, rfl, rfl, rfl, _, _, hst⟩, hcells⟩ := hD 0 _ rfl
  have hbody : W3.cell? ⟨b4, off4 + 6, none⟩ = some (.slice a3 1 p3) := by
    have h := hcells 6 _ rfl
    rw [show off4 + 0 * 7 + 6 = off4 + 6 by omega] at h
    exact h
  have hp3 : p3 ≤ 9223372036854775807 := by have := hst.2.1; unfold maxLen at this; omega
  have hm4' : cap4 ≤ 9223372036854775807 := by unfold maxLen at hm4; omega
  have hl4' : 1 ≤ cap4 := hl4
  have hn3 := f3.heap (fb.heap (f2.heap hn1 (fun f => f)) (fun f => f)) (fun f => f)
  have hop3 := f3.cellN (fb.cellN (f2.cellN (fa.cellN hop)))
  have fc := Fr.alloc (fun _ => False) W3 (.cells #[.string ⟨#[109]⟩, .slice ao3 0 cap3, .slice (some ⟨b4, off4, none⟩) 1 cap4] 25)
  obtain ⟨x0, x1, x2, x3, x4, x5, x6, y0, y1, y2, y3, y4, y5, y6⟩ := box7 (fc.heap hn3 (fun f => f))
  have hop4 := fc.cellN hop3
  have hbody4 := fc.cellN hbody
  clear hcells hD hl4 hm4 y0 y1 y2 y3 y4 y5 y6 hn3 hn1 hop hbody hop3
  go_wp2_with fail
  go_ret
  exact ⟨rfl, (g2.same f3).same fc⟩
end Go.Proofs.YteijjaabngkbjaaGreatDoor
namespace Go.Proofs.YteijjaabngkbjaaGreatDoor
set_option linter.unusedSimpArgs false
set_option linter.unusedVariables false
namespace Pz
open Lx Te
section
variable (n1 : Nat) (la w : Tok) (r0 : List Tok)
def Eb {α : Type} (m : Ou α) : Prop := m = none ∨ m = some (.er n1 11) ∨ ∃ a, m = some (.ok a [endT n1])
def Es {α : Type} (m : Ou α) : Prop := m = none ∨ m = some (.er n1 11)
def Xc {α : Type} (m : Ou α) : Prop := w.x = [41] ∧ la.x = [40] ∧ m = some (.er la.p 13)
def Ss (r r' : List Tok) : Prop := ∃ q, r = q ++ la :: w :: r0 ∧ r' = q ++ [la, endT n1]
def Sy (r r' : List Tok) : Prop := Ss n1 la w r0 r r' ∨ (r = w :: r0 ∧ r' = [endT n1])
def Ct {α : Type} (m m' : Ou α) : Prop := ∀ a ts, m = some (.ok a ts) → (∃ ts', Ss n1 la w r0 ts ts' ∧ m' = some (.ok a ts')) ∨ Eb n1 m' ∨ Xc la w m'
def Cs {α : Type} (m m' : Ou α) : Prop := ∀ a ts, m = some (.ok a ts) → (∃ ts', Sy n1 la w r0 ts ts' ∧ m' = some (.ok a ts')) ∨ Es n1 m' ∨ Xc la w m'
variable {n1 la w r0}
theorem Es.eb {α : Type} {m : Ou α} (h : Es n1 m) : Eb n1 m := by
  rcases h with h | h
  · exact Or.inl h
  · exact Or.inr (Or.inl h)
theorem Es.no {α : Type} : Es n1 (none : Ou α) := Or.inl rfl
theorem Es.er {α : Type} : Es n1 (some (.er n1 11) : Ou α) := Or.inr rfl
theorem Eb.ok {α : Type} {a : α} : Eb n1 (some (.ok a [endT n1])) := Or.inr (Or.inr ⟨a, rfl⟩)
protected theorem Es.bd {α β : Type} {m : Ou α} {k : α → List Tok → Ou β} (h : Es n1 m) : Es n1 (bd m k) := by
  rcases h with rfl | rfl
  · exact Es.no
  · exact Es.er
protected theorem Eb.bd {α β : Type} {m : Ou α} {k : α → List Tok → Ou β} (h : Eb n1 m) (hk : ∀ a, Eb n1 (k a [endT n1])) : Eb n1 (bd m k) := by
  rcases h with rfl | rfl | ⟨a, rfl⟩
  · exact Or.inl rfl
  · exact Or.inr (Or.inl rfl)
  · exact hk a
protected theorem Eb.bds {α β : Type} {m : Ou α} {k : α → List Tok → Ou β} (h : Eb n1 m) (hk : ∀ a, Es n1 (k a [endT n1])) : Es n1 (bd m k) := by
  rcases h with rfl | rfl | ⟨a, rfl⟩
  · exact Or.inl rfl
  · exact Or.inr rfl
  · exact hk a
theorem Cs.ct {α : Type} {m m' : Ou α} (h : Cs n1 la w r0 m m') : Ct n1 la w r0 m m' := by
  intro a ts e
  rcases h a ts e with ⟨ts', h1 | ⟨h1, rfl⟩, h2⟩ | h | h
  · exact Or.inl ⟨ts', h1, h2⟩
  · exact Or.inr (Or.inl (Or.inr (Or.inr ⟨a, h2⟩)))
  · exact Or.inr (Or.inl h.eb)
  · exact Or.inr (Or.inr h)
theorem Ct.end' {α : Type} {m m' : Ou α} (h : Eb n1 m') : Ct n1 la w r0 m m' := fun _ _ _ => Or.inr (Or.inl h)
theorem Cs.end' {α : Type} {m m' : Ou α} (h : Es n1 m') : Cs n1 la w r0 m m' := fun _ _ _ => Or.inr (Or.inl h)
theorem Cs.ok {α : Type} {a : α} {r r' : List Tok} (h : Sy n1 la w r0 r r') : Cs n1 la w r0 (some (.ok a r)) (some (.ok a r')) := by
  intro b ts e
  cases e
  exact Or.inl ⟨r', h, rfl⟩
theorem Cs.er {α : Type} {p : Nat} {c : Int} {m' : Ou α} : Cs n1 la w r0 (some (.er p c)) m' := fun _ _ e => by cases e
theorem Cs.no {α : Type} {m' : Ou α} : Cs n1 la w r0 none m' := fun _ _ e => by cases e
theorem Ct.er {α : Type} {p : Nat} {c : Int} {m' : Ou α} : Ct n1 la w r0 (some (.er p c)) m' := fun _ _ e => by cases e
theorem Ct.no {α : Type} {m' : Ou α} : Ct n1 la w r0 none m' := fun _ _ e => by cases e
theorem bd_inv {α β : Type} {m : Ou α} {k : α → List Tok → Ou β} {b : β} {ts : List Tok} (h : bd m k = some (.ok b ts)) : ∃ a t1, m = some (.ok a t1) ∧ k a t1 = some (.ok b ts) := by
  rcases m with _ | ⟨a, t1⟩ | ⟨p, c⟩
  · cases h
  · exact ⟨a, t1, rfl, h⟩
  · cases h
protected theorem Ct.bd {α β : Type} {m m' : Ou α} {k k' : α → List Tok → Ou β} (h : Ct n1 la w r0 m m') (hk : ∀ a r r', Sy n1 la w r0 r r' → Ct n1 la w r0 (k a r) (k' a r')) (he : ∀ a, Eb n1 (k' a [endT n1])) : Ct n1 la w r0 (bd m k) (bd m' k') := by
  intro b ts e
  obtain ⟨a, t1, e1, e2⟩ := bd_inv e
  rcases h a t1 e1 with ⟨t1', h1, rfl⟩ | h | ⟨x1, x2, rfl⟩
  · exact hk a t1 t1' (Or.inl h1) b ts e2
  · exact Or.inr (Or.inl (h.bd he))
  · exact Or.inr (Or.inr ⟨x1, x2, rfl⟩)
protected theorem Ct.bds {α β : Type} {m m' : Ou α} {k k' : α → List Tok → Ou β} (h : Ct n1 la w r0 m m') (hk : ∀ a r r', Sy n1 la w r0 r r' → Cs n1 la w r0 (k a r) (k' a r')) (he : ∀ a, Es n1 (k' a [endT n1])) : Cs n1 la w r0 (bd m k) (bd m' k') := by
  intro b ts e
  obtain ⟨a, t1, e1, e2⟩ := bd_inv e
  rcases h a t1 e1 with ⟨t1', h1, rfl⟩ | h | ⟨x1, x2, rfl⟩
  · exact hk a t1 t1' (Or.inl h1) b ts e2
  · exact Or.inr (Or.inl (h.bds he))
  · exact Or.inr (Or.inr ⟨x1, x2, rfl⟩)
protected theorem Cs.bd {α β : Type} {m m' : Ou α} {k k' : α → List Tok → Ou β} (h : Cs n1 la w r0 m m') (hk : ∀ a r r', Sy n1 la w r0 r r' → Cs n1 la w r0 (k a r) (k' a r')) : Cs n1 la w r0 (bd m k) (bd m' k') := by
  intro b ts e
  obtain ⟨a, t1, e1, e2⟩ := bd_inv e
  rcases h a t1 e1 with ⟨t1', h1, rfl⟩ | h | ⟨x1, x2, rfl⟩
  · exact hk a t1 t1' h1 b ts e2
  · exact Or.inr (Or.inl h.bd)
  · exact Or.inr (Or.inr ⟨x1, x2, rfl⟩)
protected theorem Cs.bdt {α β : Type} {m m' : Ou α} {k k' : α → List Tok → Ou β} (h : Cs n1 la w r0 m m') (hk : ∀ a r r', Sy n1 la w r0 r r' → Ct n1 la w r0 (k a r) (k' a r')) : Ct n1 la w r0 (bd m k) (bd m' k') := by
  intro b ts e
  obtain ⟨a, t1, e1, e2⟩ := bd_inv e
  rcases h a t1 e1 with ⟨t1', h1, rfl⟩ | h | ⟨x1, x2, rfl⟩
  · exact hk a t1 t1' h1 b ts e2
  · exact Or.inr (Or.inl h.bd.eb)
  · exact Or.inr (Or.inr ⟨x1, x2, rfl⟩)
theorem Cs.ite {α : Type} {c : Prop} [Decidable c] {a a' b b' : Ou α} (h1 : c → Cs n1 la w r0 a a') (h2 : ¬ c → Cs n1 la w r0 b b') : Cs n1 la w r0 (if c then a else b) (if c then a' else b') := by
  by_cases h : c
  · rw [if_pos h, if_pos h]; exact h1 h
  · rw [if_neg h, if_neg h]; exact h2 h
theorem Ct.ite {α : Type} {c : Prop} [Decidable c] {a a' b b' : Ou α} (h1 : c → Ct n1 la w r0 a a') (h2 : ¬ c → Ct n1 la w r0 b b') : Ct n1 la w r0 (if c then a else b) (if c then a' else b') := by
  by_cases h : c
  · rw [if_pos h, if_pos h]; exact h1 h
  · rw [if_neg h, if_neg h]; exact h2 h
theorem Ss.next {r r' : List Tok} (h : Ss n1 la w r0 r r') : ∃ t q q', r = t :: q ∧ r' = t :: q' ∧ (Ss n1 la w r0 q q' ∨ (t = la ∧ q = w :: r0 ∧ q' = [endT n1])) := by
  obtain ⟨q, rfl, rfl⟩ := h
  cases q with
  | nil => exact ⟨la, _, _, rfl, rfl, Or.inr ⟨rfl, rfl, rfl⟩⟩
  | cons t q => exact ⟨t, _, _, rfl, rfl, Or.inl ⟨q, rfl, rfl⟩⟩
theorem nxt {q q' : List Tok} {t : Tok} (h : Ss n1 la w r0 q q' ∨ (t = la ∧ q = w :: r0 ∧ q' = [endT n1])) : Sy n1 la w r0 q q' := by
  rcases h with h | ⟨_, h1, h2⟩
  · exact Or.inl h
  · exact Or.inr ⟨h1, h2⟩
theorem must_end (s : Bs) (hs : s ≠ []) (fl : Bool) : must s fl [endT n1] = some (.er n1 11) := by
  simp [must, endT, hs.symm]
theorem has_end (s : Bs) (hs : s ≠ []) (fl : Bool) : has s fl [endT n1] = some (.ok false [endT n1]) := by
  simp [has, endT, hs.symm]
theorem name_end (fl : Bool) : name fl [endT n1] = some (.er n1 11) := by
  simp [name, endT]
theorem opn_end (s : Bs) (hs : s ≠ []) (fl : Bool) (d : Nat) : opn s fl d [endT n1] = some (.er n1 11) := by
  simp [opn, endT, hs.symm]
theorem must_ct (s : Bs) (hs : s ≠ []) (fl : Bool) {r r' : List Tok} (h : Sy n1 la w r0 r r') : Cs n1 la w r0 (must s fl r) (must s fl r') := by
  rcases h with h0 | ⟨rfl, rfl⟩
  · obtain ⟨t, q, q', rfl, rfl, h⟩ := h0.next
    unfold must
    exact Cs.ite (fun _ => Cs.ite (fun _ => Cs.er) (fun _ => Cs.ok (nxt h))) (fun _ => Cs.er)
  · rw [must_end s hs]; exact Cs.end' Es.er
theorem name_ct (fl : Bool) {r r' : List Tok} (h : Sy n1 la w r0 r r') : Cs n1 la w r0 (name fl r) (name fl r') := by
  rcases h with h0 | ⟨rfl, rfl⟩
  · obtain ⟨t, q, q', rfl, rfl, h⟩ := h0.next
    unfold name
    exact Cs.ite (fun _ => Cs.ite (fun _ => Cs.er) (fun _ => Cs.ok (nxt h))) (fun _ => Cs.er)
  · rw [name_end]; exact Cs.end' Es.er
theorem opn_ct (s : Bs) (hs : s ≠ []) (fl : Bool) (d : Nat) {r r' : List Tok} (h : Sy n1 la w r0 r r') : Cs n1 la w r0 (opn s fl d r) (opn s fl d r') := by
  rcases h with h0 | ⟨rfl, rfl⟩
  · obtain ⟨t, q, q', rfl, rfl, h⟩ := h0.next
    unfold opn
    exact Cs.ite (fun _ => Cs.ite (fun _ => Cs.er) (fun _ => Cs.ite (fun _ => Cs.er) (fun _ => Cs.ok (nxt h)))) (fun _ => Cs.er)
  · rw [opn_end s hs]; exact Cs.end' Es.er
theorem has_ct (s : Bs) (hs : s ≠ []) (fl : Bool) {r r' : List Tok} (h : Sy n1 la w r0 r r') : Ct n1 la w r0 (has s fl r) (has s fl r') := by
  rcases h with h0 | ⟨rfl, rfl⟩
  · obtain ⟨t, q, q', rfl, rfl, h⟩ := h0.next
    unfold has
    exact Ct.ite (fun _ => Ct.ite (fun _ => Ct.er) (fun _ => (Cs.ok (nxt h)).ct)) (fun _ => (Cs.ok (Or.inl h0)).ct)
  · rw [has_end s hs]; exact Ct.end' Eb.ok
theorem refr_ct (fl : Bool) {r r' : List Tok} (h : Sy n1 la w r0 r r') : Ct n1 la w r0 (refr fl r) (refr fl r') := by
  unfold refr
  refine (name_ct fl h).bdt fun n r r' h => (has_ct _ (by decide) false h).bd (fun b r r' h => Ct.ite (fun _ => (name_ct false h).bdt fun m r r' h => Cs.ct (Cs.ok h)) (fun _ => (Cs.ok h).ct)) (fun b => ?_)
  split
  · rw [name_end]; exact Es.er.eb
  · exact Eb.ok
variable (n1 la w r0) in
structure HE (E E' : Bool → Nat → List Tok → Ou Ex) : Prop where
  ct : ∀ fl d r r', Sy n1 la w r0 r r' → Ct n1 la w r0 (E fl d r) (E' fl d r')
  en : ∀ fl d, Es n1 (E' fl d [endT n1])
variable {E E' : Bool → Nat → List Tok → Ou Ex}
theorem ins_end (fl : Bool) (d : Nat) : ins E' fl d [endT n1] = some (.er n1 11) := by
  unfold ins
  rw [opn_end _ (by decide)]
  rfl
theorem ins_ct (hE : HE n1 la w r0 E E') (fl : Bool) (d : Nat) {r r' : List Tok} (h : Sy n1 la w r0 r r') : Cs n1 la w r0 (ins E fl d r) (ins E' fl d r') := by
  unfold ins
  exact (opn_ct _ (by decide) fl d h).bd fun _ r r' h => (hE.ct false (d + 1) r r' h).bds (fun e r r' h => (must_ct _ (by decide) false h).bd fun _ r r' h => Cs.ok h) (fun e => by rw [must_end _ (by decide)]; exact Es.er)
theorem rwE_end (d g : Nat) (acc : Exs) : Eb n1 (rwE E' d g acc [endT n1]) := by
  cases g with
  | zero => exact Es.no.eb
  | succ g =>
    rw [rwE, if_neg (by simp [endT])]
    exact Eb.ok
theorem rwE_ct (hE : HE n1 la w r0 E E') (d : Nat) : ∀ (g g' : Nat) (acc : Exs) {r r' : List Tok}, Sy n1 la w r0 r r' → Ct n1 la w r0 (rwE E d g acc r) (rwE E' d g' acc r') := by
  intro g
  induction g with
  | zero => intro g' acc r r' h; exact Ct.no
  | succ g ih =>
    intro g' acc r r' h
    rcases h with h0 | ⟨rfl, rfl⟩
    · obtain ⟨t, q, q', rfl, rfl, h⟩ := h0.next
      cases g' with
      | zero => exact Ct.end' Es.no.eb
      | succ g' =>
        unfold rwE
        exact Ct.ite (fun _ => (hE.ct _ d q q' (nxt h)).bd (fun e r r' h => ih g' _ h) (fun e => rwE_end d g' _)) (fun _ => (Cs.ok (Or.inl h0)).ct)
    · exact Ct.end' (rwE_end d g' acc)
theorem args_end (g d : Nat) : args E' g d [endT n1] = some (.er n1 11) := by
  show (if (endT n1).x = [40] then none else some (Rs.er (endT n1).p 11)) = _
  rw [if_neg (by simp [endT])]
  rfl
theorem argsB_ct (hE : HE n1 la w r0 E E') (g g' d : Nat) {r r' : List Tok} (h : Sy n1 la w r0 r r') :
    Cs n1 la w r0 (bd (opn [40] false d r) fun _ ts => bd (E false (d + 1) ts) fun e ts => bd (rwE E (d + 1) g (.cons e.1 e.2 .nil) ts) fun l ts => bd (must [41] false ts) fun _ ts => some (.ok l ts))
      (bd (opn [40] false d r') fun _ ts => bd (E' false (d + 1) ts) fun e ts => bd (rwE E' (d + 1) g' (.cons e.1 e.2 .nil) ts) fun l ts => bd (must [41] false ts) fun _ ts => some (.ok l ts)) := by
  refine (opn_ct _ (by decide) false d h).bd fun _ r r' h => (hE.ct false (d + 1) r r' h).bds (fun e r r' h => (rwE_ct hE (d + 1) g g' _ h).bds (fun l r r' h => (must_ct _ (by decide) false h).bd fun _ r r' h => Cs.ok h) (fun l => ?_)) (fun e => (rwE_end (d + 1) g' _).bds fun l => ?_)
  all_goals (rw [must_end _ (by decide)]; exact Es.er)
theorem args_ct (hE : HE n1 la w r0 E E') (g g' d : Nat) {r r' : List Tok} (h : Sy n1 la w r0 r r') : Cs n1 la w r0 (args E g d r) (args E' g' d r') := by
  rcases h with h0 | ⟨rfl, rfl⟩
  · have hb := argsB_ct hE g g' d (Or.inl h0)
    obtain ⟨t, q, q', rfl, rfl, h⟩ := h0.next
    rcases h with h1 | ⟨rfl, rfl, rfl⟩
    · obtain ⟨u, p, p', rfl, rfl, h2⟩ := h1.next
      unfold args
      exact Cs.ite (fun _ => Cs.ok (nxt h2)) (fun _ => hb)
    · show Cs n1 t w r0 (if t.x = [40] ∧ w.x = [41] then _ else _) (if t.x = [40] ∧ (endT n1).x = [41] then _ else _)
      rw [if_neg (c := t.x = [40] ∧ (endT n1).x = [41]) (by simp [endT])]
      by_cases hc : t.x = [40] ∧ w.x = [41]
      · rw [if_pos hc]
        intro a ts e
        right
        have eo : opn [40] false d [t, endT n1] = if d = 32 then some (.er t.p 13) else some (.ok () [endT n1]) := by simp [opn, hc.1]
        rw [eo]
        by_cases hd : d = 32
        · rw [if_pos hd]
          exact Or.inr ⟨hc.2, hc.1, rfl⟩
        · rw [if_neg hd]
          exact Or.inl ((hE.en false (d + 1)).bd)
      · rw [if_neg hc]
        exact hb
  · rw [args_end]; exact Cs.end' Es.er
theorem call_end (g d : Nat) (e : Ex) : call E' g d e [endT n1] = some (.er n1 11) := by
  unfold call
  rw [args_end]
  rfl
theorem call_ct (hE : HE n1 la w r0 E E') (g g' d : Nat) (e : Ex) {r r' : List Tok} (h : Sy n1 la w r0 r r') : Cs n1 la w r0 (call E g d e r) (call E' g' d e r') :=
  (args_ct hE g g' d h).bd fun l r r' h => Cs.ok h
theorem pr_end (g : Nat) (fl : Bool) (d : Nat) : pr E' g fl d [endT n1] = some (.er n1 11) := by
  have : pr E' g fl d [endT n1] = ins E' fl d [endT n1] := by simp [pr, endT]
  rw [this]
  exact ins_end fl d
theorem pr_ct (hE : HE n1 la w r0 E E') (g g' : Nat) (fl : Bool) (d : Nat) {r r' : List Tok} (h : Sy n1 la w r0 r r') : Ct n1 la w r0 (pr E g fl d r) (pr E' g' fl d r') := by
  rcases h with h0 | ⟨rfl, rfl⟩
  · have hr := refr_ct fl (Or.inl h0 : Sy n1 la w r0 r r')
    have hi := ins_ct hE fl d (Or.inl h0 : Sy n1 la w r0 r r')
    obtain ⟨t, q, q', rfl, rfl, h⟩ := h0.next
    have lf : ∀ {x : Ex}, Ct n1 la w r0 (if fl then some (.er t.p 3) else some (.ok x q)) (if fl then some (.er t.p 3) else some (.ok x q')) := Ct.ite (fun _ => Ct.er) (fun _ => (Cs.ok (nxt h)).ct)
    have cv : ∀ op : Int, Ct n1 la w r0 (if fl then some (.er t.p 3) else bd (ins E false d q) fun e ts => some (.ok (one op e) ts)) (if fl then some (.er t.p 3) else bd (ins E' false d q') fun e ts => some (.ok (one op e) ts)) :=
      fun op => Ct.ite (fun _ => Ct.er) (fun _ => (ins_ct hE false d (nxt h)).bdt fun e r r' h => Cs.ct (Cs.ok h))
    unfold pr
    refine Ct.ite (fun _ => lf) (fun _ => Ct.ite (fun _ => ?_) (fun _ => Ct.ite (fun _ => lf) (fun _ => Ct.ite (fun _ => lf) (fun _ => Ct.ite (fun _ => lf) (fun _ => Ct.ite (fun _ => lf) (fun _ => Ct.ite (fun _ => lf) (fun _ => Ct.ite (fun _ => cv 3) (fun _ => Ct.ite (fun _ => cv 4) (fun _ => hi.ct)))))))))
    refine hr.bd (fun e r r' h => ?_) (fun e => ?_)
    · rcases h with h0 | ⟨rfl, rfl⟩
      · have hc := call_ct hE g g' d e (Or.inl h0 : Sy n1 la w r0 r r')
        obtain ⟨u, p, p', rfl, rfl, h⟩ := h0.next
        exact Ct.ite (fun _ => hc.ct) (fun _ => (Cs.ok (Or.inl h0)).ct)
      · refine Ct.end' ?_
        simp only
        rw [if_neg (by simp [endT])]
        exact Eb.ok
    · simp only
      rw [if_neg (by simp [endT])]
      exact Eb.ok
  · rw [pr_end]; exact Ct.end' Es.er.eb
theorem un_end (g : Nat) (f : Nat) (fl : Bool) (d : Nat) : Es n1 (un E' g f fl d [endT n1]) := by
  cases f with
  | zero => exact Es.no
  | succ f =>
    rw [un, if_neg (by simp [endT]), if_neg (by simp [endT]), pr_end]
    exact Es.er
theorem un_ct (hE : HE n1 la w r0 E E') (g g' : Nat) : ∀ (f f' : Nat) (fl : Bool) (d : Nat) {r r' : List Tok}, Sy n1 la w r0 r r' → Ct n1 la w r0 (un E g f fl d r) (un E' g' f' fl d r') := by
  intro f
  induction f with
  | zero => intro f' fl d r r' h; exact Ct.no
  | succ f ih =>
    intro f' fl d r r' h
    rcases h with h0 | ⟨rfl, rfl⟩
    · have hp := pr_ct hE g g' fl d (Or.inl h0 : Sy n1 la w r0 r r')
      have ho := fun s hs => opn_ct (n1 := n1) (la := la) (w := w) (r0 := r0) s hs fl d (Or.inl h0 : Sy n1 la w r0 r r')
      obtain ⟨t, q, q', rfl, rfl, h⟩ := h0.next
      cases f' with
      | zero => exact Ct.end' Es.no.eb
      | succ f' =>
        unfold un
        refine Ct.ite (fun _ => ?_) (fun _ => Ct.ite (fun _ => ?_) (fun _ => hp))
        · exact (ho [45] (by decide)).bdt fun _ r r' h => (ih f' false (d + 1) h).bd (fun e r r' h => (Cs.ok h).ct) (fun e => Eb.ok)
        · exact (ho [33] (by decide)).bdt fun _ r r' h => (ih f' false (d + 1) h).bd (fun e r r' h => (Cs.ok h).ct) (fun e => Eb.ok)
    · exact Ct.end' (un_end g' f' fl d).eb
theorem lp_end (N' : List Tok → Ou Ex) (lv : Nat) (h0 : lv ≠ 0) (f : Nat) (e : Ex) : Eb n1 (lp N' lv f e [endT n1]) := by
  cases f with
  | zero => exact Es.no.eb
  | succ f =>
    rw [lp, if_pos (by simp [endT, opOf]; omega)]
    exact Eb.ok
theorem lp_ct {N N' : List Tok → Ou Ex} (lv : Nat) (hl : lv ≠ 0) (hN : ∀ r r', Sy n1 la w r0 r r' → Ct n1 la w r0 (N r) (N' r')) : ∀ (f f' : Nat) (e : Ex) {r r' : List Tok}, Sy n1 la w r0 r r' → Ct n1 la w r0 (lp N lv f e r) (lp N' lv f' e r') := by
  intro f
  induction f with
  | zero => intro f' e r r' h; exact Ct.no
  | succ f ih =>
    intro f' e r r' h
    rcases h with h0 | ⟨rfl, rfl⟩
    · obtain ⟨t, q, q', rfl, rfl, h⟩ := h0.next
      cases f' with
      | zero => exact Ct.end' Es.no.eb
      | succ f' =>
        unfold lp
        refine Ct.ite (fun _ => (Cs.ok (Or.inl h0)).ct) (fun _ => (hN q q' (nxt h)).bd (fun e2 r r' h => Ct.ite (fun _ => (Cs.ok h).ct) (fun _ => ih f' _ h)) (fun e2 => ?_))
        split
        · exact Eb.ok
        · exact lp_end N' lv hl f' _
    · exact Ct.end' (lp_end N' lv hl f' e)
theorem two_end (g : Nat) : ∀ (n : Nat) (fl : Bool) (d : Nat), Es n1 (two E' g n fl d [endT n1])
  | 0, fl, d => un_end g g fl d
  | n + 1, fl, d => (two_end g n fl d).bd
theorem two_ct (hE : HE n1 la w r0 E E') (g g' : Nat) : ∀ (n : Nat), n ≤ 5 → ∀ (fl : Bool) (d : Nat) {r r' : List Tok}, Sy n1 la w r0 r r' → Ct n1 la w r0 (two E g n fl d r) (two E' g' n fl d r') := by
  intro n
  induction n with
  | zero => intro _ fl d r r' h; exact un_ct hE g g' g g' fl d h
  | succ n ih =>
    intro hn fl d r r' h
    unfold two
    exact (ih (by omega) fl d h).bd (fun e r r' h => lp_ct (5 - n) (by omega) (fun r r' h => ih (by omega) false d h) g g' e h) (fun e => lp_end _ (5 - n) (by omega) g' e)
theorem expr_he : ∀ (f f' : Nat), HE n1 la w r0 (expr f) (expr f')
  | 0, 0 => ⟨fun _ _ _ _ _ => Ct.no, fun _ _ => Es.no⟩
  | 0, f' + 1 => ⟨fun _ _ _ _ _ => Ct.no, fun fl d => two_end (f' + 1) 5 fl d⟩
  | f + 1, 0 => ⟨fun _ _ _ _ _ => Ct.end' Es.no.eb, fun _ _ => Es.no⟩
  | f + 1, f' + 1 => ⟨fun fl d r r' h => two_ct (expr_he f f') (f + 1) (f' + 1) 5 (Nat.le_refl _) fl d h, fun fl d => two_end (f' + 1) 5 fl d⟩
end
end Pz
end Go.Proofs.YteijjaabngkbjaaGreatDoor
namespace Go.Proofs.YteijjaabngkbjaaGreatDoor
set_option linter.unusedSimpArgs false
set_option linter.unusedVariables false
namespace Pz
open Lx Te
section
variable {n1 : Nat} {la w : Tok} {r0 : List Tok}
variable {E E' : Nat → List Tok → Ou Ex} {C C' : Nat → Ex → List Tok → Ou Ex} {B B' : Nat → List Tok → Ou Sts}
variable (n1 la w r0) in
structure HE0 (E E' : Nat → List Tok → Ou Ex) : Prop where
  ct : ∀ d r r', Sy n1 la w r0 r r' → Ct n1 la w r0 (E d r) (E' d r')
  en : ∀ d, Es n1 (E' d [endT n1])
variable (n1 la w r0) in
structure HC0 (C C' : Nat → Ex → List Tok → Ou Ex) : Prop where
  ct : ∀ d e r r', Sy n1 la w r0 r r' → Cs n1 la w r0 (C d e r) (C' d e r')
  en : ∀ d e, Es n1 (C' d e [endT n1])
variable (n1 la w r0) in
structure HB0 (B B' : Nat → List Tok → Ou Sts) : Prop where
  ct : ∀ d r r', Sy n1 la w r0 r r' → Cs n1 la w r0 (B d r) (B' d r')
  en : ∀ d, Es n1 (B' d [endT n1])
theorem lone_end (hE : HE0 n1 la w r0 E E') (d : Nat) : Es n1 (lone E' d [endT n1]) := (hE.en d).bd
theorem lone_ct (hE : HE0 n1 la w r0 E E') (d : Nat) {r r' : List Tok} (h : Sy n1 la w r0 r r') : Ct n1 la w r0 (lone E d r) (lone E' d r') :=
  (hE.ct d r r' h).bd (fun e r r' h => Cs.ct (Cs.ok h)) (fun e => Eb.ok)
theorem ended_end (kind : Int) (n : Bs) (e : Exs) : Es n1 (ended kind n e [endT n1]) := by
  unfold ended
  rw [must_end _ (by decide)]
  exact Es.er
theorem ended_ct (kind : Int) (n : Bs) (e : Exs) {r r' : List Tok} (h : Sy n1 la w r0 r r') : Cs n1 la w r0 (ended kind n e r) (ended kind n e r') :=
  (must_ct _ (by decide) false h).bd fun _ r r' h => Cs.ok h
theorem asg_ct (hE : HE0 n1 la w r0 E E') (d : Nat) (kind : Int) (n : Bs) {r r' : List Tok} (h : Sy n1 la w r0 r r') : Cs n1 la w r0 (asg E d kind n r) (asg E' d kind n r') :=
  (must_ct _ (by decide) false h).bd fun _ r r' h => (lone_ct hE d h).bds (fun e r r' h => ended_ct kind n e h) (fun e => ended_end kind n e)
theorem named_ct (hE : HE0 n1 la w r0 E E') (hC : HC0 n1 la w r0 C C') (d : Nat) {r r' : List Tok} (h : Sy n1 la w r0 r r') : Cs n1 la w r0 (named E C d r) (named E' C' d r') := by
  unfold named
  have hen : ∀ e : Ex, Es n1 (if e.1.kind = 2 ∧ (endT n1).x = [61] then asg E' d 2 e.1.name [endT n1] else bd (C' d e [endT n1]) fun c ts => ended 9 [] (.cons c.1 c.2 .nil) ts) := by
    intro e
    rw [if_neg (by simp [endT])]
    exact (hC.en d e).bd
  refine (refr_ct false h).bds (fun e r r' h => ?_) (fun e => hen e)
  rcases h with h0 | ⟨rfl, rfl⟩
  · have ha := asg_ct hE d 2 e.1.name (Or.inl h0 : Sy n1 la w r0 r r')
    have hc := (hC.ct d e r r' (Or.inl h0)).bd (k := fun c ts => ended 9 [] (.cons c.1 c.2 .nil) ts) (k' := fun c ts => ended 9 [] (.cons c.1 c.2 .nil) ts) fun c r r' h => ended_ct 9 [] _ h
    obtain ⟨u, p, p', rfl, rfl, h⟩ := h0.next
    exact Cs.ite (fun _ => ha) (fun _ => hc)
  · exact Cs.end' (hen e)
theorem branch_ct (hE : HE0 n1 la w r0 E E') (hB : HB0 n1 la w r0 B B') (d : Nat) {r r' : List Tok} (h : Sy n1 la w r0 r r') : Ct n1 la w r0 (branch E B d r) (branch E' B' d r') := by
  unfold branch
  refine (lone_ct hE d h).bd (fun e r r' h => (hB.ct d r r' h).bdt fun b r r' h => (has_ct _ (by decide) false h).bd (fun y r r' h => Ct.ite (fun _ => (hB.ct d r r' h).bdt fun l r r' h => Cs.ct (Cs.ok h)) (fun _ => Cs.ct (Cs.ok h))) (fun y => ?_)) (fun e => (hB.en d).bd.eb)
  split
  · exact (hB.en d).bd.eb
  · exact Eb.ok
theorem while_ct (hE : HE0 n1 la w r0 E E') (hB : HB0 n1 la w r0 B B') (d : Nat) {r r' : List Tok} (h : Sy n1 la w r0 r r') : Cs n1 la w r0 (while_ E B d r) (while_ E' B' d r') :=
  (lone_ct hE d h).bds (fun e r r' h => (hB.ct d r r' h).bd fun b r r' h => Cs.ok h) (fun e => (hB.en d).bd)
theorem returned_end (hE : HE0 n1 la w r0 E E') (d : Nat) : Es n1 (returned E' d [endT n1]) := by
  have : returned E' d [endT n1] = bd (lone E' d [endT n1]) fun e ts => ended 5 [] e ts := by simp [returned, endT]
  rw [this]
  exact (lone_end hE d).bd
theorem returned_ct (hE : HE0 n1 la w r0 E E') (d : Nat) {r r' : List Tok} (h : Sy n1 la w r0 r r') : Cs n1 la w r0 (returned E d r) (returned E' d r') := by
  rcases h with h0 | ⟨rfl, rfl⟩
  · have h1 := ended_ct 5 [] .nil (Or.inl h0 : Sy n1 la w r0 r r')
    have h2 := (lone_ct hE d (Or.inl h0 : Sy n1 la w r0 r r')).bds (k := fun e ts => ended 5 [] e ts) (k' := fun e ts => ended 5 [] e ts) (fun e r r' h => ended_ct 5 [] e h) (fun e => ended_end 5 [] e)
    obtain ⟨t, q, q', rfl, rfl, h⟩ := h0.next
    exact Cs.ite (fun _ => h1) (fun _ => h2)
  · exact Cs.end' (returned_end hE d)
theorem tried_ct (hB : HB0 n1 la w r0 B B') (d : Nat) {r r' : List Tok} (h : Sy n1 la w r0 r r') : Cs n1 la w r0 (tried B d r) (tried B' d r') :=
  (hB.ct d r r' h).bd fun b r r' h => (must_ct _ (by decide) false h).bd fun _ r r' h => (name_ct false h).bd fun n r r' h => (hB.ct d r r' h).bd fun l r r' h => Cs.ok h
theorem shown_ct (hE : HE0 n1 la w r0 E E') (kind : Int) (d : Nat) {r r' : List Tok} (h : Sy n1 la w r0 r r') : Cs n1 la w r0 (bd (lone E d r) fun e ts => ended kind [] e ts) (bd (lone E' d r') fun e ts => ended kind [] e ts) :=
  (lone_ct hE d h).bds (fun e r r' h => ended_ct kind [] e h) (fun e => ended_end kind [] e)
theorem stm_end (d : Nat) : stm E' C' B' d [endT n1] = some (.er n1 11) := by simp [stm, endT]
theorem stm_ct (hE : HE0 n1 la w r0 E E') (hC : HC0 n1 la w r0 C C') (hB : HB0 n1 la w r0 B B') (d : Nat) {r r' : List Tok} (h : Sy n1 la w r0 r r') : Ct n1 la w r0 (stm E C B d r) (stm E' C' B' d r') := by
  rcases h with h0 | ⟨rfl, rfl⟩
  · have h1 := named_ct hE hC d (Or.inl h0 : Sy n1 la w r0 r r')
    obtain ⟨t, q, q', rfl, rfl, h⟩ := h0.next
    have h := nxt h
    unfold stm
    exact Ct.ite (fun _ => h1.ct) (fun _ => Ct.ite (fun _ => Cs.ct ((name_ct false h).bd fun n r r' h => asg_ct hE d 1 n h)) (fun _ => Ct.ite (fun _ => branch_ct hE hB d h) (fun _ => Ct.ite (fun _ => (while_ct hE hB d h).ct) (fun _ => Ct.ite (fun _ => (returned_ct hE d h).ct)
      (fun _ => Ct.ite (fun _ => (shown_ct hE 6 d h).ct) (fun _ => Ct.ite (fun _ => (shown_ct hE 7 d h).ct) (fun _ => Ct.ite (fun _ => (tried_ct hB d h).ct) (fun _ => Ct.er))))))))
  · rw [stm_end]; exact Ct.end' Es.er.eb
theorem sts_end {S' : List Tok → Ou St} (hS : Es n1 (S' [endT n1])) (g : Nat) (acc : Sts) : Es n1 (sts S' g acc [endT n1]) := by
  cases g with
  | zero => exact Es.no
  | succ g =>
    rw [sts, if_neg (by simp [endT])]
    exact hS.bd
theorem sts_ct {S S' : List Tok → Ou St} (hS : ∀ r r', Sy n1 la w r0 r r' → Ct n1 la w r0 (S r) (S' r')) (hS' : Es n1 (S' [endT n1])) : ∀ (g g' : Nat) (acc : Sts) {r r' : List Tok}, Sy n1 la w r0 r r' → Cs n1 la w r0 (sts S g acc r) (sts S' g' acc r') := by
  intro g
  induction g with
  | zero => intro g' acc r r' h; exact Cs.no
  | succ g ih =>
    intro g' acc r r' h
    rcases h with h0 | ⟨rfl, rfl⟩
    · have h1 := hS r r' (Or.inl h0)
      obtain ⟨t, q, q', rfl, rfl, h⟩ := h0.next
      cases g' with
      | zero => exact Cs.end' Es.no
      | succ g' =>
        unfold sts
        exact Cs.ite (fun _ => Cs.ok (Or.inl h0)) (fun _ => h1.bds (fun s r r' h => ih g' _ h) (fun s => sts_end hS' g' _))
    · exact Cs.end' (sts_end hS' g' acc)
theorem blk_hb (hE : HE0 n1 la w r0 E E') (hC : HC0 n1 la w r0 C C') (g g' : Nat) : ∀ f f', HB0 n1 la w r0 (blk E C g f) (blk E' C' g' f') := by
  have en : ∀ f' d, Es n1 (blk E' C' g' f' d [endT n1]) := by
    intro f' d
    cases f' with
    | zero => exact Es.no
    | succ f' =>
      unfold blk
      rw [opn_end _ (by decide)]
      exact Es.er
  intro f
  induction f with
  | zero => intro f'; exact ⟨fun _ _ _ _ => Cs.no, en f'⟩
  | succ f ih =>
    intro f'
    refine ⟨fun d r r' h => ?_, en f'⟩
    cases f' with
    | zero => exact Cs.end' Es.no
    | succ f' =>
      unfold blk
      exact (opn_ct _ (by decide) false d h).bd fun _ r r' h => (sts_ct (fun r r' h => stm_ct hE hC (ih f') (d + 1) h) (by rw [stm_end]; exact Es.er) g g' .nil h).bd fun l r r' h => (must_ct _ (by decide) false h).bd fun _ r r' h => Cs.ok h
theorem typ_end : typ [endT n1] = some (.er n1 11) := by simp [typ, endT]
theorem typ_ct {r r' : List Tok} (h : Sy n1 la w r0 r r') : Cs n1 la w r0 (typ r) (typ r') := by
  rcases h with h0 | ⟨rfl, rfl⟩
  · obtain ⟨t, q, q', rfl, rfl, h⟩ := h0.next
    have h := nxt h
    unfold typ
    exact Cs.ite (fun _ => Cs.ok h) (fun _ => Cs.ite (fun _ => Cs.ok h) (fun _ => Cs.ite (fun _ => Cs.ok h) (fun _ => Cs.er)))
  · rw [typ_end]; exact Cs.end' Es.er
theorem par1_end (fl : Bool) : Es n1 (par1 fl [endT n1]) := by
  unfold par1
  rw [name_end]
  exact Es.er
theorem par1_ct (fl : Bool) {r r' : List Tok} (h : Sy n1 la w r0 r r') : Cs n1 la w r0 (par1 fl r) (par1 fl r') :=
  (name_ct fl h).bd fun n r r' h => (must_ct _ (by decide) false h).bd fun _ r r' h => (typ_ct h).bd fun t r r' h => Cs.ok h
theorem rwP_end (g : Nat) (acc : List Pa) : Eb n1 (rwP g acc [endT n1]) := by
  cases g with
  | zero => exact Es.no.eb
  | succ g =>
    rw [rwP, if_neg (by simp [endT])]
    exact Eb.ok
theorem rwP_ct : ∀ (g g' : Nat) (acc : List Pa) {r r' : List Tok}, Sy n1 la w r0 r r' → Ct n1 la w r0 (rwP g acc r) (rwP g' acc r') := by
  intro g
  induction g with
  | zero => intro g' acc r r' h; exact Ct.no
  | succ g ih =>
    intro g' acc r r' h
    rcases h with h0 | ⟨rfl, rfl⟩
    · obtain ⟨t, q, q', rfl, rfl, h⟩ := h0.next
      cases g' with
      | zero => exact Ct.end' Es.no.eb
      | succ g' =>
        unfold rwP
        exact Ct.ite (fun _ => (par1_ct _ (nxt h)).bdt fun e r r' h => ih g' _ h) (fun _ => (Cs.ok (Or.inl h0)).ct)
    · exact Ct.end' (rwP_end g' acc)
theorem params_end (g : Nat) : Es n1 (params g [endT n1]) := by
  have : params g [endT n1] = bd (par1 false [endT n1]) fun p ts => rwP g [p] ts := by simp [params, endT]
  rw [this]
  exact (par1_end false).bd
theorem params_ct (g g' : Nat) {r r' : List Tok} (h : Sy n1 la w r0 r r') : Ct n1 la w r0 (params g r) (params g' r') := by
  rcases h with h0 | ⟨rfl, rfl⟩
  · have h1 := (par1_ct false (Or.inl h0 : Sy n1 la w r0 r r')).bdt (k := fun p ts => rwP g [p] ts) (k' := fun p ts => rwP g' [p] ts) fun p r r' h => rwP_ct g g' [p] h
    obtain ⟨t, q, q', rfl, rfl, h⟩ := h0.next
    exact Ct.ite (fun _ => (Cs.ok (Or.inl h0)).ct) (fun _ => h1)
  · exact Ct.end' (params_end g').eb
theorem result_ct {r r' : List Tok} (h : Sy n1 la w r0 r r') : Ct n1 la w r0 (result r) (result r') := by
  refine (has_ct _ (by decide) false h).bd (fun y r r' h => Ct.ite (fun _ => (typ_ct h).ct) (fun _ => Cs.ct (Cs.ok h))) (fun y => ?_)
  split
  · rw [typ_end]; exact Es.er.eb
  · exact Eb.ok
theorem holder_ct (hE : HE0 n1 la w r0 E E') (kind : Int) (ex : Bool) {r r' : List Tok} (h : Sy n1 la w r0 r r') : Cs n1 la w r0 (holder E kind ex r) (holder E' kind ex r') := by
  unfold holder
  refine (name_ct false h).bd fun n r r' h => (must_ct _ (by decide) false h).bd fun _ r r' h => (typ_ct h).bd fun t r r' h => (must_ct _ (by decide) false h).bd fun _ r r' h => (lone_ct hE 0 h).bds (fun e r r' h => (must_ct _ (by decide) false h).bd fun _ r r' h => Cs.ok h) (fun e => ?_)
  rw [must_end _ (by decide)]
  exact Es.er
theorem fnc_ct (hB : HB0 n1 la w r0 B B') (g g' : Nat) (ex : Bool) {r r' : List Tok} (h : Sy n1 la w r0 r r') : Cs n1 la w r0 (fnc B g ex r) (fnc B' g' ex r') := by
  unfold fnc
  refine (name_ct false h).bd fun n r r' h => (must_ct _ (by decide) false h).bd fun _ r r' h => (params_ct g g' h).bds (fun ps r r' h => (must_ct _ (by decide) false h).bd fun _ r r' h => (result_ct h).bds (fun t r r' h => (hB.ct 0 r r' h).bd fun b r r' h => Cs.ok h) (fun t => (hB.en 0).bd)) (fun ps => ?_)
  rw [must_end _ (by decide)]
  exact Es.er
theorem dcl2_end (g : Nat) (ex fl : Bool) : dcl2 E' B' g ex fl [endT n1] = some (.er n1 11) := by simp [dcl2, endT]
theorem dcl2_ct (hE : HE0 n1 la w r0 E E') (hB : HB0 n1 la w r0 B B') (g g' : Nat) (ex fl : Bool) {r r' : List Tok} (h : Sy n1 la w r0 r r') : Cs n1 la w r0 (dcl2 E B g ex fl r) (dcl2 E' B' g' ex fl r') := by
  rcases h with h0 | ⟨rfl, rfl⟩
  · obtain ⟨t, q, q', rfl, rfl, h⟩ := h0.next
    have h := nxt h
    unfold dcl2
    exact Cs.ite (fun _ => Cs.ite (fun _ => Cs.er) (fun _ => holder_ct hE 1 ex h)) (fun _ => Cs.ite (fun _ => Cs.ite (fun _ => Cs.er) (fun _ => holder_ct hE 2 ex h)) (fun _ => Cs.ite (fun _ => Cs.ite (fun _ => Cs.er) (fun _ => fnc_ct hB g g' ex h)) (fun _ => Cs.er)))
  · rw [dcl2_end]; exact Cs.end' Es.er
theorem dcl_ct (hE : HE0 n1 la w r0 E E') (hB : HB0 n1 la w r0 B B') (g g' : Nat) (fl : Bool) {r r' : List Tok} (h : Ss n1 la w r0 r r') : Cs n1 la w r0 (dcl E B g fl r) (dcl E' B' g' fl r') := by
  have h2 := dcl2_ct hE hB g g' false fl (Or.inl h)
  obtain ⟨t, q, q', rfl, rfl, h3⟩ := h.next
  have h := h3
  exact Cs.ite (fun _ => Cs.ite (fun _ => Cs.er) (fun _ => dcl2_ct hE hB g g' true false (nxt h))) (fun _ => h2)
def Wb (t : Tok) : Prop := t.x = [105, 109, 112, 111, 114, 116] ∨ t.x = [101, 120, 112, 111, 114, 116] ∨ t.x = [99, 111, 110, 115, 116] ∨ t.x = [118, 97, 114] ∨ t.x = [102, 110]
theorem dcl_first {g : Nat} {fl : Bool} {t : Tok} {r ts : List Tok} {d : De} (h : dcl E B g fl (t :: r) = some (.ok d ts)) : Wb t := by
  unfold dcl at h
  simp only at h
  split at h
  · exact Or.inr (Or.inl ‹_›)
  · unfold dcl2 at h
    simp only at h
    split at h
    · exact Or.inr (Or.inr (Or.inl ‹_›))
    · split at h
      · rename_i hc; exact Or.inr (Or.inr (Or.inr (Or.inl hc.2)))
      · split at h
        · exact Or.inr (Or.inr (Or.inr (Or.inr ‹_›)))
        · cases h
theorem imp1_ct (fl : Bool) {r r' : List Tok} (h : Sy n1 la w r0 r r') : Cs n1 la w r0 (imp1 fl r) (imp1 fl r') :=
  (must_ct _ (by decide) fl h).bd fun _ r r' h => (name_ct false h).bd fun n r r' h => (must_ct _ (by decide) false h).bd fun _ r r' h => Cs.ok h
variable (n1 la w r0) in
def Cw {α : Type} (m m' : Ou α) : Prop := ∀ a ts, m = some (.ok a ts) → (∃ ts', Sy n1 la w r0 ts ts' ∧ m' = some (.ok a ts')) ∨ Es n1 m' ∨ Xc la w m' ∨ (Wb w ∧ ∃ a', m' = some (.ok a' [endT n1]))
theorem imps_cw : ∀ (f f' : Nat) (acc : List Bs) {r r' : List Tok}, Sy n1 la w r0 r r' → Cw n1 la w r0 (imps f acc r) (imps f' acc r') := by
  intro f
  induction f with
  | zero => intro f' acc r r' h a ts e; cases e
  | succ f ih =>
    intro f' acc r r' h
    cases f' with
    | zero => exact fun _ _ _ => Or.inr (Or.inl Es.no)
    | succ f' =>
      rcases h with h0 | ⟨rfl, rfl⟩
      · have h1 := imp1_ct (acc.length == 16) (Or.inl h0 : Sy n1 la w r0 r r')
        obtain ⟨t, q, q', rfl, rfl, h⟩ := h0.next
        unfold imps
        by_cases hc : t.x = [105, 109, 112, 111, 114, 116]
        · rw [if_pos hc, if_pos hc]
          intro a ts e
          obtain ⟨n, t1, e1, e2⟩ := bd_inv e
          rcases h1 n t1 e1 with ⟨t1', h2, h3⟩ | h2 | ⟨x1, x2, h3⟩
          · rw [h3]
            exact ih f' _ h2 a ts e2
          · exact Or.inr (Or.inl h2.bd)
          · rw [h3]
            exact Or.inr (Or.inr (Or.inl ⟨x1, x2, rfl⟩))
        · rw [if_neg hc, if_neg hc]
          intro a ts e
          cases e
          exact Or.inl ⟨_, Or.inl h0, rfl⟩
      · have e' : imps (f' + 1) acc [endT n1] = some (.ok acc [endT n1]) := by rw [imps, if_neg (by simp [endT])]
        rw [e']
        intro a ts e
        rw [imps] at e
        split at e
        · exact Or.inr (Or.inr (Or.inr ⟨Or.inl ‹_›, _, rfl⟩))
        · cases e
          exact Or.inl ⟨_, Or.inr ⟨rfl, rfl⟩, rfl⟩
theorem dcls_cw (hr : r0 ≠ []) (hE : HE0 n1 la w r0 E E') (hB : HB0 n1 la w r0 B B') (g g' : Nat) : ∀ (f f' : Nat) (acc : List De) {r r' : List Tok}, Sy n1 la w r0 r r' → ∀ a ts, dcls E B g f acc r = some (.ok a ts) →
    Es n1 (dcls E' B' g' f' acc r') ∨ Xc la w (dcls E' B' g' f' acc r') ∨ (Wb w ∧ ∃ a', dcls E' B' g' f' acc r' = some (.ok a' [endT n1])) := by
  intro f
  induction f with
  | zero => intro f' acc r r' h a ts e; cases e
  | succ f ih =>
    intro f' acc r r' h a ts e
    cases f' with
    | zero => exact Or.inl Es.no
    | succ f' =>
      rcases h with h0 | ⟨rfl, rfl⟩
      · have h1 := dcl_ct hE hB g g' (acc.length == 64) h0
        obtain ⟨q, rfl, rfl⟩ := h0
        have l1 : ∃ t u p, q ++ la :: w :: r0 = t :: u :: p := by
          rcases q with _ | ⟨t, _ | ⟨u, q⟩⟩
          · exact ⟨_, _, _, rfl⟩
          · exact ⟨_, _, _, rfl⟩
          · exact ⟨_, _, _, rfl⟩
        have l2 : ∃ t u p, q ++ [la, endT n1] = t :: u :: p := by
          rcases q with _ | ⟨t, _ | ⟨u, q⟩⟩
          · exact ⟨_, _, _, rfl⟩
          · exact ⟨_, _, _, rfl⟩
          · exact ⟨_, _, _, rfl⟩
        obtain ⟨t, u, p, e1⟩ := l1
        obtain ⟨t', u', p', e2⟩ := l2
        rw [e1] at e h1
        rw [e2] at h1 ⊢
        rw [dcls] at e ⊢
        obtain ⟨d, t1, e3, e4⟩ := bd_inv e
        rcases h1 d t1 e3 with ⟨t1', h2, h3⟩ | h2 | ⟨x1, x2, h3⟩
        · rw [h3]
          exact ih f' _ h2 a ts e4
        · exact Or.inl h2.bd
        · rw [h3]
          exact Or.inr (Or.inl ⟨x1, x2, rfl⟩)
      · obtain ⟨u, p, rfl⟩ : ∃ u p, r0 = u :: p := by
          cases r0 with
          | nil => exact absurd rfl hr
          | cons u p => exact ⟨u, p, rfl⟩
        rw [dcls] at e
        obtain ⟨d, t1, e3, e4⟩ := bd_inv e
        exact Or.inr (Or.inr ⟨dcl_first e3, acc, rfl⟩)
end
theorem mdl_cut {n1 : Nat} {la w : Tok} {r0 : List Tok} (hr : r0 ≠ []) (g g' : Nat) {r r' : List Tok} (h : Sy n1 la w r0 r r') (m : Mo) (ts : List Tok) (e : mdl g r = some (.ok m ts)) :
    Es n1 (mdl g' r') ∨ Xc la w (mdl g' r') ∨ (Wb w ∧ ∃ m', mdl g' r' = some (.ok m' [endT n1])) := by
  have hE := expr_he (n1 := n1) (la := la) (w := w) (r0 := r0) g g'
  have hE0 : HE0 n1 la w r0 (E0 g) (E0 g') := ⟨fun d r r' h => hE.ct false d r r' h, fun d => hE.en false d⟩
  have hC0 : HC0 n1 la w r0 (C0 g) (C0 g') := ⟨fun d e r r' h => call_ct hE g g' d e h, fun d e => by unfold C0; rw [call_end]; exact Es.er⟩
  have hB0 : HB0 n1 la w r0 (B0 g) (B0 g') := blk_hb hE0 hC0 g g' g g'
  unfold mdl at e ⊢
  obtain ⟨_, t1, e1, e⟩ := bd_inv e
  rcases must_ct _ (by decide) false h _ _ e1 with ⟨t1', h1, q1⟩ | h2 | ⟨x1, x2, h3⟩
  rotate_left
  · exact Or.inl h2.bd
  · rw [h3]; exact Or.inr (Or.inl ⟨x1, x2, rfl⟩)
  rw [q1, bd_ok]
  obtain ⟨nm, t2, e2, e⟩ := bd_inv e
  rcases name_ct false h1 _ _ e2 with ⟨t2', h1, q1⟩ | h2 | ⟨x1, x2, h3⟩
  rotate_left
  · exact Or.inl h2.bd
  · rw [h3]; exact Or.inr (Or.inl ⟨x1, x2, rfl⟩)
  rw [q1, bd_ok]
  obtain ⟨_, t3, e3, e⟩ := bd_inv e
  rcases must_ct _ (by decide) false h1 _ _ e3 with ⟨t3', h1, q1⟩ | h2 | ⟨x1, x2, h3⟩
  rotate_left
  · exact Or.inl h2.bd
  · rw [h3]; exact Or.inr (Or.inl ⟨x1, x2, rfl⟩)
  rw [q1, bd_ok]
  obtain ⟨is, t4, e4, e⟩ := bd_inv e
  rcases imps_cw g g' [] h1 _ _ e4 with ⟨t4', h1, q1⟩ | h2 | ⟨x1, x2, h3⟩ | ⟨hw, is', h3⟩
  rotate_left
  · exact Or.inl h2.bd
  · rw [h3]; exact Or.inr (Or.inl ⟨x1, x2, rfl⟩)
  · rw [h3, bd_ok]
    cases g' with
    | zero => exact Or.inl Es.no
    | succ g' => exact Or.inr (Or.inr ⟨hw, _, rfl⟩)
  rw [q1, bd_ok]
  obtain ⟨ds, t5, e5, e⟩ := bd_inv e
  rcases dcls_cw hr hE0 hB0 g g' g g' [] h1 _ _ e5 with h2 | ⟨x1, x2, h3⟩ | ⟨hw, ds', h3⟩
  · exact Or.inl h2.bd
  · rw [h3]; exact Or.inr (Or.inl ⟨x1, x2, rfl⟩)
  · rw [h3]; exact Or.inr (Or.inr ⟨hw, _, rfl⟩)
theorem parT_cut (ts : List Tok) (n : Nat) (m : Mo) (p : Nat) (c : Int) (h : parT ts n = some (some m, p, c)) (hx : ∀ t ∈ ts, t.x ≠ []) (i : Nat) (w : Tok) (hi : ts[i]? = some w) (n1 : Nat) :
    parT (ts.take i) n1 = some (none, n1, 11) ∨ (Wb w ∧ 3 ≤ i ∧ ∃ m', parT (ts.take i) n1 = some (some m', 0, 0)) ∨ (w.x = [41] ∧ ∃ j la, i = j + 1 ∧ ts[j]? = some la ∧ la.x = [40] ∧ parT (ts.take i) n1 = some (none, la.p, 13)) := by
  have hil : i < ts.length := by
    rcases Nat.lt_or_ge i ts.length with h | h
    · exact h
    · rw [List.getElem?_eq_none h] at hi; cases hi
  obtain ⟨rr, hrr⟩ := parT_some (ts.take i) n1 (fun t ht => hx t (List.mem_of_mem_take ht))
  have hfull : ∃ t, mdl (ts.length + 2) (ts ++ [endT n]) = some (.ok m [t]) := by
    unfold parT whole at h
    split at h
    · cases h
    · cases h
    · rename_i a t heq
      simp only [Option.some.injEq, Prod.mk.injEq] at h
      rw [← h.1]
      exact ⟨t, heq⟩
    · cases h
    · cases h
  obtain ⟨t, hfull⟩ := hfull
  have hdrop : ts.drop i = w :: ts.drop (i + 1) := by
    rw [List.drop_eq_getElem_cons hil]
    rw [List.getElem?_eq_getElem hil] at hi
    cases hi
    rfl
  cases i with
  | zero =>
    left
    unfold parT
    have : mdl ((List.take 0 ts).length + 2) (List.take 0 ts ++ [endT n1]) = some (.er n1 11) := by
      show mdl 2 [endT n1] = _
      unfold mdl
      rw [must_end _ (by decide)]
      rfl
    rw [this]
    rfl
  | succ j =>
    obtain ⟨la, hla⟩ : ∃ la, ts[j]? = some la := ⟨ts[j]'(by omega), List.getElem?_eq_getElem (by omega)⟩
    have htake : ts.take (j + 1) = ts.take j ++ [la] := by rw [List.take_add_one, hla]; rfl
    have hS : Sy n1 la w (ts.drop (j + 2) ++ [endT n]) (ts ++ [endT n]) (ts.take (j + 1) ++ [endT n1]) := by
      refine Or.inl ⟨ts.take j, ?_, ?_⟩
      · have : ts = ts.take j ++ la :: w :: ts.drop (j + 2) := by
          have e := (List.take_append_drop (j + 1) ts).symm
          rw [htake, hdrop] at e
          rw [List.append_assoc] at e
          exact e
        conv => lhs; rw [this]
        simp
      · rw [htake]; simp
    have hsz : ∀ m', mdl ((ts.take (j + 1)).length + 2) (ts.take (j + 1) ++ [endT n1]) = some (.ok m' [endT n1]) → 3 ≤ j + 1 := by
      intro m' e
      unfold mdl at e
      obtain ⟨_, t1, e1, e⟩ := bd_inv e
      obtain ⟨_, t2, e2, e⟩ := bd_inv e
      obtain ⟨_, t3, e3, e⟩ := bd_inv e
      obtain ⟨is, t4, e4, e⟩ := bd_inv e
      obtain ⟨ds, t5, e5, e⟩ := bd_inv e
      have s1 := must_sz [109, 111, 100, 117, 108, 101] false (ts.take (j + 1) ++ [endT n1])
      rw [e1] at s1
      have s2 := name_sz false t1
      rw [e2] at s2
      have s3 := must_sz [59] false t2
      rw [e3] at s3
      have s4 := imps_sz ((ts.take (j + 1)).length + 2) [] t3
      rw [e4] at s4
      have hE := expr_sz ((ts.take (j + 1)).length + 2)
      have hE0 : ∀ d ts', Sz fE ts'.length (E0 ((ts.take (j + 1)).length + 2) d ts') := fun d ts' => hE false d ts'
      have hC0 : ∀ d e ts', Sz fE ts'.length (C0 ((ts.take (j + 1)).length + 2) d e ts') := fun d e ts' => call_sz hE _ d e ts'
      have hB0 : ∀ d ts', Sz Sts.size ts'.length (B0 ((ts.take (j + 1)).length + 2) d ts') := fun d ts' => blk_sz hE0 hC0 _ _ d ts'
      have s5 := dcls_sz hE0 hB0 ((ts.take (j + 1)).length + 2) ((ts.take (j + 1)).length + 2) [] t4
      rw [e5] at s5
      simp only [Option.some.injEq, Rs.ok.injEq] at e
      rw [e.2] at s5
      simp only [Sz, o1, fDs, List.length_append, List.length_take, List.length_cons, List.length_nil, List.map_nil, List.sum_nil] at s1 s2 s3 s4 s5
      omega
    rcases mdl_cut (by simp) (ts.length + 2) ((ts.take (j + 1)).length + 2) hS m [t] hfull with h1 | ⟨x1, x2, h1⟩ | ⟨hw, m', h1⟩
    · left
      unfold parT at hrr ⊢
      rcases h1 with h1 | h1
      · rw [h1] at hrr; cases hrr
      · rw [h1]; rfl
    · right; right
      refine ⟨x1, j, la, rfl, hla, x2, ?_⟩
      unfold parT
      rw [h1]
      rfl
    · right; left
      refine ⟨hw, hsz m' h1, m', ?_⟩
      unfold parT
      rw [h1]
      rfl
end Pz
end Go.Proofs.YteijjaabngkbjaaGreatDoor
namespace Go.Proofs.YteijjaabngkbjaaGreatDoor
open Go.RowKit Lx Te
set_option linter.unusedSimpArgs false
set_option linter.unusedVariables false
set_option maxRecDepth 20000 in
set_option maxHeartbeats 1000000 in
theorem cuts_no (l : By) (z : Int) (p q : Nat) (c er : Int) (ts : List Tok) (hl : l.length ≤ 140737488351232) (hS : Hidden (Pz.parS l = some (none, p, c))) (hc : (c != 0) = true) (hR : Hidden (lexS wordsL valS l = (ts, q, er))) (w : World) (ht : F.Tab w) :
    Calls Tryz.prog 6 #[ct l, ci z] w fun e w' => e = .returned (.bool true) ∧ Fr (fun _ => False) w w' := by
  have k1 : Calls Tryz.prog 14 #[ct l] w fun e w' => ∃ ao cap ao' cap', e = .returned (.tuple #[.agg #[ct [], .slice ao 0 cap, .slice ao' 0 cap'], ci (p : Int), ci c]) ∧ SvL w' ao cap [] ∧ DeL w' ao' cap' [] ∧ Fr (fun _ => False) w w' := par_any l none p c (by omega) hS w ht
  go_enter Tryz.func6, Tryz.ntmps6
  go_wp2_with fail
  go_at_call 14
  refine k1.mono ?_
  rintro e w2 ⟨bo, bap, bod, bapd, rfl, s2, d2, f2⟩
  have fa := Fr.alloc (fun _ => False) w2 (moO ⟨[], [], []⟩ (.slice bo 0 bap) (.slice bod 0 bapd))
  have g3 := f2.same fa
  have kl := lex_any l ts q er (by omega) hR _ (tab_fr ht g3)
  go_wp2_with fail
  go_at_call 16
  refine kl.mono ?_
  rintro e w4 ⟨v4, rfl, r4, f4⟩
  have g5 := g3.same f4
  go_wp2_with fail
  go_at_call 13
  refine (alive7_any _ (tab_fr ht g5)).mono ?_
  rintro e w5 ⟨rfl, f5⟩
  go_wp2_with fail
  go_ret
  exact ⟨rfl, g5.same f5⟩
set_option maxRecDepth 20000 in
set_option maxHeartbeats 1000000 in
theorem cuts_out (l : By) (z : Int) (m : Mo) (ts : List Tok) (hl : l.length ≤ 140737488351232) (hS : Hidden (Pz.parS l = some (some m, 0, 0))) (hR : Hidden (lexS wordsL valS l = (ts, 0, 0))) (hz : z < 0 ∨ (¬ z < 0 ∧ (ts.length : Int) ≤ z)) (hts : ts.length ≤ 1024) (w : World) (ht : F.Tab w) :
    Calls Tryz.prog 6 #[ct l, ci z] w fun e w' => e = .returned (.bool true) ∧ Fr (fun _ => False) w w' := by
  have k1 : Calls Tryz.prog 14 #[ct l] w fun e w' => ∃ ao cap ao' cap', e = .returned (.tuple #[.agg #[ct m.name, .slice ao m.imports.length cap, .slice ao' m.decls.length cap'], ci 0, ci 0]) ∧ SvL w' ao cap m.imports ∧ DeL w' ao' cap' m.decls ∧ Fr (fun _ => False) w w' := par_any l (some m) 0 0 (by omega) hS w ht
  have hts2 : ts.length ≤ 9223372036854775807 := by omega
  rcases hz with hz | ⟨hz, hz2⟩
  all_goals
    go_enter Tryz.func6, Tryz.ntmps6
    go_wp2_with fail
    go_at_call 14
    refine k1.mono ?_
    rintro e w2 ⟨bo, bap, bod, bapd, rfl, s2, d2, f2⟩
    have fa := Fr.alloc (fun _ => False) w2 (moO m (.slice bo m.imports.length bap) (.slice bod m.decls.length bapd))
    have g3 := f2.same fa
    have kl := lex_any l ts 0 0 (by omega) hR _ (tab_fr ht g3)
    go_wp2_with fail
    go_at_call 16
    refine kl.mono ?_
    rintro e w4 ⟨v4, rfl, r4, f4⟩
    have g5 := g3.same f4
    obtain ⟨ao, cap, rfl, hcap, hmax, hcells⟩ := r4.tk
    clear hcells r4
    go_wp2_with fail
    go_at_call 13
    refine (alive7_any _ (tab_fr ht g5)).mono ?_
    rintro e w5 ⟨rfl, f5⟩
    go_wp2_with fail
    go_ret
    exact ⟨rfl, g5.same f5⟩
section
variable (l : By) (i : Nat) (m : Mo) (ts : List Tok) (t : Tok) (hl : l.length ≤ 140737488351232) (hS : Hidden (Pz.parS l = some (some m, 0, 0))) (hR : Hidden (lexS wordsL valS l = (ts, 0, 0))) (hi : i < ts.length) (hts : ts.length ≤ 1024) (hti : Hidden (ts[i]? = some t)) (htp : t.p ≤ l.length) (w : World) (ht : F.Tab w)
include hl hS hR hi hts hti htp ht
set_option maxRecDepth 20000 in
set_option maxHeartbeats 2000000 in
theorem cuts_syn (hS2 : Hidden (Pz.parS (l.take t.p) = some (none, (l.take t.p).length, 11))) :
    Calls Tryz.prog 6 #[ct l, ci (i : Int)] w fun e w' => e = .returned (.bool true) ∧ Fr (fun _ => False) w w' := by
  have k1 : Calls Tryz.prog 14 #[ct l] w fun e w' => ∃ ao cap ao' cap', e = .returned (.tuple #[.agg #[ct m.name, .slice ao m.imports.length cap, .slice ao' m.decls.length cap'], ci 0, ci 0]) ∧ SvL w' ao cap m.imports ∧ DeL w' ao' cap' m.decls ∧ Fr (fun _ => False) w w' := par_any l (some m) 0 0 (by omega) hS w ht
  have hts2 : ts.length ≤ 9223372036854775807 := by omega
  have hsl := fun w => slice_to l t.p htp (by omega) w
  obtain ⟨U, hU⟩ : ∃ U, l.take t.p = U := ⟨_, rfl⟩
  have hUl : U.length ≤ 140737488351232 := by rw [← hU, List.length_take]; omega
  rw [hU] at hsl hS2
  have hsU := str_len U
  clear hU
  go_enter Tryz.func6, Tryz.ntmps6
  go_wp2_with fail
  go_at_call 14
  refine k1.mono ?_
  rintro e w2 ⟨bo, bap, bod, bapd, rfl, s2, d2, f2⟩
  have fa := Fr.alloc (fun _ => False) w2 (moO m (.slice bo m.imports.length bap) (.slice bod m.decls.length bapd))
  have g3 := f2.same fa
  have kl := lex_any l ts 0 0 (by omega) hR _ (tab_fr ht g3)
  go_wp2_with fail
  go_at_call 16
  refine kl.mono ?_
  rintro e w4 ⟨v4, rfl, r4, f4⟩
  have g5 := g3.same f4
  obtain ⟨ao, cap, rfl, hcap, hmax, hcells⟩ := r4.tk
  have hmax2 : cap ≤ 9223372036854775807 := by unfold maxLen at hmax; omega
  rcases hcells with h0 | ⟨bk, off, rfl, hc⟩
  · rw [h0] at hi; simp at hi
  have e1 : w4.cell? ⟨bk, off + i * 5 + 1, none⟩ = some (ct t.x) := hc i t hti 1 _ rfl
  have e4 : w4.cell? ⟨bk, off + i * 5 + 4, none⟩ = some (ci (t.p : Int)) := hc i t hti 4 _ rfl
  clear hc r4
  go_wp2_with fail
  go_at_call 13
  refine (alive7_any _ (tab_fr ht g5)).mono ?_
  rintro e w5 ⟨rfl, f5⟩
  have g6 := g5.same f5
  have d4 := f5.cellN e4
  have k2 : Calls Tryz.prog 14 #[ct U] w5 fun e w' => ∃ ao cap ao' cap', e = .returned (.tuple #[.agg #[ct [], .slice ao 0 cap, .slice ao' 0 cap'], ci (U.length : Int), ci 11]) ∧ SvL w' ao cap [] ∧ DeL w' ao' cap' [] ∧ Fr (fun _ => False) w5 w' := par_any U none U.length 11 (by omega) hS2 w5 (tab_fr ht g6)
  go_wp2_with fail
  go_at_call 14
  refine k2.mono ?_
  rintro e w7 ⟨co, cap', cod, capd', rfl, s7, d7, f7⟩
  have g7 := g6.same f7
  have fb := Fr.alloc (fun _ => False) w7 (moO ⟨[], [], []⟩ (.slice co 0 cap') (.slice cod 0 capd'))
  go_wp2_with fail
  go_ret
  exact ⟨rfl, g7.same fb⟩
set_option maxRecDepth 20000 in
set_option maxHeartbeats 2000000 in
theorem cuts_deep (j : Nat) (la : Tok) (hla : Hidden (ts[j]? = some la)) (hij : (i : Int) - 1 = (j : Int)) (hx : t.x = [41]) (hlx : la.x = [40]) (hS2 : Hidden (Pz.parS (l.take t.p) = some (none, la.p, 13))) :
    Calls Tryz.prog 6 #[ct l, ci (i : Int)] w fun e w' => e = .returned (.bool true) ∧ Fr (fun _ => False) w w' := by
  have k1 : Calls Tryz.prog 14 #[ct l] w fun e w' => ∃ ao cap ao' cap', e = .returned (.tuple #[.agg #[ct m.name, .slice ao m.imports.length cap, .slice ao' m.decls.length cap'], ci 0, ci 0]) ∧ SvL w' ao cap m.imports ∧ DeL w' ao' cap' m.decls ∧ Fr (fun _ => False) w w' := par_any l (some m) 0 0 (by omega) hS w ht
  have hts2 : ts.length ≤ 9223372036854775807 := by omega
  have hsl := fun w => slice_to l t.p htp (by omega) w
  obtain ⟨U, hU⟩ : ∃ U, l.take t.p = U := ⟨_, rfl⟩
  have hUl : U.length ≤ 140737488351232 := by rw [← hU, List.length_take]; omega
  rw [hU] at hsl hS2
  have hjl : j < ts.length := by omega
  have hi0 : (0 : Int) < (i : Int) := by omega
  clear hU
  go_enter Tryz.func6, Tryz.ntmps6
  go_wp2_with fail
  go_at_call 14
  refine k1.mono ?_
  rintro e w2 ⟨bo, bap, bod, bapd, rfl, s2, d2, f2⟩
  have fa := Fr.alloc (fun _ => False) w2 (moO m (.slice bo m.imports.length bap) (.slice bod m.decls.length bapd))
  have g3 := f2.same fa
  have kl := lex_any l ts 0 0 (by omega) hR _ (tab_fr ht g3)
  go_wp2_with fail
  go_at_call 16
  refine kl.mono ?_
  rintro e w4 ⟨v4, rfl, r4, f4⟩
  have g5 := g3.same f4
  obtain ⟨ao, cap, rfl, hcap, hmax, hcells⟩ := r4.tk
  have hmax2 : cap ≤ 9223372036854775807 := by unfold maxLen at hmax; omega
  rcases hcells with h0 | ⟨bk, off, rfl, hc⟩
  · rw [h0] at hi; simp at hi
  have e1 : w4.cell? ⟨bk, off + i * 5 + 1, none⟩ = some (ct t.x) := hc i t hti 1 _ rfl
  have e4 : w4.cell? ⟨bk, off + i * 5 + 4, none⟩ = some (ci (t.p : Int)) := hc i t hti 4 _ rfl
  have y1 : w4.cell? ⟨bk, off + j * 5 + 1, none⟩ = some (ct la.x) := hc j la hla 1 _ rfl
  have y4 : w4.cell? ⟨bk, off + j * 5 + 4, none⟩ = some (ci (la.p : Int)) := hc j la hla 4 _ rfl
  rw [hx] at e1
  rw [hlx] at y1
  clear hc r4 hx hlx
  go_wp2_with fail
  go_at_call 13
  refine (alive7_any _ (tab_fr ht g5)).mono ?_
  rintro e w5 ⟨rfl, f5⟩
  have g6 := g5.same f5
  have d4 := f5.cellN e4
  have k2 : Calls Tryz.prog 14 #[ct U] w5 fun e w' => ∃ ao cap ao' cap', e = .returned (.tuple #[.agg #[ct [], .slice ao 0 cap, .slice ao' 0 cap'], ci (la.p : Int), ci 13]) ∧ SvL w' ao cap [] ∧ DeL w' ao' cap' [] ∧ Fr (fun _ => False) w5 w' := par_any U none la.p 13 (by omega) hS2 w5 (tab_fr ht g6)
  go_wp2_with fail
  go_at_call 14
  refine k2.mono ?_
  rintro e w7 ⟨co, cap', cod, capd', rfl, s7, d7, f7⟩
  have g7 := g6.same f7
  have fb := Fr.alloc (fun _ => False) w7 (moO ⟨[], [], []⟩ (.slice co 0 cap') (.slice cod 0 capd'))
  have gg := (f5.same f7).same fb
  have q1 := gg.cellN e1
  have q4 := gg.cellN e4
  have z1 := gg.cellN y1
  have z4 := gg.cellN y4
  go_wp2_with fail
  go_ret
  exact ⟨rfl, g7.same fb⟩
set_option maxRecDepth 20000 in
set_option maxHeartbeats 4000000 in
theorem cuts_ok (m' : Mo) (h3 : 3 ≤ i) (hd : m'.decls.length ≤ 64) (hx : t.x = [105, 109, 112, 111, 114, 116] ∨ t.x = [101, 120, 112, 111, 114, 116] ∨ t.x = [99, 111, 110, 115, 116] ∨ t.x = [118, 97, 114] ∨ t.x = [102, 110]) (hS2 : Hidden (Pz.parS (l.take t.p) = some (some m', 0, 0))) :
    Calls Tryz.prog 6 #[ct l, ci (i : Int)] w fun e w' => e = .returned (.bool true) ∧ Fr (fun _ => False) w w' := by
  have k1 : Calls Tryz.prog 14 #[ct l] w fun e w' => ∃ ao cap ao' cap', e = .returned (.tuple #[.agg #[ct m.name, .slice ao m.imports.length cap, .slice ao' m.decls.length cap'], ci 0, ci 0]) ∧ SvL w' ao cap m.imports ∧ DeL w' ao' cap' m.decls ∧ Fr (fun _ => False) w w' := par_any l (some m) 0 0 (by omega) hS w ht
  have hts2 : ts.length ≤ 9223372036854775807 := by omega
  have hsl := fun w => slice_to l t.p htp (by omega) w
  obtain ⟨U, hU⟩ : ∃ U, l.take t.p = U := ⟨_, rfl⟩
  have hUl : U.length ≤ 140737488351232 := by rw [← hU, List.length_take]; omega
  rw [hU] at hsl hS2
  have h3i : (3 : Int) ≤ (i : Int) := by omega
  have hdi : (m'.decls.length : Int) ≤ 64 := by omega
  clear hU
  rcases hx with hx | hx | hx | hx | hx
  all_goals
    go_enter Tryz.func6, Tryz.ntmps6
    go_wp2_with fail
    go_at_call 14
    refine k1.mono ?_
    rintro e w2 ⟨bo, bap, bod, bapd, rfl, s2, d2, f2⟩
    have fa := Fr.alloc (fun _ => False) w2 (moO m (.slice bo m.imports.length bap) (.slice bod m.decls.length bapd))
    have g3 := f2.same fa
    have kl := lex_any l ts 0 0 (by omega) hR _ (tab_fr ht g3)
    go_wp2_with fail
    go_at_call 16
    refine kl.mono ?_
    rintro e w4 ⟨v4, rfl, r4, f4⟩
    have g5 := g3.same f4
    obtain ⟨ao, cap, rfl, hcap, hmax, hcells⟩ := r4.tk
    have hmax2 : cap ≤ 9223372036854775807 := by unfold maxLen at hmax; omega
    rcases hcells with h0 | ⟨bk, off, rfl, hc⟩
    · rw [h0] at hi; simp at hi
    have e1 : w4.cell? ⟨bk, off + i * 5 + 1, none⟩ = some (ct t.x) := hc i t hti 1 _ rfl
    have e4 : w4.cell? ⟨bk, off + i * 5 + 4, none⟩ = some (ci (t.p : Int)) := hc i t hti 4 _ rfl
    rw [hx] at e1
    have hxH : Hidden (t.x = _) := hx
    clear hc r4 hx
    go_wp2_with fail
    go_at_call 13
    refine (alive7_any _ (tab_fr ht g5)).mono ?_
    rintro e w5 ⟨rfl, f5⟩
    have g6 := g5.same f5
    have d4 := f5.cellN e4
    have k2 : Calls Tryz.prog 14 #[ct U] w5 fun e w' => ∃ ao cap ao' cap', e = .returned (.tuple #[.agg #[ct m'.name, .slice ao m'.imports.length cap, .slice ao' m'.decls.length cap'], ci 0, ci 0]) ∧ SvL w' ao cap m'.imports ∧ DeL w' ao' cap' m'.decls ∧ Fr (fun _ => False) w5 w' := par_any U (some m') 0 0 (by omega) hS2 w5 (tab_fr ht g6)
    go_wp2_with fail
    go_at_call 14
    refine k2.mono ?_
    rintro e w7 ⟨co, cap', cod, capd', rfl, s7, d7, f7⟩
    have g7 := g6.same f7
    have m7 : capd' ≤ 9223372036854775807 := by have := d7.2.1; unfold maxLen at this; omega
    have m7' := d7.1
    have fb := Fr.alloc (fun _ => False) w7 (moO m' (.slice co m'.imports.length cap') (.slice cod m'.decls.length capd'))
    have hby : Hidden ((w7.alloc (moO m' (.slice co m'.imports.length cap') (.slice cod m'.decls.length capd'))).heap[w7.heap.size]? = some (moO m' (.slice co m'.imports.length cap') (.slice cod m'.decls.length capd'))) := alloc_new _ _
    obtain ⟨x0, x1, x2⟩ := mo_box hby
    have gg := (f5.same f7).same fb
    have q1 := gg.cellN e1
    have q4 := gg.cellN e4
    go_wp2_with fail
    go_ret
    exact ⟨rfl, g7.same fb⟩
end
theorem parseCuts.walk (l : By) (z : Int) (w : World) (hl : l.length ≤ 140737488351232) (hz : (Lit.int .i64 z).wf = true) (ht : F.Tab w) :
    Calls Tryz.prog 6 #[.string ⟨l.toArray⟩, .int .i64 z] w fun e w' => e = .returned (.bool true) ∧ Fr (fun _ => False) w w' := by
  rcases par_parts l with ⟨m, ts, h1, h2, h3, h4, h5⟩ | ⟨p, c, h1, h2⟩
  rotate_left
  · obtain ⟨ts, q, er, hR⟩ : ∃ ts q er, lexS wordsL valS l = (ts, q, er) := ⟨_, _, _, rfl⟩
    exact cuts_no l z p q c er ts hl h1 (by simpa using h2) hR w ht
  by_cases hin : 0 ≤ z ∧ z < (ts.length : Int)
  · obtain ⟨i, rfl⟩ : ∃ i : Nat, z = (i : Int) := ⟨z.toNat, by omega⟩
    have hi : i < ts.length := by omega
    obtain ⟨t, hti⟩ : ∃ t, ts[i]? = some t := ⟨ts[i], List.getElem?_eq_getElem hi⟩
    obtain ⟨htp, hcut⟩ := lexS_cut wordsL valS l ts 0 h2 i t hti
    have hS : ∀ r, Pz.parT (ts.take i) (l.take t.p).length = some r → Pz.parS (l.take t.p) = some r := by
      intro r hr
      unfold Pz.parS
      rw [hcut, if_pos rfl]
      exact hr
    have hr1 : ∀ x ∈ ts.take i, Pz.TokR rnS cnS x := fun x hx => tok_r h2 x (List.mem_of_mem_take hx)
    rcases Pz.parT_cut ts l.length m 0 0 h3 (Pz.lex_ne h2) i t hti (l.take t.p).length with hA | ⟨hW, hi3, m', hA⟩ | ⟨hx, j, la, hij, hla, hlx, hA⟩
    · exact cuts_syn l i m ts t hl h1 h2 hi h4 hti htp w ht (hS _ hA)
    · have hright := (Pz.parT_right (rn := rnS) (cn := cnS) (by decide) (by decide) _ _ m' 0 0 hr1 hA).1
      have hd : m'.decls.length ≤ 64 := by
        unfold errM at hright
        obtain ⟨_, a2⟩ := Pz.orE_0 hright
        obtain ⟨_, a4⟩ := Pz.orE_0 a2
        obtain ⟨_, a6⟩ := Pz.orE_0 a4
        obtain ⟨a7, _⟩ := Pz.orE_0 a6
        apply Classical.byContradiction
        intro hc
        rw [if_pos (by omega)] at a7
        exact absurd a7 (by decide)
      exact cuts_ok l i m ts t hl h1 h2 hi h4 hti htp w ht m' hi3 hd hW (hS _ hA)
    · exact cuts_deep l i m ts t hl h1 h2 hi h4 hti htp w ht j la hla (by omega) hx hlx (hS _ hA)
  · exact cuts_out l z m ts hl h1 h2 (by omega) h4 w ht
end Go.Proofs.YteijjaabngkbjaaGreatDoor
