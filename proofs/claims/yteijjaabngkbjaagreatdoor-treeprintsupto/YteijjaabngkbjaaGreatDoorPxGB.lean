/- PsG PsH PsO PsE2 TrB PzA PvE PxG -/
import Derived.Test.YteijjaabngkbjaaGreatDoorTrX6B
import Derived.Test.YteijjaabngkbjaaGreatDoorLxAll
import Derived.Test.YteijjaabngkbjaaGreatDoorTrTAll
import Derived.Test.YteijjaabngkbjaaGreatDoorLxR1B
import Derived.Test.YteijjaabngkbjaaGreatDoorPvCB
import Derived.Test.YteijjaabngkbjaaGreatDoorPwOB
import Derived.Test.YteijjaabngkbjaaGreatDoorTrLAll
import Derived.Test.YteijjaabngkbjaaGreatDoorPvB
import Derived.Laws.IdiomStrings
namespace Go.Proofs.YteijjaabngkbjaaGreatDoor
set_option linter.unusedSimpArgs false
set_option linter.unusedVariables false
namespace Pz
open Lx Te
abbrev Co := Nat × By × Int × Int
section
variable {words : List By} {V : Nat → By → Int × Int × Int}
def Rd (words : List By) (V : Nat → By → Int × Int × Int) (u : By) (T : List Co) : Prop := ∀ q, ∃ ts, Toks words V q (u.drop (gap u)) ts ∧ ts.map Tok.core = T
theorem Rd.nil : Rd words V [] [] := fun q => ⟨[], by simpa using Toks.done q, rfl⟩
theorem Rd.blank {c : UInt8} {u : By} {T : List Co} (hc : blB c = true) (h : Rd words V u T) : Rd words V (c :: u) T := by
  intro q
  obtain ⟨ts, h1, h2⟩ := h q
  refine ⟨ts, ?_, h2⟩
  rw [gap, gapM_false, if_pos hc, Nat.add_comm, List.drop_succ_cons]
  exact h1
theorem Rd.step {x r : By} {k : Nat} {ty b : Int} {T : List Co} (h0 : x ≠ []) (hg : gap (x ++ r) = 0) (hk : kindLen words (x ++ r) = (k, x.length)) (hv : V k x = (ty, b, 0)) (h : Rd words V r T) : Rd words V (x ++ r) ((k, x, ty, b) :: T) := by
  intro q
  obtain ⟨ts, h1, h2⟩ := h (q + x.length + gap r)
  refine ⟨⟨k, x, ty, b, q⟩ :: ts, ?_, by simp [h2, Tok.core]⟩
  rw [hg, List.drop_zero]
  exact .more q x r k ty b ts hk h0 hg hv h1
theorem gap0 {c : UInt8} {r : By} (h1 : blB c = false) (h2 : c ≠ 47) : gap (c :: r) = 0 := by
  rw [gap, gapM_false, if_neg (by simp [h1]), if_neg (fun h => h2 h.1)]
theorem ltr_f {c : UInt8} (h : ltr c = true) : blB c = false ∧ c ≠ 47 ∧ dgt c = false ∧ c ≠ 61 := by
  refine ⟨?_, ?_, ?_, ?_⟩
  · cases hb : blB c with
    | false => rfl
    | true => have := (blank_no hb).1; simp [nmB, h] at this
  · rintro rfl; revert h; decide
  · simp only [ltr, dgt, Bool.or_eq_true, Bool.and_eq_true, decide_eq_true_eq, Bool.and_eq_false_iff, decide_eq_false_iff_not] at *; omega
  · rintro rfl; revert h; decide
def StN (r : By) : Prop := ∀ c, r[0]? = some c → nmB c = false
def enB (c : UInt8) : Bool := c == 32 || c == 41 || c == 44 || c == 59
def End (r : By) : Prop := ∀ c, r[0]? = some c → enB c = true
theorem enB_c {c : UInt8} (h : enB c = true) : c = 32 ∨ c = 41 ∨ c = 44 ∨ c = 59 := by
  simpa [enB, or_assoc] using h
theorem End.st {r : By} (h : End r) : StN r := fun c hc => by
  rcases enB_c (h c hc) with rfl | rfl | rfl | rfl <;> decide
theorem End.nil : End [] := fun c h => by simp at h
theorem End.cons {c : UInt8} {r : By} (h : enB c = true) : End (c :: r) := fun d hd => by
  simp at hd; subst hd; exact h
theorem StN.cons {c : UInt8} {r : By} (h : nmB c = false) : StN (c :: r) := fun d hd => by
  simp at hd; subst hd; exact h
theorem Rd.word {x r : By} {T : List Co} {ty b : Int} (hx : ∃ c r', x = c :: r' ∧ ltr c = true) (ha : ∀ c ∈ x, nmB c = true) (hr : StN r) (k : Nat) (hk : k = if x ∈ words then 2 else 1) (hv : V k x = (ty, b, 0)) (h : Rd words V r T) : Rd words V (x ++ r) ((k, x, ty, b) :: T) := by
  obtain ⟨c, r', rfl, hc⟩ := hx
  obtain ⟨f1, f2, f3, _⟩ := ltr_f hc
  have hrun := run_stop nmB (c :: r') r ha hr
  refine Rd.step (by simp) (by rw [List.cons_append]; exact gap0 f1 f2) ?_ hv h
  rw [List.cons_append] at hrun ⊢
  rw [kind_cons, if_neg (by simp [f3]), if_pos hc, hrun, hk]
  congr 2
  rw [← List.cons_append, List.take_left]
theorem Rd.mark {a : UInt8} {r : By} {T : List Co} (h1 : Lx.one a = true) (h2 : ∀ b, r[0]? = some b → Lx.two a b = false) (h3 : gap (a :: r) = 0) (hv : V 5 [a] = (0, 0, 0)) (h : Rd words V r T) : Rd words V (a :: r) ((5, [a], 0, 0) :: T) := by
  have e : kindLen words (a :: r) = (5, 1) := by
    have hd : dgt a = false ∧ ltr a = false := by
      simp only [Lx.one, Bool.or_eq_true, beq_iff_eq] at h1
      rcases h1 with (((((((((((((((h | h) | h) | h) | h) | h) | h) | h) | h) | h) | h) | h) | h) | h) | h) | h) | h <;> (subst h; decide)
    rw [kind_cons, if_neg (by simp [hd.1]), if_neg (by simp [hd.2])]
    cases r with
    | nil => simp [mkLen, h1]
    | cons b r => rw [mkLen, if_neg (by simp [h2 b (by simp)]), if_pos h1]
  exact Rd.step (x := [a]) (r := r) (by simp) h3 e hv h
end
end Pz
end Go.Proofs.YteijjaabngkbjaaGreatDoor
namespace Go.Proofs.YteijjaabngkbjaaGreatDoor
set_option linter.unusedSimpArgs false
set_option linter.unusedVariables false
namespace Pz
open Lx Te
structure LawT (rn : Bs → Int) (cn : Int → Int) (tx : Int → Int → Bs) (words : List By) (V : Nat → By → Int × Int × Int) : Prop where
  nm : ∀ x, rn x = 0 → (∃ c r, x = c :: r ∧ ltr c = true) ∧ (∀ c ∈ x, nmB c = true) ∧ x ∉ words ∧ V 1 x = (0, 0, 0)
  wd : ∀ x, V 2 x = (0, 0, 0)
  mrk : ∀ x, V 5 x = (0, 0, 0)
  int : ∀ vb, 0 ≤ vb → vb < 9223372036854775808 → tx 1 vb ≠ [] ∧ (∀ c ∈ tx 1 vb, dgt c = true) ∧ V 3 (tx 1 vb) = (1, vb, 0)
  flo : ∀ vb, 0 ≤ vb → litOk cn 2 vb = true → vb ≠ 9218868437227405312 → vb ≠ 9221120237041090561 → ∃ z, tx 2 vb = 48 :: 120 :: z ∧ (∀ c ∈ z, hxB c = true) ∧ V 4 (tx 2 vb) = (2, vb, 0)
  inf : tx 2 9218868437227405312 = [105, 110, 102]
  nan : tx 2 9221120237041090561 = [110, 97, 110]
  fal : tx 3 0 = [102, 97, 108, 115, 101]
  tru : tx 3 1 = [116, 114, 117, 101]
  wi : [105, 110, 102] ∈ words
  wn : [110, 97, 110] ∈ words
  wf : [102, 97, 108, 115, 101] ∈ words
  wt : [116, 114, 117, 101] ∈ words
  wI : [105, 110, 116] ∈ words
  wF : [102, 108, 111, 97, 116] ∈ words
  wp : [105, 110, 112, 117, 116] ∈ words
section
variable {rn : Bs → Int} {cn : Int → Int} {tx : Int → Int → Bs} {words : List By} {V : Nat → By → Int × Int × Int} (L : LawT rn cn tx words V)
include L
def Gd (words : List By) (V : Nat → By → Int × Int × Int) (u : By) (T : List Co) : Prop := Rd words V u T ∧ u[0]? ≠ some 61
omit L in
theorem Gd.blank {u : By} {T : List Co} (h : Rd words V u T) : Gd words V (32 :: u) T := ⟨h.blank (by decide), by simp⟩
end
end Pz
end Go.Proofs.YteijjaabngkbjaaGreatDoor
namespace Go.Proofs.YteijjaabngkbjaaGreatDoor
set_option linter.unusedSimpArgs false
set_option linter.unusedVariables false
namespace Pz
open Lx Te
def kws : List Bs := [[108, 101, 116], [105, 102], [101, 108, 115, 101], [119, 104, 105, 108, 101], [114, 101, 116, 117, 114, 110], [115, 104, 111, 119], [102, 97, 105, 108], [116, 114, 121], [99, 97, 116, 99, 104], [99, 111, 110, 115, 116], [118, 97, 114], [102, 110], [101, 120, 112, 111, 114, 116], [105, 109, 112, 111, 114, 116], [109, 111, 100, 117, 108, 101], [105, 110, 116], [102, 108, 111, 97, 116], [98, 111, 111, 108]]
section
variable {rn : Bs → Int} {cn : Int → Int} {tx : Int → Int → Bs} {words : List By} {V : Nat → By → Int × Int × Int} (L : LawT rn cn tx words V) (hw : ∀ x ∈ kws, x ∈ words)
include L
include hw
end
end Pz
end Go.Proofs.YteijjaabngkbjaaGreatDoor
namespace Go.Proofs.YteijjaabngkbjaaGreatDoor
set_option linter.unusedSimpArgs false
set_option linter.unusedVariables false
namespace Pz
open Lx Te
def Nz {α : Type} : Ou α → Prop
  | some (.er p c) => c ≠ 0
  | _ => True
theorem Nz.ok {α : Type} {a : α} {ts : List Tok} : Nz (some (.ok a ts)) := trivial
theorem Nz.bd {α β : Type} {m : Ou α} {k : α → List Tok → Ou β} (h : Nz m) (hk : ∀ a ts, Nz (k a ts)) : Nz (bd m k) := by
  rcases m with _ | ⟨a, ts⟩ | ⟨p, c⟩
  · trivial
  · exact hk a ts
  · exact h
theorem Nz.e3 {α : Type} {p : Nat} : Nz (some (.er p 3) : Ou α) := show (3 : Int) ≠ 0 by decide
section
variable {E : Bool → Nat → List Tok → Ou Ex} (hE : ∀ fl d ts, Nz (E fl d ts))
include hE
end
section
variable {E : Nat → List Tok → Ou Ex} {C : Nat → Ex → List Tok → Ou Ex} {B : Nat → List Tok → Ou Sts} (hE : ∀ d ts, Nz (E d ts)) (hC : ∀ d e ts, Nz (C d e ts)) (hB : ∀ d ts, Nz (B d ts))
end
section
variable {E : Nat → List Tok → Ou Ex} {B : Nat → List Tok → Ou Sts} (hE : ∀ d ts, Nz (E d ts)) (hB : ∀ d ts, Nz (B d ts)) (g : Nat)
end
end Pz
end Go.Proofs.YteijjaabngkbjaaGreatDoor
namespace Go.Proofs.YteijjaabngkbjaaGreatDoor
open Go.RowKit Te
set_option linter.unusedSimpArgs false
set_option linter.unusedVariables false
theorem textS_len (a : Int) (ha : F.Fl.U a) : (F.textS a).length ≤ 3001 := by
  obtain ⟨h1, h2, h3⟩ := F.parts_bounds a ha
  have := F.sizeL_len (F.Fl.classS a) (F.partM a).toNat (F.partE a) h1 h2 h3
  unfold F.textS
  rw [List.length_append]
  split <;> simp <;> omega
theorem txS_len (vt vb : Int) (h0 : 0 ≤ vb) (h1 : vb < 18446744073709551616) (h2 : vt = 1 → vb < 9223372036854775808) : (txS vt vb).length ≤ 3001 := by
  unfold txS
  split
  · have hv := h2 (by assumption)
    have := (D.itoa_len vb ⟨by omega, by omega⟩).1
    omega
  split
  · exact textS_len vb ⟨h0, h1⟩
  split <;> simp
end Go.Proofs.YteijjaabngkbjaaGreatDoor
namespace Go.Proofs.YteijjaabngkbjaaGreatDoor
open Go.RowKit Lx Te
set_option linter.unusedSimpArgs false
set_option linter.unusedVariables false
theorem tx_ln (vt vb : Int) (h : litOk cnS vt vb = true) (h0 : 0 ≤ vb) : (txS vt vb).length ≤ 3001 := by
  have hb : vb < 9223372036854775808 := by
    unfold litOk at h
    split at h
    · simpa using h
    · split at h
      · rw [Bool.and_eq_true] at h; simpa using h.1
      · split at h
        · have : vb ≤ 1 := by simpa using h
          omega
        · cases h
  exact txS_len vt vb h0 (by omega) (fun _ => hb)
theorem nnX_of : ∀ (k : Exs), OkX k → Pz.NnX k
  | .nil, _ => trivial
  | .cons h k r, ⟨h1, h2, h3⟩ => ⟨h1.vb0, nnX_of k h2, nnX_of r h3⟩
theorem nnS_of : ∀ (k : Sts), OkS k → Pz.NnS k
  | .nil, _ => trivial
  | .cons h e b l r, ⟨_, _, h1, h2, h3, h4⟩ => ⟨nnX_of e h1, nnS_of b h2, nnS_of l h3, nnS_of r h4⟩
theorem nnD_of {d : De} (h : OkD d) : Pz.NnD d := ⟨nnX_of _ h.e, nnS_of _ h.body⟩
theorem sz_bkX : ∀ k : Exs, k.size + 1 ≤ In.bkX k
  | .nil => Nat.le_refl _
  | .cons h k r => by have := sz_bkX k; have := sz_bkX r; simp only [Exs.size, In.bkX]; omega
theorem sz_bkS : ∀ k : Sts, k.size + 1 ≤ In.bkS k
  | .nil => Nat.le_refl _
  | .cons h e b l r => by have := sz_bkX e; have := sz_bkS b; have := sz_bkS l; have := sz_bkS r; simp only [Sts.size, In.bkS]; omega
theorem pa_sum : ∀ l : List Pa, l.length ≤ (l.map fun p => p.name.length + 1).sum
  | [] => Nat.le_refl _
  | p :: r => by have := pa_sum r; simp only [List.length_cons, List.map_cons, List.sum_cons]; omega
theorem im_sum : ∀ l : List Bs, l.length ≤ (l.map fun p => p.length + 1).sum
  | [] => Nat.le_refl _
  | p :: r => by have := im_sum r; simp only [List.length_cons, List.map_cons, List.sum_cons]; omega
theorem nd_bk (d : De) : ndD d ≤ In.bkD d := by
  have := sz_bkX d.e
  have := sz_bkS d.body
  have := pa_sum d.params
  unfold ndD In.bkD
  omega
theorem fDs_bk : ∀ l : List De, Pz.fDs l ≤ (l.map In.bkD).sum
  | [] => Nat.le_refl _
  | d :: r => by
    have := fDs_bk r
    have := nd_bk d
    simp only [Pz.fDs, List.map_cons, List.sum_cons] at *
    omega
theorem errDs_mem : ∀ (l : List De), errDs rnS cnS l = 0 → ∀ d ∈ l, errD rnS cnS d = 0
  | [], _, d, hd => by simp at hd
  | x :: r, h, d, hd => by
    obtain ⟨h1, h2⟩ := Pz.orE_0 h
    rcases List.mem_cons.1 hd with rfl | hd
    · exact h1
    · exact errDs_mem r h2 d hd
theorem errM_decls {m : Mo} (h : errM rnS cnS m = 0) : ∀ d ∈ m.decls, errD rnS cnS d = 0 := by
  unfold errM at h
  obtain ⟨_, a2⟩ := Pz.orE_0 h
  obtain ⟨_, a4⟩ := Pz.orE_0 a2
  obtain ⟨_, a6⟩ := Pz.orE_0 a4
  obtain ⟨_, a8⟩ := Pz.orE_0 a6
  exact errDs_mem _ a8
theorem mo_len (m : Mo) (he : errM rnS cnS m = 0) (hN : ∀ d ∈ m.decls, Pz.NnD d) (hsz : m.imports.length + Pz.fDs m.decls ≤ 10000000) : (moT txS m).length ≤ 60000000000 := by
  have := Pz.moT_ln (rn := rnS) (cn := cnS) (tx := txS) (fun x h => rn_len h) tx_ln m he hN
  omega
theorem print_up (m : Mo) (v : Value) (w : World) (hok : OkM m) (hv : MoI w m v) (ht : F.Tab w) (hsz : m.imports.length + Pz.fDs m.decls ≤ 10000000) :
    Calls Tryz.prog 8 #[v] w fun e w' => e = .returned (.tuple #[ct (prS m).1, ci (prS m).2]) ∧ Fr (fun _ => False) w w' :=
  print_w m v w hok hv ht (fun he d hd => decl_w d (errM_decls he d hd) (hok.decls d hd)) (fun he => by have := mo_len m he (fun d hd => nnD_of (hok.decls d hd)) hsz; omega)
end Go.Proofs.YteijjaabngkbjaaGreatDoor
namespace Go.Proofs.YteijjaabngkbjaaGreatDoor.V
open Go.RowKit Te
set_option linter.unusedSimpArgs false
set_option linter.unusedVariables false
theorem ow_str {w0 w : World} {B cap : Nat} {ao : Option Addr} {Z : Bs} (h : OW w0 B (.slice ao Z.length cap) Z w) (hz : Z ≠ []) : (convert 46 9 (.slice ao Z.length cap)).run Tryz.prog w = .ok (.string ⟨Z.toArray⟩) w := by
  have hown := h.own
  rcases hown.2 with ⟨_, h0⟩ | ⟨g, cap', cur, hv, hb, hg, _⟩
  · exact absurd (List.eq_nil_of_length_eq_zero h0) hz
  · simp only [Value.slice.injEq, true_and] at hv
    obtain ⟨rfl, rfl⟩ := hv
    exact run_convert_bytes_back w 46 9 5 ⟨g, 0, none⟩ cap Z Tryz.underlying46 Tryz.underlying5 Tryz.underlying9 (fun j hj => hown.cells (g := g) rfl j _ (by simp [Lib.byteCells, hj]))
theorem deT_hd {d : De} (hk : d.kind = 1 ∨ d.kind = 2 ∨ d.kind = 3) : deT txS d = hdT d ++ [10] ++ (if d.kind = 3 then stT txS d.body 1 ++ [125, 10] else []) := by
  unfold deT hdT
  rcases hk with hk | hk | hk
  · simp [hk]
  · simp [hk]
  · simp [hk]
theorem fits_kind {d : De} (h : errD rnS cnS d = 0) : d.kind = 1 ∨ d.kind = 2 ∨ d.kind = 3 := by
  unfold errD at h
  obtain ⟨a1, a2⟩ := Pz.orE_0 h
  obtain ⟨a3, _⟩ := Pz.orE_0 a2
  have hfit := Pz.ifx (c := fitsD d = true) a3 (by decide)
  unfold fitsD at hfit
  by_cases k1 : d.kind = 1
  · exact Or.inl k1
  by_cases k2 : d.kind = 2
  · exact Or.inr (Or.inl k2)
  by_cases k3 : d.kind = 3
  · exact Or.inr (Or.inr k3)
  rw [if_neg k1, if_neg k2, if_neg k3] at hfit
  cases hfit
theorem body_lin {d : De} (h : errD rnS cnS d = 0) (hO : OkD d) (hk : d.kind = 3) : LinW d.body 1 := by
  unfold errD at h
  obtain ⟨a1, a2⟩ := Pz.orE_0 h
  obtain ⟨_, a4⟩ := Pz.orE_0 a2
  obtain ⟨_, a6⟩ := Pz.orE_0 a4
  obtain ⟨_, a8⟩ := Pz.orE_0 a6
  obtain ⟨_, b1⟩ := Pz.orE_0 a8
  obtain ⟨_, b3⟩ := Pz.orE_0 b1
  have hdd : dD d ≤ 32 := by
    apply Classical.byContradiction
    intro hc
    rw [if_pos (by omega)] at a1
    exact absurd a1 (by decide)
  exact lin_any d.body 1 1 (by decide) b3 hO.body (by have := (Pz.dD_of hdd).2 hk; simpa using this)
set_option maxRecDepth 20000 in
set_option maxHeartbeats 1000000 in
theorem print_bad (m : Mo) (v : Value) (w : World) (hok : OkM m) (hv : MoI w m v) (E : Int) (hE : Hidden (errM rnS cnS m = E)) (hne : (E != 0) = true) :
    Calls Tryz.prog 9 #[v] w fun e w' => e = .returned (.tuple #[ct [], ci E]) ∧ Fr (fun _ => False) w w' := by
  have hv0 := hv
  obtain ⟨ao, cap, aod, capd, rfl, hs, hds⟩ := hv
  have f0 := Fr.alloc (fun _ => False) w (moO m (.slice ao m.imports.length cap) (.slice aod m.decls.length capd))
  have kr := X.right_m m _ _ (hv0.keep f0) hok E hE
  go_enter Tryz.func9, Tryz.ntmps9
  go_wp2_with fail
  go_at_call 18
  refine kr.mono ?_
  rintro e w2 ⟨rfl, f2⟩
  go_wp2_with fail
  go_ret2
  exact ⟨rfl, f0.same f2⟩
set_option maxRecDepth 20000 in
set_option maxHeartbeats 20000000 in
theorem print_ok (m : Mo) (v : Value) (w : World) (hok : OkM m) (hv : MoI w m v) (he : errM rnS cnS m = 0) (T : Bs) (hT : Hidden (moT txS m = T)) (hl : T.length ≤ 140737488351232) (code : Int) (q : Nat) (ts : List Lx.Tok) (hx : Hidden (Lx.lexS wordsL valS T = (ts, q, code))) (R : Bs × Int) (hR : Hidden (R = if code = 3 then ([], 3) else (T, 0))) :
    Calls Tryz.prog 9 #[v] w fun e w' => e = .returned (.tuple #[ct R.1, ci R.2]) ∧ Fr (fun _ => False) w w' := by
  have hv0 := hv
  obtain ⟨ao, cap, aod, capd, rfl, hs, hds⟩ := hv
  have m1 : cap ≤ 9223372036854775807 := by have := hs.2.1; unfold maxLen at this; omega
  have m2 : capd ≤ 9223372036854775807 := by have := hds.2.1; unfold maxLen at this; omega
  have l1 := hs.1
  have l2 := hds.1
  have f0 := Fr.alloc (fun _ => False) w (moO m (.slice ao m.imports.length cap) (.slice aod m.decls.length capd))
  have hq0 : Hidden ((w.alloc (moO m (.slice ao m.imports.length cap) (.slice aod m.decls.length capd))).heap[w.heap.size]? = some (moO m (.slice ao m.imports.length cap) (.slice aod m.decls.length capd))) := alloc_new _ _
  have kr := X.right_m m _ _ (hv0.keep f0) hok 0 he
  have hed := errM_decls he
  have hbig3 : 4096 < T.length → R = ([], 3) := by
    intro h
    have h1 := (show Lx.lexS wordsL valS T = _ from hx)
    unfold Lx.lexS at h1
    rw [if_pos h] at h1
    simp only [Prod.mk.injEq] at h1
    rw [show R = _ from hR, if_pos h1.2.2.symm]
  have hbig3H : Hidden (4096 < T.length → R = ([], 3)) := hbig3
  clear he hbig3
  go_enter Tryz.func9, Tryz.ntmps9
  go_wp2_with fail
  go_at_call 18
  refine kr.mono ?_
  rintro e w2 ⟨rfl, f2⟩
  have g2 := f0.same f2
  have hq2 := f2.heap hq0 (fun f => f)
  obtain ⟨c0, c1, c2⟩ := mo_box hq2
  have hT0 : Hidden ([109, 111, 100, 117, 108, 101, 32] ++ m.name ++ [59, 10] ++ (m.imports.flatMap impT ++ m.decls.flatMap (deT txS)) = T) := by
    show _ = T
    rw [← (show _ = T from hT)]
    exact (List.append_assoc _ _ _).symm
  obtain ⟨S1, hS1⟩ : ∃ S : Bs, ([109, 111, 100, 117, 108, 101, 32] : Bs) ++ m.name = S := ⟨_, rfl⟩
  obtain ⟨S2, hS2⟩ : ∃ S : Bs, S1 ++ ([59, 10] : Bs) = S := ⟨_, rfl⟩
  have hTs : Hidden (S2 ++ (m.imports.flatMap impT ++ m.decls.flatMap (deT txS)) = T) := by
    show _ = T
    rw [← hS2, ← hS1]
    exact hT0
  have lS2 : S2.length ≤ 140737488355328 := app_le (show _ = T from hTs) (by omega)
  have lS1 : S1.length ≤ 140737488355328 := by rw [← hS2, List.length_append] at lS2; omega
  have cS1 := fun w => X.catv [109, 111, 100, 117, 108, 101, 32] m.name S1 hS1 (by omega) w
  have cS2 := fun w => X.catv S1 [59, 10] S2 hS2 (by omega) w
  have hnil : Hidden ([] ++ S2 = S2) := rfl
  have hn0 : S2 ≠ [] := by rw [← hS2]; simp
  have hn0H : Hidden (S2 ≠ []) := hn0
  clear hS1 hS2 hT0 hT hn0
  have f2b : Hidden (Fr (fun _ => False) w w2) := g2
  go_wp2_with (at_builtin; go_must (refine wpList_by rfl _ _ rfl w2 w2.heap.size _ [] S2 S2 rfl rfl (OW.nil w2) hnil lS2 ?_); intro aoa capa w3 hca hma how3 fa; obtain ⟨e0, e1, e2⟩ := mo_box (how3.fr.heap hq2 (fun f => f)))
  clear e0 e1 e2 c0 c1 c2
  go_loopg [5, 6] m.imports.length (fun g ov iv wr => ∃ (i : Nat) (vo : Value) (A : Bs), vo = ov ∧ iv = ci (i : Int) ∧ i ≤ m.imports.length ∧ A ++ ((m.imports.drop i).flatMap impT ++ m.decls.flatMap (deT txS)) = T ∧ A ≠ [] ∧ g = m.imports.length - i ∧ OW w2 w2.heap.size vo A wr)
  case atStart => exact ⟨0, _, S2, rfl, rfl, by omega, hTs, hn0H, rfl, how3⟩
  case round =>
    obtain ⟨i, vo, A, rfl, rfl, hi, hA, hAn, hgk, how⟩ := hrel
    have hgkH : Hidden (gk = m.imports.length - i) := hgk
    have hAH : Hidden (A ++ ((m.imports.drop i).flatMap impT ++ m.decls.flatMap (deT txS)) = T) := hA
    have hAnH : Hidden (A ≠ []) := hAn
    obtain ⟨aoo, capo, rfl, hcl, hcm⟩ := how.shape
    obtain ⟨c0, c1, c2⟩ := mo_box (how.fr.heap hq2 (fun f => f))
    clear hgk hA hTs hAn
    by_cases hil : i < m.imports.length
    · obtain ⟨x, hxi⟩ : ∃ x, m.imports[i]? = some x := ⟨m.imports[i], List.getElem?_eq_getElem hil⟩
      rcases hs.2.2 with h0 | ⟨bb, off, rfl, hcp⟩
      · rw [h0] at hil; simp at hil
      have d0 := how.fr.cellN (g2.cellN (hcp i x hxi))
      obtain ⟨Q1, hQ1⟩ : ∃ S : Bs, ([105, 109, 112, 111, 114, 116, 32] : Bs) ++ x = S := ⟨_, rfl⟩
      obtain ⟨Q2, hQ2⟩ : ∃ S : Bs, Q1 ++ ([59, 10] : Bs) = S := ⟨_, rfl⟩
      obtain ⟨A2, hA2'⟩ : ∃ S : Bs, A ++ Q2 = S := ⟨_, rfl⟩
      have hT2 : Hidden (A2 ++ ((m.imports.drop (i + 1)).flatMap impT ++ m.decls.flatMap (deT txS)) = T) := by
        show _ = T
        rw [← (show _ = T from hAH), drop_at hxi, ← hA2', ← hQ2, ← hQ1]
        simp
      have lA2 : A2.length ≤ 140737488355328 := app_le (show _ = T from hT2) (by omega)
      have lQ2 : Q2.length ≤ 140737488355328 := by rw [← hA2', List.length_append] at lA2; omega
      have lQ1 : Q1.length ≤ 140737488355328 := by rw [← hQ2, List.length_append] at lQ2; omega
      have cQ1 := fun w => X.catv [105, 109, 112, 111, 114, 116, 32] x Q1 hQ1 (by omega) w
      have cQ2 := fun w => X.catv Q1 [59, 10] Q2 hQ2 (by omega) w
      have hA2 : Hidden (A ++ Q2 = A2) := hA2'
      have hA2n : Hidden (A2 ≠ []) := by
        show A2 ≠ []
        rw [← hA2']
        intro h
        exact hAnH (List.append_eq_nil_iff.1 h).1
      clear hA2' hQ1 hQ2 hAH hxi
      go_wp2_with (at_builtin; go_must (refine wpList_by rfl _ _ rfl w2 w2.heap.size _ A Q2 A2 rfl rfl how hA2 lA2 ?_); intro aob capb w4 hcb hmb how4 fb)
      go_roundg (m.imports.length - (i + 1))
      case measure =>
        have : gk = m.imports.length - i := hgkH
        omega
      case rel => exact ⟨i + 1, _, A2, rfl, by go_num, by omega, hT2, hA2n, rfl, how4⟩
    · obtain rfl : i = m.imports.length := by omega
      have hT2 : Hidden (A ++ m.decls.flatMap (deT txS) = T) := by
        show _ = T
        rw [← (show _ = T from hAH), List.drop_length]
        rfl
      clear hAH
      obtain ⟨V, hV⟩ : ∃ V, V = wr := ⟨wr, rfl⟩
      rw [← hV] at how c0 c1 c2 ⊢
      clear hV
      go_wp2_with fail
      clear c0 c1 c2
      go_loopg [5, 7] m.decls.length (fun g ov iv wr => ∃ (i : Nat) (vo : Value) (A Z : Bs), vo = ov ∧ iv = ci (i : Int) ∧ i ≤ m.decls.length ∧ A ++ (m.decls.drop i).flatMap (deT txS) = T ∧ Z ≠ [] ∧ g = m.decls.length - i ∧ OW w2 w2.heap.size vo Z wr ∧ Zo A Z)
      case atStart => exact ⟨0, _, A, A, rfl, rfl, by omega, hT2, hAnH, rfl, how, Zo.refl A⟩
      case round =>
        obtain ⟨j, vo, A9, Z, rfl, rfl, hj, hA9, hZn, hgk2, how9, hzo⟩ := hrel
        have hgkH2 : Hidden (gk = m.decls.length - j) := hgk2
        have hA9H : Hidden (A9 ++ (m.decls.drop j).flatMap (deT txS) = T) := hA9
        have hZnH : Hidden (Z ≠ []) := hZn
        have hZA : Z.length ≤ A9.length := hzo.2.2
        have hA9l : A9.length ≤ 140737488351232 := by have := app_le hA9 (show T.length ≤ 140737488355328 by omega); rw [← hA9, List.length_append] at hl; omega
        obtain ⟨aoz, capz, rfl, hcz, hmz⟩ := how9.shape
        obtain ⟨c0, c1, c2⟩ := mo_box (how9.fr.heap hq2 (fun f => f))
        have kst := ow_str how9 hZn
        clear hgk2 hA9 hT2 hZn
        by_cases hbig : Z.length ≤ 4096
        rotate_left
        · have hR3 : R = ([], 3) := by
            apply hbig3H
            have h9 := (hzo.stop (by omega) ((m.decls.drop j).flatMap (deT txS))).2.2
            rw [show _ = T from hA9H] at h9
            omega
          have hnb : ¬ (Z.length : Int) ≤ 4096 := by omega
          have hb4 : (4096 : Int) < (Z.length : Int) := by omega
          clear hA9H hR hbig3H
          subst hR3
          by_cases hjl : j < m.decls.length
          all_goals
            go_wp2_with fail
            go_ret2
            exact ⟨rfl, g2.same how9.fr⟩
        by_cases hjl : j < m.decls.length
        · obtain ⟨d, hdi⟩ : ∃ d, m.decls[j]? = some d := ⟨m.decls[j], List.getElem?_eq_getElem hjl⟩
          have hdm : d ∈ m.decls := List.mem_of_getElem? hdi
          have hde := hed d hdm
          have hdo := hok.decls d hdm
          have hkd := fits_kind hde
          rcases hds.2.2 with h0 | ⟨bb, off, rfl, hcp⟩
          · rw [h0] at hjl; simp at hjl
          obtain ⟨pv, ev, bv, hI, hcc⟩ := hcp j d hdi
          have ff := g2.same how9.fr
          have d0 : wr.cell? ⟨bb, off + j * 7, none⟩ = some (ci d.kind) := ff.cellN (hcc 0 _ rfl)
          have d1 := ff.cellN (hcc 1 _ rfl)
          have d2 := ff.cellN (hcc 2 _ rfl)
          have d3 := ff.cellN (hcc 3 _ rfl)
          have d4 := ff.cellN (hcc 4 _ rfl)
          have d5 := ff.cellN (hcc 5 _ rfl)
          have d6 := ff.cellN (hcc 6 _ rfl)
          have hI2 := hI.keep g2
          obtain ⟨ao1, cap1, ao2, cap2, ao3, cap3, rfl, rfl, rfl, hpa, hea, hba⟩ := hI
          have n3 : cap3 ≤ 9223372036854775807 := by have := hba.2.1; unfold maxLen at this; omega
          have n3' := hba.1
          have fb := Fr.alloc (fun _ => False) wr (deO d.kind d.ex d.name d.type (.slice ao1 d.params.length cap1) (.slice ao2 d.e.len cap2) (.slice ao3 d.body.len cap3))
          have hbx : Hidden ((wr.alloc (deO d.kind d.ex d.name d.type (.slice ao1 d.params.length cap1) (.slice ao2 d.e.len cap2) (.slice ao3 d.body.len cap3))).heap[wr.heap.size]? = some (deO d.kind d.ex d.name d.type (.slice ao1 d.params.length cap1) (.slice ao2 d.e.len cap2) (.slice ao3 d.body.len cap3))) := alloc_new _ _
          have hsp := deT_hd hkd
          obtain ⟨Hd, hHd⟩ : ∃ S : Bs, hdT d = S := ⟨_, rfl⟩
          rw [hHd] at hsp
          obtain ⟨Q1, hQ1⟩ : ∃ S : Bs, Hd ++ ([10] : Bs) = S := ⟨_, rfl⟩
          obtain ⟨A2, hA2'⟩ : ∃ S : Bs, A9 ++ Q1 = S := ⟨_, rfl⟩
          obtain ⟨Z2, hZ2'⟩ : ∃ S : Bs, Z ++ Q1 = S := ⟨_, rfl⟩
          have hT3 : Hidden (A2 ++ (if d.kind = 3 then stT txS d.body 1 ++ [125, 10] else []) ++ (m.decls.drop (j + 1)).flatMap (deT txS) = T) := by
            show _ = T
            rw [← (show _ = T from hA9H), drop_at hdi, ← hA2', ← hQ1, List.flatMap_cons, hsp]
            simp
          have zZ2 : Zo A2 Z2 := by rw [← hA2', ← hZ2']; exact hzo.app _
          have lA2 : A2.length ≤ 140737488351232 := by
            have h9 := hl
            rw [← (show _ = T from hT3)] at h9
            simp only [List.length_append] at h9
            omega
          have lZ2 : Z2.length ≤ 140737488355328 := by have := zZ2.2.2; omega
          have lQ1 : Q1.length ≤ 140737488351232 := by rw [← hA2', List.length_append] at lA2; omega
          have lHd : Hd.length ≤ 140737488351232 := by rw [← hQ1, List.length_append] at lQ1; omega
          have cQ1 := fun w => X.catv Hd [10] Q1 hQ1 (by omega) w
          have khd := head_w d _ _ _ _ ((hI2.keep how9.fr).keep fb) hde hdo Hd hHd (by omega)
          have hZ2 : Hidden (Z ++ Q1 = Z2) := hZ2'
          have hZ2n : Hidden (Z2 ≠ []) := by
            show Z2 ≠ []
            rw [← hZ2']
            intro h
            exact hZnH (List.append_eq_nil_iff.1 h).1
          clear hA2' hZ2' hQ1 hsp hA9H hdi hHd hcc hcp
          go_wp2_with fail
          go_at_call 19
          refine khd.mono ?_
          rintro e w5 ⟨rfl, f5⟩
          have how5 := how9.quiet (fb.same f5)
          have hb5 := f5.heap hbx (fun f => f)
          by_cases k3 : d.kind = 3
          · have kln := body_lin hde hdo k3
            have hT4 : Hidden (A2 ++ stT txS d.body 1 ++ [125, 10] ++ (m.decls.drop (j + 1)).flatMap (deT txS) = T) := by
              show _ = T
              rw [← (show _ = T from hT3), if_pos k3]
              simp
            obtain ⟨T5, hT5'⟩ : ∃ S : Bs, A2 ++ stT txS d.body 1 = S := ⟨_, rfl⟩
            have hT5 : Hidden (A2 ++ stT txS d.body 1 = T5) := hT5'
            have lT5 : (T5 ++ [125, 10]).length ≤ 140737488351232 := by
              have h9 := hl
              rw [← (show _ = T from hT4), hT5'] at h9
              simp only [List.length_append] at h9 ⊢
              omega
            have hT6 : Hidden (T5 ++ [125, 10] ++ (m.decls.drop (j + 1)).flatMap (deT txS) = T) := by
              show _ = T
              rw [← (show _ = T from hT4), hT5']
            have k3b : (d.kind == 3) = true := by simp [k3]
            clear hT3 hT4 hT5' k3
            go_wp2_with (at_builtin; go_must (refine wpList_by rfl _ _ rfl w2 w2.heap.size _ Z Q1 Z2 rfl rfl how5 hZ2 lZ2 ?_); intro aoc capc w6 hcc6 hmc6 how6 f6; have hb6 := by_keep f6 hb5 (by decide); obtain ⟨y0, y1, y2, y3, y4, y5, y6⟩ := ex_box hb6)
            go_at_call 20
            refine (kln 1 rfl ao3 cap3 w2 _ w2.heap.size _ Z2 A2 T5 (hba.keep g2) how6 zZ2 hT5 (by rw [List.length_append] at lT5; omega)).mono ?_
            rintro e w7 ⟨v7, Z7, rfl, how7, z7, f7⟩
            obtain ⟨aod7, capd7, rfl, h71, h72⟩ := how7.shape
            obtain ⟨Z8, hZ8'⟩ : ∃ S : Bs, Z7 ++ ([125, 10] : Bs) = S := ⟨_, rfl⟩
            have hZ8 : Hidden (Z7 ++ [125, 10] = Z8) := hZ8'
            have zZ8 : Hidden (Zo (T5 ++ [125, 10]) Z8) := by show Zo _ _; rw [← hZ8']; exact z7.app _
            have lZ8 : Z8.length ≤ 140737488355328 := by have := (show Zo _ Z8 from zZ8).2.2; omega
            have hZ8n : Hidden (Z8 ≠ []) := by show Z8 ≠ []; rw [← hZ8']; simp
            clear hZ8'
            go_wp2_with (at_builtin; go_must (refine wpList_by rfl _ _ rfl w2 w2.heap.size _ Z7 [125, 10] Z8 rfl rfl how7 hZ8 lZ8 ?_); intro aoe cape w8 hce8 hme8 how8 f8)
            go_roundg (m.decls.length - (j + 1))
            case measure =>
              have : gk = m.decls.length - j := hgkH2
              omega
            case rel => exact ⟨j + 1, _, _, Z8, rfl, by go_num, by omega, hT6, hZ8n, rfl, how8, zZ8⟩
          · have hT6 : Hidden (A2 ++ (m.decls.drop (j + 1)).flatMap (deT txS) = T) := by
              show _ = T
              rw [← (show _ = T from hT3), if_neg k3]
              simp
            have k3b : (d.kind == 3) = false := by simp [k3]
            clear hT3 k3
            go_wp2_with (at_builtin; go_must (refine wpList_by rfl _ _ rfl w2 w2.heap.size _ Z Q1 Z2 rfl rfl how5 hZ2 lZ2 ?_); intro aoc capc w6 hcc6 hmc6 how6 f6; have hb6 := by_keep f6 hb5 (by decide); obtain ⟨y0, y1, y2, y3, y4, y5, y6⟩ := ex_box hb6)
            go_roundg (m.decls.length - (j + 1))
            case measure =>
              have : gk = m.decls.length - j := hgkH2
              omega
            case rel => exact ⟨j + 1, _, A2, Z2, rfl, by go_num, by omega, hT6, hZ2n, rfl, how6, zZ2⟩
        · obtain rfl : j = m.decls.length := by omega
          have hAT : A9 = T := by
            rw [← (show _ = T from hA9H), List.drop_length]
            simp
          subst hAT
          clear hA9H
          have hTl : A9.length ≤ 4096 := by
            apply Classical.byContradiction
            intro hc
            have := hzo.2.1 (by omega)
            omega
          have hZT : Z = A9 := hzo.1 hTl
          subst hZT
          have kx := rlex_any Z ts q code (by omega) hx wr
          go_wp2_with fail
          go_at_call 21
          refine kx.mono ?_
          rintro e w9 ⟨v9, rfl, _, f9⟩
          have how10 := how9.quiet f9
          have kst2 := ow_str how10 hZnH
          by_cases hc3 : code = 3
          · have hRe : R = ([], 3) := by rw [show R = _ from hR, if_pos hc3]
            clear hR
            subst hRe
            have hc3b : (code == 3) = true := by simp [hc3]
            clear hc3
            go_wp2_with fail
            go_ret2
            exact ⟨rfl, g2.same how10.fr⟩
          · have hRe : R = (Z, 0) := by rw [show R = _ from hR, if_neg hc3]
            clear hR
            subst hRe
            have hc3b : (code == 3) = false := by simp [hc3]
            clear hc3
            go_wp2_with fail
            go_ret2
            exact ⟨rfl, g2.same how10.fr⟩
theorem print_up (m : Mo) (v : Value) (w : World) (hok : OkM m) (hv : MoI w m v) (hsz : m.imports.length + Pz.fDs m.decls ≤ 10000000) :
    Calls Tryz.prog 9 #[v] w fun e w' => e = .returned (.tuple #[ct (prS m).1, ci (prS m).2]) ∧ Fr (fun _ => False) w w' := by
  by_cases he : errM rnS cnS m = 0
  · refine print_ok m v w hok hv he _ rfl (by have := mo_len m he (fun d hd => nnD_of (hok.decls d hd)) hsz; omega) (Lx.lexS wordsL valS (moT txS m)).2.2 (Lx.lexS wordsL valS (moT txS m)).2.1 (Lx.lexS wordsL valS (moT txS m)).1 rfl (prS m) ?_
    show _ = _
    unfold prS
    rw [if_pos he]
  · have e : prS m = ([], errM rnS cnS m) := by unfold prS; rw [if_neg he]
    rw [e]
    exact print_bad m v w hok hv _ rfl (by simpa using he)
end Go.Proofs.YteijjaabngkbjaaGreatDoor.V
namespace Go.Proofs.YteijjaabngkbjaaGreatDoor
open Go.RowKit Lx Te
set_option linter.unusedSimpArgs false
set_option linter.unusedVariables false
set_option maxRecDepth 20000 in
set_option maxHeartbeats 1000000 in
theorem treePrints.walk (v : Value) (m : Mo) (w : World) (hv : MoI w m v) (om : OkM m) (hl : m.name.length + (m.imports.map fun p => p.length + 1).sum + (m.decls.map In.bkD).sum + 1 ≤ 1048576) (ht : F.Tab w) :
    Calls Tryz.prog 3 #[v] w fun e w' => e = .returned (.bool true) ∧ Fr (fun _ => False) w w' := by
  have hsz : m.imports.length + Pz.fDs m.decls ≤ 10000000 := by
    have := im_sum m.imports
    have := fDs_bk m.decls
    omega
  have k1 := fun (w1 : World) (f : Fr (fun _ => False) w w1) => print_up m v w1 om (hv.keep f) (tab_fr ht f) hsz
  have k2 := fun (w1 : World) (f : Fr (fun _ => False) w w1) => V.print_up m v w1 om (hv.keep f) hsz
  have hv0 := hv
  obtain ⟨ao, cap, aod, capd, rfl, _, _⟩ := hv
  obtain ⟨s, hs⟩ : ∃ s, (prS m).1 = s := ⟨_, rfl⟩
  obtain ⟨c, hc⟩ : ∃ c, (prS m).2 = c := ⟨_, rfl⟩
  rw [hs, hc] at k1 k2
  have hss : (s == s) = true := by simp
  have hcc : (c == c) = true := by simp
  clear hs hc hl hsz
  have f0 : Fr (fun _ => False) w (w.alloc (moO m (.slice ao m.imports.length cap) (.slice aod m.decls.length capd))) := Fr.alloc _ _ _
  have hbx : Hidden ((w.alloc (moO m (.slice ao m.imports.length cap) (.slice aod m.decls.length capd))).heap[w.heap.size]? = some (moO m (.slice ao m.imports.length cap) (.slice aod m.decls.length capd))) := alloc_new _ _
  go_enter Tryz.func3, Tryz.ntmps3
  go_wp2_with fail
  go_at_call 8
  refine (k1 _ f0).mono ?_
  rintro e w1 ⟨rfl, f1⟩
  have g1 := f0.same f1
  obtain ⟨c0, c1, c2⟩ := mo_box (f1.heap hbx (fun f => f))
  go_wp2_with fail
  go_at_call 9
  refine (k2 _ g1).mono ?_
  rintro e w2 ⟨rfl, f2⟩
  have g2 := g1.same f2
  go_wp2_with fail
  go_at_call 10
  refine (live_any _ (tab_fr ht g2)).mono ?_
  rintro e w3 ⟨rfl, f3⟩
  go_wp2_with fail
  go_ret
  exact ⟨rfl, g2.same f3⟩
end Go.Proofs.YteijjaabngkbjaaGreatDoor
