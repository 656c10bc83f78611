/- Texts IyInDec, IyInMath, IyInW, IyInMath2, IyInW2, IyInKb, IyInRead, IyInRead2, IyInRRead, IyInRDec. -/
import Derived.Lib.ItoaMem
import Derived.Test.YtnmcehpdiopaiaaGreatDoorRows
import Derived.Test.YtnmcehpdiopaiaaGreatDoorShelf2
import Derived.WalkKit
import Derived.WalkSpells
import Derived.WalkLawsBesides
import Derived.ProofKit
import Derived.RowKit3
import Derived.Laws.Externs
import Derived.Laws.BitsAllLaws
import Derived.Shelf.Spec.BitsCarry
import Derived.Laws.RangeAny
import Derived.Lib.IndexBytes
import Derived.Deep.DeepCutAuto
import Derived.Laws.IdiomStrings
import Derived.Lib.SmallJoins
namespace Go.Proofs.YtnmcehpdiopaiaaGreatDoor.D
set_option linter.unusedSimpArgs false
set_option linter.unusedVariables false

/-- A decimal digit. -/
def isd (c : UInt8) : Bool := decide (48 ≤ c.toNat) && decide (c.toNat ≤ 57)
def stepD (m : Nat) (c : UInt8) : Nat := m * 10 + (c.toNat - 48)
/-- What digits mean. -/
def numD (l : List UInt8) : Nat := l.foldl stepD 0
theorem numD_snoc (l : List UInt8) (c : UInt8) : numD (l ++ [c]) = numD l * 10 + (c.toNat - 48) := by
  unfold numD
  rw [List.foldl_append]
  rfl

theorem ofNat_toNat (d : Nat) (h : d < 10) : (UInt8.ofNat (48 + d)).toNat = d + 48 := by
  rw [UInt8.toNat_ofNat']
  omega
theorem isd_ofNat (d : Nat) (h : d < 10) : isd (UInt8.ofNat (48 + d)) = true := by
  unfold isd
  rw [ofNat_toNat d h]
  simp
  omega

open Go.Lib in
theorem dec_facts : ∀ n : Nat, (decDigits n).all isd = true ∧ numD (decDigits n) = n ∧ 0 < (decDigits n).length ∧ (1 ≤ n → ∃ c r, decDigits n = c :: r ∧ c ≠ 48 ∧ isd c = true) := by
  intro n
  induction n using Nat.strongRecOn with
  | ind n ih =>
    by_cases h : n < 10
    · have e : decDigits n = [UInt8.ofNat (48 + n)] := by rw [decDigits, dif_pos h]
      rw [e]
      refine ⟨by simp only [List.all_cons, isd_ofNat n h, List.all_nil, Bool.and_self], ?_, by simp, fun h1 => ⟨_, _, rfl, ?_, isd_ofNat n h⟩⟩
      · simp only [numD, List.foldl_cons, List.foldl_nil, stepD, ofNat_toNat n h]
        omega
      · intro hc
        have := congrArg UInt8.toNat hc
        rw [ofNat_toNat n h] at this
        have h48 : (48 : UInt8).toNat = 48 := rfl
        omega
    · have e : decDigits n = decDigits (n / 10) ++ [UInt8.ofNat (48 + n % 10)] := by rw [decDigits, dif_neg h]
      obtain ⟨i1, i2, i3, i4⟩ := ih (n / 10) (by omega)
      have hd : n % 10 < 10 := by omega
      rw [e]
      refine ⟨by simp only [List.all_append, i1, List.all_cons, isd_ofNat _ hd, List.all_nil, Bool.and_self], ?_, by simp, fun h1 => ?_⟩
      · rw [numD_snoc, i2, ofNat_toNat _ hd]
        omega
      · obtain ⟨c, r, hc, h48, hcd⟩ := i4 (by omega)
        exact ⟨c, r ++ [UInt8.ofNat (48 + n % 10)], by rw [hc]; rfl, h48, hcd⟩
end Go.Proofs.YtnmcehpdiopaiaaGreatDoor.D

namespace Go.Proofs.YtnmcehpdiopaiaaGreatDoor.D
set_option linter.unusedSimpArgs false
set_option linter.unusedVariables false

/-- A whole number of 64 bits. -/
def I64 (a : Int) : Prop := -9223372036854775808 ≤ a ∧ a ≤ 9223372036854775807
end Go.Proofs.YtnmcehpdiopaiaaGreatDoor.D

namespace Go.Proofs.YtnmcehpdiopaiaaGreatDoor.D
open Go.RowKit
set_option linter.unusedSimpArgs false
set_option linter.unusedVariables false
end Go.Proofs.YtnmcehpdiopaiaaGreatDoor.D

namespace Go.Proofs.YtnmcehpdiopaiaaGreatDoor.D
open Go.RowKit
set_option linter.unusedSimpArgs false
set_option linter.unusedVariables false

theorem wrap64_I {z : Int} (h : I64 z) : wrap64 z = z := by
  obtain ⟨_, _⟩ := h
  unfold wrap64
  omega
theorem tmod_lt (a b : Int) (hb : b ≠ 0) : (a.tmod b).natAbs < b.natAbs := by
  rw [Int.natAbs_tmod]
  exact Nat.mod_lt _ (by omega)
theorem tmod_sign (a b : Int) : (0 ≤ a → 0 ≤ a.tmod b) ∧ (a ≤ 0 → a.tmod b ≤ 0) := by
  constructor
  · intro h; exact Int.tmod_nonneg b h
  · intro h
    have := Int.tmod_nonneg b (show 0 ≤ -a by omega)
    rw [Int.neg_tmod] at this
    omega
end Go.Proofs.YtnmcehpdiopaiaaGreatDoor.D

namespace Go.Proofs.YtnmcehpdiopaiaaGreatDoor.D
open Go.RowKit
set_option linter.unusedSimpArgs false
set_option linter.unusedVariables false
end Go.Proofs.YtnmcehpdiopaiaaGreatDoor.D

namespace Go.Proofs.YtnmcehpdiopaiaaGreatDoor.D
open Go.RowKit
set_option linter.unusedSimpArgs false
set_option linter.unusedVariables false

/-- What was there is as it was. -/
def Kb (w w' : World) : Prop := w.keptBut w' (fun _ => False) ∧ w.heap.size ≤ w'.heap.size
theorem Kb.refl (w : World) : Kb w w := ⟨World.keptBut_refl _ _, Nat.le_refl _⟩
theorem Kb.trans {a b c : World} (h : Kb a b) (g : Kb b c) : Kb a c := ⟨World.keptBut_trans h.1 g.1, Nat.le_trans h.2 g.2⟩
theorem Kb.of_grown {a b : World} (h : Grown a b) : Kb a b := ⟨h.1, h.2.2⟩
/-- The library's table of powers of ten reads as laid. -/
def Tab (w : World) : Prop := Lib.TabIs Tryz.prog w "internal/strconv.uint64pow10" .u64 Lib.pow10Tab

theorem kb_grow (w : World) (k : Nat) (os : Array Obj) : Kb w (Sort.grow (w.drewN k) os) := by
  refine ⟨⟨rfl, rfl, fun i hi => ?_⟩, by simp [Sort.grow, World.drewN]⟩
  have e : (Sort.grow (w.drewN k) os).heap[i]? = w.heap[i]? := by
    show (w.heap ++ os)[i]? = _
    rw [Array.getElem?_append_left hi]
  rw [e]
  cases w.heap[i]? with
  | none => rfl
  | some o => cases o <;> simp
theorem dec_any (v : Int) (hv : I64 v) (w : World) (ht : Tab w) :
    Calls Tryz.prog 53 #[.int .i64 v] w fun r w' => r = .returned (.string ⟨(Lib.itoa v).toArray⟩) ∧ Kb w w' := by
  have hi := Tryz.strconv_FormatInt_10 v hv.1 hv.2 w ht
  generalize Lib.itoa v = l at *
  go_enter Tryz.func53, Tryz.ntmps53
  go_wp2_with (go_at_call 70; refine hi.mono ?_; rintro e w' ⟨rfl, k, os, rfl⟩)
  go_ret
  exact ⟨rfl, kb_grow _ _ _⟩
end Go.Proofs.YtnmcehpdiopaiaaGreatDoor.D

namespace Go.Proofs.YtnmcehpdiopaiaaGreatDoor.D
open Go.RowKit
set_option linter.unusedSimpArgs false
set_option linter.unusedVariables false
end Go.Proofs.YtnmcehpdiopaiaaGreatDoor.D

namespace Go.Proofs.YtnmcehpdiopaiaaGreatDoor.D
open Go.RowKit
set_option linter.unusedSimpArgs false
set_option linter.unusedVariables false
end Go.Proofs.YtnmcehpdiopaiaaGreatDoor.D

namespace Go.Proofs.YtnmcehpdiopaiaaGreatDoor.D
open Go.RowKit
set_option linter.unusedSimpArgs false
set_option linter.unusedVariables false
end Go.Proofs.YtnmcehpdiopaiaaGreatDoor.D

namespace Go.Proofs.YtnmcehpdiopaiaaGreatDoor.D
open Go.RowKit
set_option linter.unusedSimpArgs false
set_option linter.unusedVariables false

theorem conv_back (w : World) (a : Addr) (n cap : Nat) (l : List UInt8) (hn : l.length = n) (hc : ∀ j (hj : j < l.length), w.cell? (a.add j) = some (.int .u8 (l[j].toNat : Int))) :
    (convert 65 9 (.slice (some a) n cap)).run Tryz.prog w = .ok (.string ⟨l.toArray⟩) w := by
  subst hn
  exact run_convert_bytes_back w 65 9 5 a cap l Tryz.underlying65 Tryz.underlying5 Tryz.underlying9 hc
theorem conv_one (W : World) (a : Addr) (c : Int) (h0 : 0 ≤ c) (h1 : c < 256) (hc : W.cell? a = some (.int .u8 c)) :
    (convert 65 9 (.slice (some a) 1 1)).run Tryz.prog W = .ok (.string ⟨#[UInt8.ofNat c.toNat]⟩) W := by
  refine conv_back W a 1 1 [UInt8.ofNat c.toNat] rfl ?_
  intro j hj
  obtain rfl : j = 0 := by simp at hj; omega
  have e : ((UInt8.ofNat c.toNat).toNat : Int) = c := by
    rw [UInt8.toNat_ofNat']
    omega
  simp only [List.getElem_cons_zero, e]
  simpa [Addr.add] using hc

theorem itoa_step (v D Q : Int) (h0 : 0 ≤ D) (h9 : D ≤ 9) (hQ : Q ≠ 0) (h : (0 ≤ v ∧ v = Q * 10 + D) ∨ (v < 0 ∧ v = Q * 10 - D ∧ Q < 0)) : Lib.itoa v = Lib.itoa Q ++ [UInt8.ofNat (48 + D).toNat] := by
  rcases h with ⟨h1, h2⟩ | ⟨h1, h2, h3⟩
  · unfold Lib.itoa
    rw [if_neg (by omega), if_neg (by omega), Lib.decDigits, dif_neg (by omega), show v.toNat / 10 = Q.toNat by omega, show 48 + v.toNat % 10 = (48 + D).toNat by omega]
  · unfold Lib.itoa
    rw [if_pos h1, if_pos h3, Lib.decDigits, dif_neg (by omega), show v.natAbs / 10 = Q.natAbs by omega, show 48 + v.natAbs % 10 = (48 + D).toNat by omega]
    rfl
theorem itoa_len (v : Int) (hv : I64 v) : (Lib.itoa v).length ≤ 100 ∧ (Lib.itoa v).isEmpty = false := by
  have key : ∀ (k n : Nat), n < 10 ^ (k + 1) → (Lib.decDigits n).length ≤ k + 1 := by
    intro k
    induction k with
    | zero => intro n h; rw [Lib.decDigits, dif_pos (by omega)]; simp
    | succ k ih =>
      intro n h
      rw [Lib.decDigits]
      split
      · simp
      · have := ih (n / 10) (by rw [Nat.pow_succ] at h; omega)
        simp
        omega
  obtain ⟨h0, h1⟩ := hv
  have h2 : (9223372036854775808 : Nat) < 10 ^ (19 + 1) := by decide
  have k1 := key 19 v.natAbs (by omega)
  have k2 := key 19 v.toNat (by omega)
  have d1 := (dec_facts v.toNat).2.2.1
  unfold Lib.itoa
  split
  · exact ⟨by simp; omega, rfl⟩
  · refine ⟨by omega, ?_⟩
    cases hc : Lib.decDigits v.toNat with
    | nil => rw [hc] at d1; simp at d1
    | cons => rfl

end Go.Proofs.YtnmcehpdiopaiaaGreatDoor.D
