/- Texts IxInDec, IxInMath, IxInW, IxInMath2, IxInW2, IxInKb, IxInRead, IxInRead2. -/
import Derived.Lib.ItoaMem
import Derived.Test.YtncachlopnpcjaaGreatDoorRows
import Derived.Test.YtncachlopnpcjaaGreatDoorShelf
import Derived.WalkKit
import Derived.WalkSpells
import Derived.WalkLawsBesides
import Derived.ProofKit
import Derived.RowKit3
import Derived.Laws.Externs
import Derived.Laws.BitsAllLaws
import Derived.Shelf.Spec.BitsCarry
import Derived.Laws.RangeAny
import Derived.Lib.IndexBytes
import Derived.Deep.DeepCutAuto
namespace Go.Proofs.YtncachlopnpcjaaGreatDoor.I
set_option linter.unusedSimpArgs false
set_option linter.unusedVariables false

def Hidden (p : Prop) : Prop := p
/-- A decimal digit. -/
def isd (c : UInt8) : Bool := decide (48 ≤ c.toNat) && decide (c.toNat ≤ 57)
def stepD (m : Nat) (c : UInt8) : Nat := m * 10 + (c.toNat - 48)
/-- What digits mean. -/
def numD (l : List UInt8) : Nat := l.foldl stepD 0
/-- How many digits stand ahead of the first byte that is none. -/
def runD : List UInt8 → Nat
  | [] => 0
  | c :: r => if isd c then runD r + 1 else 0

theorem isd_lt (c : UInt8) (h : isd c = true) : ∃ D, c.toNat = D + 48 ∧ D ≤ 9 := by
  have hcb : 48 ≤ c.toNat ∧ c.toNat ≤ 57 := by simpa [isd] using h
  exact ⟨c.toNat - 48, by omega, by omega⟩
theorem runD_le (l : List UInt8) : runD l ≤ l.length := by
  induction l with
  | nil => simp [runD]
  | cons c r ih =>
    unfold runD
    split <;> simp <;> omega
theorem runD_all (l : List UInt8) : runD l = l.length ↔ l.all isd = true := by
  induction l with
  | nil => simp [runD]
  | cons c r ih =>
    have := runD_le r
    unfold runD
    cases h : isd c
    · simp [h]
    · simp only [if_true, List.length_cons, List.all_cons, h, Bool.true_and]
      rw [← ih]
      omega
theorem numD_snoc (l : List UInt8) (c : UInt8) : numD (l ++ [c]) = numD l * 10 + (c.toNat - 48) := by
  unfold numD
  rw [List.foldl_append]
  rfl

/-- What the digits of a text mean, up to a greatest number: the number, the place of the error, the error. -/
def amtS (most : Nat) (l : List UInt8) : Int × Int × Int :=
  if runD l < l.length then (0, (runD l : Int), 10)
  else if l.length = 0 then (0, 0, 10)
  else if 1 < l.length ∧ l.head? = some 48 then (0, 0, 10)
  else if most < numD l then (0, 0, 80)
  else ((numD l : Int), 0, 0)
def natS (l : List UInt8) : Int × Int × Int := amtS 9223372036854775807 l
theorem ofNat_toNat (d : Nat) (h : d < 10) : (UInt8.ofNat (48 + d)).toNat = d + 48 := by
  rw [UInt8.toNat_ofNat']
  omega
/-- Digits without a nought ahead are the text of what they mean. -/
theorem dec_of_num : ∀ (k : Nat) (l : List UInt8), l.length = k → l.all isd = true → 0 < l.length → (1 < l.length → l.head? ≠ some 48) → Go.Lib.decDigits (numD l) = l ∧ (l.head? ≠ some 48 → 1 ≤ numD l) := by
  intro k
  induction k with
  | zero => intro l h _ h0 _; omega
  | succ k ih =>
    intro l hl ha h0 hh
    rcases List.eq_nil_or_concat l with rfl | ⟨l', c, hlc⟩
    · simp at h0
    rw [List.concat_eq_append] at hlc
    subst hlc
    rw [List.all_append, Bool.and_eq_true] at ha
    obtain ⟨D, hD, hD9⟩ := isd_lt c (by simpa using ha.2)
    rw [numD_snoc, hD]
    rw [Nat.add_sub_cancel]
    by_cases hn : l' = []
    · subst hn
      have e0 : numD ([] : List UInt8) = 0 := rfl
      rw [e0, Nat.zero_mul, Nat.zero_add, Go.Lib.decDigits, dif_pos (by omega)]
      constructor
      · simp only [List.nil_append, List.cons.injEq, and_true]
        apply UInt8.toNat_inj.1
        rw [ofNat_toNat D (by omega), hD]
      · intro h48
        have : c ≠ 48 := by simpa using h48
        have : D ≠ 0 := by
          intro hz
          subst hz
          exact this (UInt8.toNat_inj.1 (by rw [hD]; rfl))
        omega
    · have hpos : 0 < l'.length := List.length_pos_iff.2 hn
      have hhd : (l' ++ [c]).head? = l'.head? := by
        cases l' with
        | nil => exact absurd rfl hn
        | cons => rfl
      rw [hhd] at hh ⊢
      have hne : l'.head? ≠ some 48 := hh (by simp; omega)
      obtain ⟨i1, i2⟩ := ih l' (by simpa using hl) ha.1 hpos (fun _ => hne)
      have i3 := i2 hne
      rw [Go.Lib.decDigits, dif_neg (by omega)]
      rw [show (numD l' * 10 + D) / 10 = numD l' by omega, show (numD l' * 10 + D) % 10 = D by omega, i1]
      refine ⟨?_, fun _ => by omega⟩
      congr 2
      apply UInt8.toNat_inj.1
      rw [ofNat_toNat D (by omega), hD]

theorem amt_ok (most : Nat) (l : List UInt8) (v p : Int) (h : amtS most l = (v, p, 0)) : p = 0 ∧ 0 ≤ v ∧ v ≤ most ∧ Go.Lib.decDigits v.toNat = l := by
  unfold amtS at h
  have hle := runD_le l
  split at h
  · simp at h
  split at h
  · simp at h
  split at h
  · simp at h
  split at h
  · simp at h
  rename_i h1 h2 h3 h4
  simp only [Prod.mk.injEq, and_true] at h
  obtain ⟨rfl, rfl⟩ := h
  have hall := (runD_all l).1 (by omega)
  obtain ⟨k1, k2⟩ := dec_of_num l.length l rfl hall (by omega) (fun hlt hc => h3 ⟨hlt, hc⟩)
  exact ⟨rfl, by omega, by omega, by simpa using k1⟩
theorem amt_err (most : Nat) (l : List UInt8) (v p e : Int) (h : amtS most l = (v, p, e)) (he : e ≠ 0) : v = 0 ∧ 0 ≤ p ∧ p ≤ l.length := by
  unfold amtS at h
  have hle := runD_le l
  repeat' split at h
  all_goals
    simp only [Prod.mk.injEq] at h
    obtain ⟨rfl, rfl, rfl⟩ := h
    first | exact absurd rfl he | exact ⟨rfl, by omega, by omega⟩
end Go.Proofs.YtncachlopnpcjaaGreatDoor.I

namespace Go.Proofs.YtncachlopnpcjaaGreatDoor.I
set_option linter.unusedSimpArgs false
set_option linter.unusedVariables false

/-- A whole number of 64 bits. -/
def I64 (a : Int) : Prop := -9223372036854775808 ≤ a ∧ a ≤ 9223372036854775807
end Go.Proofs.YtncachlopnpcjaaGreatDoor.I

namespace Go.Proofs.YtncachlopnpcjaaGreatDoor.I
open Go.RowKit
set_option linter.unusedSimpArgs false
set_option linter.unusedVariables false

theorem call_add64 (x y c s d : Int) (hx : 0 ≤ x) (hy : 0 ≤ y) (hc0 : 0 ≤ c) (hc : c ≤ 1) (hs : (x + y + c) % 18446744073709551616 = s) (hd : (x + y + c) / 18446744073709551616 = d) (w : World) :
    (callFunc 139 #[.int .u64 x, .int .u64 y, .int .u64 c]).run Tryz.prog w = .ok (.value (.tuple #[.int .u64 s, .int .u64 d])) w := by
  subst hs hd
  rw [run_callFunc_extern (e := add64Entry) Tryz.func139 (by kernel_rfl) (by kernel_rfl) (by kernel_rfl) (by kernel_rfl), run_add64 x y c hx hy hc0 hc]
  rfl
end Go.Proofs.YtncachlopnpcjaaGreatDoor.I

namespace Go.Proofs.YtncachlopnpcjaaGreatDoor.I
open Go.RowKit
set_option linter.unusedSimpArgs false
set_option linter.unusedVariables false

theorem wrap64_I {z : Int} (h : I64 z) : wrap64 z = z := by
  obtain ⟨_, _⟩ := h
  unfold wrap64
  omega
end Go.Proofs.YtncachlopnpcjaaGreatDoor.I

namespace Go.Proofs.YtncachlopnpcjaaGreatDoor.I
open Go.RowKit
set_option linter.unusedSimpArgs false
set_option linter.unusedVariables false

theorem mul64_is (x y h l : Int) (hx : 0 ≤ x) (hx1 : x < 18446744073709551616) (hy : 0 ≤ y) (hy1 : y < 18446744073709551616) (hh : x * y / 18446744073709551616 = h) (hl : x * y % 18446744073709551616 = l) (w : World) :
    Calls Tryz.prog 138 #[.int .u64 x, .int .u64 y] w fun e w' => e = .returned (.tuple #[.int .u64 h, .int .u64 l]) ∧ w = w' := by
  obtain ⟨X, rfl⟩ := Int.eq_ofNat_of_zero_le hx
  obtain ⟨Y, rfl⟩ := Int.eq_ofNat_of_zero_le hy
  subst hh hl
  refine (Tryz.bits_Mul64 X Y (by omega) (by omega) w).mono ?_
  rintro e w' ⟨rfl, rfl⟩
  refine ⟨?_, rfl⟩
  have e1 : ((X * Y / 18446744073709551616 : Nat) : Int) = (X : Int) * Y / 18446744073709551616 := by rw [Int.natCast_ediv, Int.natCast_mul]; rfl
  have e2 : ((X * Y % 18446744073709551616 : Nat) : Int) = (X : Int) * Y % 18446744073709551616 := by rw [Int.natCast_emod, Int.natCast_mul]; rfl
  rw [e1, e2]
end Go.Proofs.YtncachlopnpcjaaGreatDoor.I

namespace Go.Proofs.YtncachlopnpcjaaGreatDoor.I
open Go.RowKit
set_option linter.unusedSimpArgs false
set_option linter.unusedVariables false

/-- What was there is as it was. -/
def Kb (w w' : World) : Prop := w.keptBut w' (fun _ => False) ∧ w.heap.size ≤ w'.heap.size
theorem kb_iter (w : World) (s : ByteArray) (pos : Nat) : Kb w (w.iter s pos) := by
  refine ⟨⟨rfl, rfl, fun i hi => ?_⟩, by show w.heap.size ≤ (w.heap.push _).size; rw [Array.size_push]; omega⟩
  have e : (w.iter s pos).heap[i]? = w.heap[i]? := by
    show (w.heap.push _)[i]? = _
    rw [Array.getElem?_push_lt hi]
    exact (Array.getElem?_eq_getElem hi).symm
  rw [e]
  cases w.heap[i]? with
  | none => rfl
  | some o => cases o <;> simp
theorem next_digit (w : World) (q : List UInt8) (j : Nat) (c : UInt8) (hc : q[j]? = some c) (h : c.toNat < 128) (ty : TypeId) :
    (Instr.next (.pointer (some ⟨w.heap.size, 0, none⟩)) true ty).run Tryz.prog (w.iter ⟨q.toArray⟩ j) = .ok (.tuple #[.bool true, .int .i64 (j : Int), .int .i32 (c.toNat : Int)]) (w.iter ⟨q.toArray⟩ (j + 1)) := by
  obtain ⟨hk, hcc⟩ := List.getElem?_eq_some_iff.1 hc
  have hs : j < (⟨q.toArray⟩ : ByteArray).size := by simpa [ByteArray.size] using hk
  have e : (⟨q.toArray⟩ : ByteArray)[j]'hs = c := by
    show q.toArray[j] = c
    simpa using hcc
  have := run_next_ascii (P := Tryz.prog) w ⟨q.toArray⟩ j ty hs (by rw [e]; exact h)
  rw [e] at this
  exact this
theorem next_high (w : World) (q : List UInt8) (j : Nat) (c : UInt8) (hc : q[j]? = some c) (h : 128 ≤ c.toNat) :
    ∃ r p : Nat, 128 ≤ r ∧ r ≤ 2147483647 ∧ ∀ ty, (Instr.next (.pointer (some ⟨w.heap.size, 0, none⟩)) true ty).run Tryz.prog (w.iter ⟨q.toArray⟩ j) = .ok (.tuple #[.bool true, .int .i64 (j : Int), .int .i32 (r : Int)]) (w.iter ⟨q.toArray⟩ p) := by
  obtain ⟨hk, hcc⟩ := List.getElem?_eq_some_iff.1 hc
  have hs : j < (⟨q.toArray⟩ : ByteArray).size := by simpa [ByteArray.size] using hk
  have e : (⟨q.toArray⟩ : ByteArray)[j]'hs = c := by
    show q.toArray[j] = c
    simpa using hcc
  exact ⟨_, _, (decode_high _ j hs (by rw [e]; exact h)).1, decode_le _ _, fun ty => run_next_any (P := Tryz.prog) w ⟨q.toArray⟩ j ty hs⟩
theorem next_end (w : World) (q : List UInt8) (ty : TypeId) :
    (Instr.next (.pointer (some ⟨w.heap.size, 0, none⟩)) true ty).run Tryz.prog (w.iter ⟨q.toArray⟩ q.length) = .ok (.tuple #[.bool false]) (w.iter ⟨q.toArray⟩ q.length) :=
  run_next_end (P := Tryz.prog) w ⟨q.toArray⟩ q.length ty (by simp [ByteArray.size])

theorem str_len (t : List UInt8) : ((⟨t.toArray⟩ : ByteArray).size : Int) = (t.length : Int) := by simp [ByteArray.size]
theorem str_index (l : List UInt8) (k : Nat) (c : UInt8) (h : l[k]? = some c) (w : World) :
    (Instr.index 9 (.string ⟨l.toArray⟩) (.int .i64 (k : Int))).run Tryz.prog w = .ok (.int .u8 (c.toNat : Int)) w := by
  obtain ⟨hk, hc⟩ := List.getElem?_eq_some_iff.1 h
  have hs : k < (⟨l.toArray⟩ : ByteArray).size := by simpa [ByteArray.size] using hk
  rw [run_index_string _ _ _ _ _ Tryz.underlying9, dif_pos ⟨by omega, by omega⟩]
  have e : (⟨l.toArray⟩ : ByteArray)[k]'hs = c := by
    show l.toArray[k] = c
    simpa using hc
  simp only [Int.toNat_natCast]
  rw [e]
end Go.Proofs.YtncachlopnpcjaaGreatDoor.I

namespace Go.Proofs.YtncachlopnpcjaaGreatDoor.I
open Go.RowKit
set_option linter.unusedSimpArgs false
set_option linter.unusedVariables false

theorem ad_yes (a d m : Nat) (hm : m ≤ 9223372036854775808) (hd : d ≤ 9) (h : a * 10 + d ≤ m) (w : World) :
    Calls Tryz.prog 122 #[.int .u64 (a : Int), .int .u64 (d : Int), .int .u64 (m : Int)] w fun e w' => e = .returned (.tuple #[.int .u64 ((a * 10 + d : Nat) : Int), .bool true]) ∧ w = w' := by
  have k1 := mul64_is (a : Int) 10 0 ((a * 10 : Nat) : Int) (by omega) (by omega) (by omega) (by omega) (by omega) (by omega)
  have k2 := call_add64 ((a * 10 : Nat) : Int) (d : Int) 0 ((a * 10 + d : Nat) : Int) 0 (by omega) (by omega) (by omega) (by omega) (by omega) (by omega)
  have c1 : ¬ (m : Int) < ((a * 10 + d : Nat) : Int) := by omega
  generalize ((a * 10 + d : Nat) : Int) = S at *
  generalize ((a * 10 : Nat) : Int) = T at *
  clear h
  go_enter Tryz.func122, Tryz.ntmps122
  go_wp2_with (go_at_call 138; refine (k1 _).mono ?_; rintro e w' ⟨rfl, rfl⟩)
  go_ret2
  exact ⟨rfl, rfl⟩
theorem ad_no (a d m : Nat) (ha : a ≤ m) (hm : m ≤ 9223372036854775808) (hd : d ≤ 9) (h : m < a * 10 + d) (w : World) :
    Calls Tryz.prog 122 #[.int .u64 (a : Int), .int .u64 (d : Int), .int .u64 (m : Int)] w fun e w' => e = .returned (.tuple #[.int .u64 0, .bool false]) ∧ w = w' := by
  have k1 := mul64_is (a : Int) 10 _ _ (by omega) (by omega) (by omega) (by omega) rfl rfl
  have k2 := call_add64 ((a : Int) * 10 % 18446744073709551616) (d : Int) 0 _ _ (by omega) (by omega) (by omega) (by omega) rfl rfl
  have hc : ((a : Int) * 10 / 18446744073709551616 != 0) = true ∨ ((a : Int) * 10 / 18446744073709551616 != 0) = false ∧ (((a : Int) * 10 % 18446744073709551616 + (d : Int) + 0) / 18446744073709551616 != 0) = true ∨ ((a : Int) * 10 / 18446744073709551616 != 0) = false ∧ (((a : Int) * 10 % 18446744073709551616 + (d : Int) + 0) / 18446744073709551616 != 0) = false ∧ (m : Int) < ((a : Int) * 10 % 18446744073709551616 + (d : Int) + 0) % 18446744073709551616 := by
    simp only [bne_iff_ne, ne_eq, bne_eq_false_iff_eq]
    omega
  generalize ((a : Int) * 10 % 18446744073709551616 + (d : Int) + 0) % 18446744073709551616 = S at *
  generalize ((a : Int) * 10 % 18446744073709551616 + (d : Int) + 0) / 18446744073709551616 = C at *
  generalize (a : Int) * 10 / 18446744073709551616 = H at *
  generalize (a : Int) * 10 % 18446744073709551616 = T at *
  clear h ha
  rcases hc with c1 | ⟨c1, c2⟩ | ⟨c1, c2, c3⟩
  all_goals
    go_enter Tryz.func122, Tryz.ntmps122
    go_wp2_with (go_at_call 138; refine (k1 _).mono ?_; rintro e w' ⟨rfl, rfl⟩)
    go_ret2
    exact ⟨rfl, rfl⟩

theorem runD_at (l : List UInt8) : ∀ (j : Nat) (c : UInt8), l[j]? = some c → j ≤ runD l → (isd c = false → runD l = j) ∧ (isd c = true → j + 1 ≤ runD l) := by
  induction l with
  | nil => intro j c h; simp at h
  | cons b r ih =>
    intro j c h hj
    cases j with
    | zero =>
      obtain rfl : b = c := by simpa using h
      unfold runD
      constructor
      · intro hb; simp [hb]
      · intro hb; simp [hb]
    | succ j =>
      unfold runD at hj ⊢
      cases hb : isd b
      · rw [hb] at hj; simp at hj
      · rw [hb] at hj
        simp only [if_true] at hj ⊢
        obtain ⟨i1, i2⟩ := ih j c (by simpa using h) (by omega)
        exact ⟨fun hc => by rw [i1 hc], fun hc => by have := i2 hc; omega⟩
theorem numD_take (l : List UInt8) (j : Nat) (c : UInt8) (h : l[j]? = some c) : numD (l.take (j + 1)) = numD (l.take j) * 10 + (c.toNat - 48) := by
  obtain ⟨hj, hc⟩ := List.getElem?_eq_some_iff.1 h
  rw [List.take_succ_eq_append_getElem hj, hc, numD_snoc]

/-- What is kept behind the first j digits. -/
def St (m : Nat) (l : List UInt8) (j acc : Nat) (f : Bool) : Prop :=
  j ≤ runD l ∧ ((f = true ∧ acc = numD (l.take j) ∧ acc ≤ m) ∨ (f = false ∧ acc = 0 ∧ m < numD (l.take j)))
theorem st_yes {m : Nat} {l : List UInt8} {j acc : Nat} {c : UInt8} (h : St m l j acc true) (hc : l[j]? = some c) (hd : isd c = true) (d : Nat) (hdd : c.toNat = d + 48) :
    acc ≤ m ∧ (acc * 10 + d ≤ m → St m l (j + 1) (acc * 10 + d) true) ∧ (m < acc * 10 + d → St m l (j + 1) 0 false) := by
  obtain ⟨h1, ⟨_, h2, h3⟩ | ⟨h2, _⟩⟩ := h
  · have e := numD_take l j c hc
    rw [hdd, Nat.add_sub_cancel, ← h2] at e
    have := (runD_at l j c hc h1).2 hd
    exact ⟨h3, fun hle => ⟨this, Or.inl ⟨rfl, e.symm, hle⟩⟩, fun hlt => ⟨this, Or.inr ⟨rfl, rfl, by omega⟩⟩⟩
  · cases h2
theorem st_no {m : Nat} {l : List UInt8} {j acc : Nat} {c : UInt8} (h : St m l j acc false) (hc : l[j]? = some c) (hd : isd c = true) : St m l (j + 1) acc false := by
  obtain ⟨h1, ⟨h2, _⟩ | ⟨_, h2, h3⟩⟩ := h
  · cases h2
  · have e := numD_take l j c hc
    have := (runD_at l j c hc h1).2 hd
    exact ⟨this, Or.inr ⟨rfl, h2, by omega⟩⟩
theorem st_bad {m : Nat} {l : List UInt8} {j acc : Nat} {f : Bool} {c : UInt8} (h : St m l j acc f) (hc : l[j]? = some c) (hd : isd c = false) : amtS m l = (0, (j : Int), 10) := by
  obtain ⟨hj, _⟩ := List.getElem?_eq_some_iff.1 hc
  have := (runD_at l j c hc h.1).1 hd
  unfold amtS
  rw [if_pos (by omega), this]
theorem st_end {m : Nat} {l : List UInt8} {acc : Nat} {f : Bool} (h : St m l l.length acc f) :
    (l = [] → amtS m l = (0, 0, 10)) ∧ (1 < l.length → l.head? = some 48 → amtS m l = (0, 0, 10)) ∧ (l ≠ [] → ¬ (1 < l.length ∧ l.head? = some 48) → (f = true → amtS m l = ((acc : Int), 0, 0)) ∧ (f = false → amtS m l = (0, 0, 80))) := by
  obtain ⟨h1, h2⟩ := h
  have hr : ¬ runD l < l.length := by omega
  rw [List.take_length] at h2
  unfold amtS
  rw [if_neg hr]
  refine ⟨fun h => by rw [h]; rfl, fun hl hh => ?_, fun hn hh => ?_⟩
  · rw [if_neg (by omega), if_pos ⟨hl, hh⟩]
  · have hn' : l.length ≠ 0 := by simpa using hn
    rw [if_neg hn', if_neg hh]
    constructor
    · intro hf
      subst hf
      rcases h2 with ⟨_, h3, h4⟩ | ⟨h3, _⟩
      · rw [if_neg (by omega), h3]
      · cases h3
    · intro hf
      subst hf
      rcases h2 with ⟨h3, _⟩ | ⟨_, h3, h4⟩
      · cases h3
      · rw [if_pos h4]

theorem isd_no (c : UInt8) (h : isd c = false) : c.toNat < 48 ∨ (¬ c.toNat < 48 ∧ 57 < c.toNat) := by
  unfold isd at h
  simp only [Bool.and_eq_false_iff, decide_eq_false_iff_not] at h
  omega

theorem ret3 {k l o : IntKind} {a b c d e f : Int} (h : (a, b, c) = (d, e, f)) : Ending.returned (.tuple #[.int k a, .int l b, .int o c]) = .returned (.tuple #[.int k d, .int l e, .int o f]) := by
  simp only [Prod.mk.injEq] at h
  rw [h.1, h.2.1, h.2.2]

set_option maxHeartbeats 1000000 in
theorem ra_walk (l : List UInt8) (m : Nat) (v p e : Int) (hres : Hidden (amtS m l = (v, p, e))) (hm : m ≤ 9223372036854775808) (hl : l.length ≤ 9223372036854775807) (hne : l.isEmpty = false) (w : World) :
    Calls Tryz.prog 102 #[.string ⟨l.toArray⟩, .int .u64 (m : Int)] w fun r w' => r = .returned (.tuple #[.int .u64 v, .int .i64 p, .int .i64 e]) ∧ Kb w w' := by
  have hs := str_len l
  obtain ⟨c0, hc0⟩ : ∃ c, l[0]? = some c := by
    cases l with
    | nil => simp at hne
    | cons c r => exact ⟨c, rfl⟩
  have hx0 : ∀ W : World, (Instr.index 9 (.string ⟨l.toArray⟩) (.int .i64 0)).run Tryz.prog W = .ok (.int .u8 (c0.toNat : Int)) W := fun W => str_index l 0 c0 hc0 W
  have hh0 : Hidden (l.head? = some c0) := by show _ = _; rw [← hc0]; cases l <;> rfl
  clear hc0
  go_enter Tryz.func102, Tryz.ntmps102
  go_wp2
  go_loopg [7, 8] l.length (fun k av fv wr => ∃ (j acc : Nat) (f : Bool), av = .int .u64 (acc : Int) ∧ fv = .bool f ∧ j ≤ l.length ∧ St m l j acc f ∧ k = l.length - j ∧ wr = w.iter ⟨l.toArray⟩ j)
  case atStart => exact ⟨0, 0, true, rfl, rfl, by omega, ⟨by omega, Or.inl ⟨rfl, rfl, by omega⟩⟩, rfl, rfl⟩
  case round =>
    obtain ⟨j, acc, f, rfl, rfl, hj, hst, hgk, rfl⟩ := hrel
    have hgkH : Hidden (gk = l.length - j) := hgk
    clear hgk
    by_cases hjl : j < l.length
    · obtain ⟨c, hc⟩ : ∃ c, l[j]? = some c := ⟨l[j], List.getElem?_eq_getElem hjl⟩
      cases hd : isd c
      · have hbad := st_bad hst hc hd
        rw [show amtS m l = (v, p, e) from hres] at hbad
        have hbH : Hidden ((v, p, e) = (0, (j : Int), 10)) := hbad
        clear hbad hst
        by_cases h128 : 128 ≤ c.toNat
        · obtain ⟨r, q, hr0, hr1, hnx⟩ := next_high w l j c hc h128
          clear hc hd h128
          go_wp2
          go_ret3
          exact ⟨ret3 (show (v, p, e) = (0, (j : Int), 10) from hbH).symm, kb_iter _ _ _⟩
        · have hnx := next_digit w l j c hc (by omega)
          have hcc := isd_no c hd
          clear hc hd
          generalize c.toNat = C at *
          rcases hcc with hcc | ⟨hcc, hcc2⟩
          all_goals
            go_wp2
            go_ret3
            exact ⟨ret3 (show (v, p, e) = (0, (j : Int), 10) from hbH).symm, kb_iter _ _ _⟩
      · obtain ⟨D, hD, hD9⟩ := isd_lt c hd
        have hnx := next_digit w l j c hc (by omega)
        rw [hD] at hnx
        cases f
        · have hst2 : Hidden (St m l (j + 1) acc false) := st_no hst hc hd
          clear hst hc hd hD
          go_wp2
          go_roundg (l.length - (j + 1))
          case measure =>
            have : gk = l.length - j := hgkH
            omega
          case rel => exact ⟨j + 1, acc, false, rfl, rfl, by omega, hst2, rfl, rfl⟩
        · obtain ⟨ha, hy, hn⟩ := st_yes hst hc hd D hD
          clear hst hc hd hD
          by_cases hle : acc * 10 + D ≤ m
          · have hst2 : Hidden (St m l (j + 1) (acc * 10 + D) true) := hy hle
            have kd := ad_yes acc D m hm hD9 hle
            clear hy hn hle
            go_wp2_with (go_at_call 122; refine (kd _).mono ?_; rintro e w' ⟨rfl, rfl⟩)
            go_roundg (l.length - (j + 1))
            case measure =>
              have : gk = l.length - j := hgkH
              omega
            case rel => exact ⟨j + 1, acc * 10 + D, true, rfl, rfl, by omega, hst2, rfl, rfl⟩
          · have hst2 : Hidden (St m l (j + 1) 0 false) := hn (by omega)
            have kd := ad_no acc D m ha hm hD9 (by omega)
            clear hy hn hle
            go_wp2_with (go_at_call 122; refine (kd _).mono ?_; rintro e w' ⟨rfl, rfl⟩)
            go_roundg (l.length - (j + 1))
            case measure =>
              have : gk = l.length - j := hgkH
              omega
            case rel => exact ⟨j + 1, 0, false, rfl, rfl, by omega, hst2, rfl, rfl⟩
    · obtain rfl : j = l.length := by omega
      obtain ⟨he1, he2, he3⟩ := st_end hst
      have hnil : l ≠ [] := by rintro rfl; simp at hne
      have hnx := next_end w l
      rw [show amtS m l = (v, p, e) from hres] at he2 he3
      rw [show l.head? = some c0 from hh0] at he2 he3
      clear he1 hst
      by_cases h1 : 1 < l.length
      · by_cases h48 : c0 = 48
        · have hbH : Hidden ((v, p, e) = (0, 0, 10)) := he2 h1 (by rw [h48])
          have hq : ((c0.toNat : Int) == 48) = true := by rw [h48]; rfl
          clear he2 he3 h48
          generalize (c0.toNat : Int) = C0 at *
          go_wp2
          go_ret3
          exact ⟨ret3 (show (v, p, e) = (0, 0, 10) from hbH).symm, kb_iter _ _ _⟩
        · have he4 := he3 hnil (fun h => h48 (by simpa using h.2))
          have hq : ((c0.toNat : Int) == 48) = false := by
            simp only [beq_eq_false_iff_ne, ne_eq]
            intro h
            exact h48 (UInt8.toNat_inj.1 (by rw [show (48 : UInt8).toNat = 48 from rfl]; omega))
          clear he2 he3 h48
          generalize (c0.toNat : Int) = C0 at *
          cases f
          · have hbH : Hidden ((v, p, e) = (0, 0, 80)) := he4.2 rfl
            clear he4
            go_wp2
            go_ret3
            exact ⟨ret3 (show (v, p, e) = (0, 0, 80) from hbH).symm, kb_iter _ _ _⟩
          · have hbH : Hidden ((v, p, e) = ((acc : Int), 0, 0)) := he4.1 rfl
            clear he4
            go_wp2
            go_ret3
            exact ⟨ret3 (show (v, p, e) = ((acc : Int), 0, 0) from hbH).symm, kb_iter _ _ _⟩
      · have he4 := he3 hnil (fun h => h1 h.1)
        clear he2 he3
        cases f
        · have hbH : Hidden ((v, p, e) = (0, 0, 80)) := he4.2 rfl
          clear he4
          go_wp2
          go_ret3
          exact ⟨ret3 (show (v, p, e) = (0, 0, 80) from hbH).symm, kb_iter _ _ _⟩
        · have hbH : Hidden ((v, p, e) = ((acc : Int), 0, 0)) := he4.1 rfl
          clear he4
          go_wp2
          go_ret3
          exact ⟨ret3 (show (v, p, e) = ((acc : Int), 0, 0) from hbH).symm, kb_iter _ _ _⟩
end Go.Proofs.YtncachlopnpcjaaGreatDoor.I

namespace Go.Proofs.YtncachlopnpcjaaGreatDoor.I
open Go.RowKit
set_option linter.unusedSimpArgs false
set_option linter.unusedVariables false

theorem ra_empty (m : Int) (w : World) :
    Calls Tryz.prog 102 #[.string ⟨#[]⟩, .int .u64 m] w fun r w' => r = .returned (.tuple #[.int .u64 0, .int .i64 0, .int .i64 10]) ∧ Kb w w' := by
  have hnx := next_end w []
  simp only [List.length_nil] at hnx
  go_enter Tryz.func102, Tryz.ntmps102
  go_wp2
  refine wp_loop_rounds 1 ?_
  rw [rounds_succ]
  go_wp2
  go_ret3
  exact ⟨rfl, kb_iter _ _ _⟩
theorem ra_any (l : List UInt8) (m : Nat) (v p e : Int) (hres : amtS m l = (v, p, e)) (hm : m ≤ 9223372036854775808) (hl : l.length ≤ 9223372036854775807) (w : World) :
    Calls Tryz.prog 102 #[.string ⟨l.toArray⟩, .int .u64 (m : Int)] w fun r w' => r = .returned (.tuple #[.int .u64 v, .int .i64 p, .int .i64 e]) ∧ Kb w w' := by
  cases l with
  | nil =>
    simp only [amtS, runD, List.length_nil, Nat.lt_irrefl, if_false, if_true, Prod.mk.injEq] at hres
    obtain ⟨rfl, rfl, rfl⟩ := hres
    exact ra_empty _ w
  | cons c r => exact ra_walk (c :: r) m v p e hres hm hl rfl w

theorem amt_bounds (m : Nat) (l : List UInt8) (v p e : Int) (h : amtS m l = (v, p, e)) : 0 ≤ v ∧ v ≤ m ∧ 0 ≤ p ∧ p ≤ l.length := by
  by_cases he : e = 0
  · subst he
    obtain ⟨h1, h2, h3, _⟩ := amt_ok m l v p h
    exact ⟨h2, h3, by omega, by omega⟩
  · obtain ⟨h1, h2, h3⟩ := amt_err m l v p e h he
    exact ⟨by omega, by omega, h2, h3⟩

theorem nat_any (l : List UInt8) (v p e : Int) (hres : natS l = (v, p, e)) (hl : l.length ≤ 9223372036854775807) (w : World) :
    Calls Tryz.prog 87 #[.string ⟨l.toArray⟩] w fun r w' => r = .returned (.tuple #[.int .i64 v, .int .i64 p, .int .i64 e]) ∧ Kb w w' := by
  have k := ra_any l 9223372036854775807 v p e hres (by omega) hl
  have hb := amt_bounds _ _ _ _ _ hres
  have h0 : 0 ≤ v := hb.1
  have h1 : v ≤ 9223372036854775807 := by omega
  have hw : wrap64 v = v := wrap64_I ⟨by omega, h1⟩
  clear hres hb
  go_enter Tryz.func87, Tryz.ntmps87
  go_wp2_with (go_at_call 102; refine (k _).mono ?_; rintro e w' ⟨rfl, g⟩)
  go_ret3
  first | exact ⟨rfl, g⟩ | exact ⟨ret3 (by rw [hw]), g⟩
end Go.Proofs.YtncachlopnpcjaaGreatDoor.I
