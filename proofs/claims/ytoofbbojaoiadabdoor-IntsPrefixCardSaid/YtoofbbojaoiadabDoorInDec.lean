/- Plain mathematics: decimal texts of whole numbers, read and written. -/
import Derived.Lib.ItoaMem
namespace Go.Proofs.YtoofbbojaoiadabDoor
set_option linter.unusedSimpArgs false
set_option linter.unusedVariables false

def Hidden (p : Prop) : Prop := p
/-- A decimal digit. -/
def isd (c : UInt8) : Bool := decide (48 ≤ c.toNat) && decide (c.toNat ≤ 57)
def stepD (m : Nat) (c : UInt8) : Nat := m * 10 + (c.toNat - 48)
/-- What digits mean. -/
def numD (l : List UInt8) : Nat := l.foldl stepD 0
/-- How many digits stand ahead of the first byte that is none. -/
def runD : List UInt8 → Nat
  | [] => 0
  | c :: r => if isd c then runD r + 1 else 0

theorem isd_lt (c : UInt8) (h : isd c = true) : ∃ D, c.toNat = D + 48 ∧ D ≤ 9 := by
  have hcb : 48 ≤ c.toNat ∧ c.toNat ≤ 57 := by simpa [isd] using h
  exact ⟨c.toNat - 48, by omega, by omega⟩
theorem runD_le (l : List UInt8) : runD l ≤ l.length := by
  induction l with
  | nil => simp [runD]
  | cons c r ih =>
    unfold runD
    split <;> simp <;> omega
theorem runD_all (l : List UInt8) : runD l = l.length ↔ l.all isd = true := by
  induction l with
  | nil => simp [runD]
  | cons c r ih =>
    have := runD_le r
    unfold runD
    cases h : isd c
    · simp [h]
    · simp only [if_true, List.length_cons, List.all_cons, h, Bool.true_and]
      rw [← ih]
      omega
theorem numD_snoc (l : List UInt8) (c : UInt8) : numD (l ++ [c]) = numD l * 10 + (c.toNat - 48) := by
  unfold numD
  rw [List.foldl_append]
  rfl

/-- What the digits of a text mean, up to a greatest number: the number, the place of the error, the error. -/
def amtS (most : Nat) (l : List UInt8) : Int × Int × Int :=
  if runD l < l.length then (0, (runD l : Int), 10)
  else if l.length = 0 then (0, 0, 10)
  else if 1 < l.length ∧ l.head? = some 48 then (0, 0, 10)
  else if most < numD l then (0, 0, 80)
  else ((numD l : Int), 0, 0)
def natS (l : List UInt8) : Int × Int × Int := amtS 9223372036854775807 l
/-- A whole number's text, read. -/
def readS (l : List UInt8) : Int × Int × Int :=
  if l.head? = some 45 then
    if (amtS 9223372036854775808 l.tail).2.2 ≠ 0 then (0, 1 + (amtS 9223372036854775808 l.tail).2.1, (amtS 9223372036854775808 l.tail).2.2)
    else if (amtS 9223372036854775808 l.tail).1 = 0 then (0, 1, 10)
    else (-(amtS 9223372036854775808 l.tail).1, 0, 0)
  else natS l

theorem ofNat_toNat (d : Nat) (h : d < 10) : (UInt8.ofNat (48 + d)).toNat = d + 48 := by
  rw [UInt8.toNat_ofNat']
  omega
theorem isd_ofNat (d : Nat) (h : d < 10) : isd (UInt8.ofNat (48 + d)) = true := by
  unfold isd
  rw [ofNat_toNat d h]
  simp
  omega

open Go.Lib in
theorem dec_facts : ∀ n : Nat, (decDigits n).all isd = true ∧ numD (decDigits n) = n ∧ 0 < (decDigits n).length ∧ (1 ≤ n → ∃ c r, decDigits n = c :: r ∧ c ≠ 48 ∧ isd c = true) := by
  intro n
  induction n using Nat.strongRecOn with
  | ind n ih =>
    by_cases h : n < 10
    · have e : decDigits n = [UInt8.ofNat (48 + n)] := by rw [decDigits, dif_pos h]
      rw [e]
      refine ⟨by simp only [List.all_cons, isd_ofNat n h, List.all_nil, Bool.and_self], ?_, by simp, fun h1 => ⟨_, _, rfl, ?_, isd_ofNat n h⟩⟩
      · simp only [numD, List.foldl_cons, List.foldl_nil, stepD, ofNat_toNat n h]
        omega
      · intro hc
        have := congrArg UInt8.toNat hc
        rw [ofNat_toNat n h] at this
        have h48 : (48 : UInt8).toNat = 48 := rfl
        omega
    · have e : decDigits n = decDigits (n / 10) ++ [UInt8.ofNat (48 + n % 10)] := by rw [decDigits, dif_neg h]
      obtain ⟨i1, i2, i3, i4⟩ := ih (n / 10) (by omega)
      have hd : n % 10 < 10 := by omega
      rw [e]
      refine ⟨by simp only [List.all_append, i1, List.all_cons, isd_ofNat _ hd, List.all_nil, Bool.and_self], ?_, by simp, fun h1 => ?_⟩
      · rw [numD_snoc, i2, ofNat_toNat _ hd]
        omega
      · obtain ⟨c, r, hc, h48, hcd⟩ := i4 (by omega)
        exact ⟨c, r ++ [UInt8.ofNat (48 + n % 10)], by rw [hc]; rfl, h48, hcd⟩

/-- Digits without a nought ahead are the text of what they mean. -/
theorem dec_of_num : ∀ (k : Nat) (l : List UInt8), l.length = k → l.all isd = true → 0 < l.length → (1 < l.length → l.head? ≠ some 48) → Go.Lib.decDigits (numD l) = l ∧ (l.head? ≠ some 48 → 1 ≤ numD l) := by
  intro k
  induction k with
  | zero => intro l h _ h0 _; omega
  | succ k ih =>
    intro l hl ha h0 hh
    rcases List.eq_nil_or_concat l with rfl | ⟨l', c, hlc⟩
    · simp at h0
    rw [List.concat_eq_append] at hlc
    subst hlc
    rw [List.all_append, Bool.and_eq_true] at ha
    obtain ⟨D, hD, hD9⟩ := isd_lt c (by simpa using ha.2)
    rw [numD_snoc, hD]
    rw [Nat.add_sub_cancel]
    by_cases hn : l' = []
    · subst hn
      have e0 : numD ([] : List UInt8) = 0 := rfl
      rw [e0, Nat.zero_mul, Nat.zero_add, Go.Lib.decDigits, dif_pos (by omega)]
      constructor
      · simp only [List.nil_append, List.cons.injEq, and_true]
        apply UInt8.toNat_inj.1
        rw [ofNat_toNat D (by omega), hD]
      · intro h48
        have : c ≠ 48 := by simpa using h48
        have : D ≠ 0 := by
          intro hz
          subst hz
          exact this (UInt8.toNat_inj.1 (by rw [hD]; rfl))
        omega
    · have hpos : 0 < l'.length := List.length_pos_iff.2 hn
      have hhd : (l' ++ [c]).head? = l'.head? := by
        cases l' with
        | nil => exact absurd rfl hn
        | cons => rfl
      rw [hhd] at hh ⊢
      have hne : l'.head? ≠ some 48 := hh (by simp; omega)
      obtain ⟨i1, i2⟩ := ih l' (by simpa using hl) ha.1 hpos (fun _ => hne)
      have i3 := i2 hne
      rw [Go.Lib.decDigits, dif_neg (by omega)]
      rw [show (numD l' * 10 + D) / 10 = numD l' by omega, show (numD l' * 10 + D) % 10 = D by omega, i1]
      refine ⟨?_, fun _ => by omega⟩
      congr 2
      apply UInt8.toNat_inj.1
      rw [ofNat_toNat D (by omega), hD]

theorem amt_dec (most n : Nat) (h : n ≤ most) : amtS most (Go.Lib.decDigits n) = ((n : Int), 0, 0) := by
  obtain ⟨h1, h2, h3, h4⟩ := dec_facts n
  have hr := (runD_all _).2 h1
  unfold amtS
  rw [if_neg (by omega), if_neg (by omega), if_neg ?_, if_neg (by omega), h2]
  rintro ⟨ha, hb⟩
  by_cases h10 : n < 10
  · rw [Go.Lib.decDigits, dif_pos h10] at ha
    simp at ha
  · obtain ⟨c, r, hc, h48, _⟩ := h4 (by omega)
    rw [hc] at hb
    exact h48 (by simpa using hb)

theorem amt_ok (most : Nat) (l : List UInt8) (v p : Int) (h : amtS most l = (v, p, 0)) : p = 0 ∧ 0 ≤ v ∧ v ≤ most ∧ Go.Lib.decDigits v.toNat = l := by
  unfold amtS at h
  have hle := runD_le l
  split at h
  · simp at h
  split at h
  · simp at h
  split at h
  · simp at h
  split at h
  · simp at h
  rename_i h1 h2 h3 h4
  simp only [Prod.mk.injEq, and_true] at h
  obtain ⟨rfl, rfl⟩ := h
  have hall := (runD_all l).1 (by omega)
  obtain ⟨k1, k2⟩ := dec_of_num l.length l rfl hall (by omega) (fun hlt hc => h3 ⟨hlt, hc⟩)
  exact ⟨rfl, by omega, by omega, by simpa using k1⟩
theorem amt_err (most : Nat) (l : List UInt8) (v p e : Int) (h : amtS most l = (v, p, e)) (he : e ≠ 0) : v = 0 ∧ 0 ≤ p ∧ p ≤ l.length := by
  unfold amtS at h
  have hle := runD_le l
  repeat' split at h
  all_goals
    simp only [Prod.mk.injEq] at h
    obtain ⟨rfl, rfl, rfl⟩ := h
    first | exact absurd rfl he | exact ⟨rfl, by omega, by omega⟩

theorem itoa_dec (v : Int) (h : 0 ≤ v) : Go.Lib.itoa v = Go.Lib.decDigits v.toNat := by
  unfold Go.Lib.itoa
  rw [if_neg (by omega)]

theorem dec_head (n : Nat) : (Go.Lib.decDigits n).head? ≠ some 45 ∧ ∃ c r, Go.Lib.decDigits n = c :: r := by
  obtain ⟨h1, h2, h3, h4⟩ := dec_facts n
  cases hc : Go.Lib.decDigits n with
  | nil => rw [hc] at h3; simp at h3
  | cons c r =>
    rw [hc] at h1
    refine ⟨?_, c, r, rfl⟩
    intro h
    have : c = 45 := by simpa using h
    subst this
    simp [isd] at h1

theorem nat_dec (v : Int) (h0 : 0 ≤ v) (h1 : v ≤ 9223372036854775807) : natS (Go.Lib.itoa v) = (v, 0, 0) := by
  unfold natS
  rw [itoa_dec v h0, amt_dec _ _ (by omega)]
  congr 1
  omega
theorem nat_dec_neg (v : Int) (h0 : v < 0) : natS (Go.Lib.itoa v) = (0, 0, 10) := by
  unfold natS Go.Lib.itoa
  rw [if_pos h0]
  have e : runD (45 :: Go.Lib.decDigits v.natAbs) = 0 := by simp [runD, isd]
  unfold amtS
  rw [e, if_pos (by simp)]
  rfl
theorem read_dec (v : Int) (h0 : -9223372036854775808 ≤ v) (h1 : v ≤ 9223372036854775807) : readS (Go.Lib.itoa v) = (v, 0, 0) := by
  by_cases c : v < 0
  · have e : Go.Lib.itoa v = 45 :: Go.Lib.decDigits v.natAbs := by unfold Go.Lib.itoa; rw [if_pos c]
    rw [e]
    unfold readS
    rw [if_pos (by simp), List.tail_cons, amt_dec _ _ (by omega)]
    simp only [ne_eq, not_true_eq_false, if_false]
    rw [if_neg (by omega)]
    congr 1
    omega
  · have hn := nat_dec v (by omega) h1
    unfold readS
    rw [if_neg ?_, hn]
    rw [itoa_dec v (by omega)]
    exact (dec_head _).1

/-- What is read is the one text of its number; an error stands within the text. -/
theorem read_facts (l : List UInt8) (v p e : Int) (h : readS l = (v, p, e)) :
    (e = 0 → p = 0 ∧ Go.Lib.itoa v = l ∧ -9223372036854775808 ≤ v ∧ v ≤ 9223372036854775807) ∧ (e ≠ 0 → v = 0 ∧ 0 ≤ p ∧ p ≤ l.length) := by
  unfold readS at h
  split at h
  · rename_i h45
    obtain ⟨t, rfl⟩ : ∃ t, l = 45 :: t := by
      cases l with
      | nil => simp at h45
      | cons c t => exact ⟨t, by simpa using h45⟩
    rw [List.tail_cons] at h
    obtain ⟨⟨a, q, f⟩, hA⟩ : ∃ x, amtS 9223372036854775808 t = x := ⟨_, rfl⟩
    rw [hA] at h
    simp only at h
    split at h
    · rename_i hf
      obtain ⟨k1, k2, k3⟩ := amt_err _ _ _ _ _ hA hf
      simp only [Prod.mk.injEq] at h
      obtain ⟨rfl, rfl, rfl⟩ := h
      exact ⟨fun h => absurd h hf, fun _ => ⟨rfl, by omega, by simp; omega⟩⟩
    · rename_i hf
      have hf0 : f = 0 := by simpa using hf
      subst hf0
      obtain ⟨k1, k2, k3, k4⟩ := amt_ok _ _ _ _ hA
      split at h
      · simp only [Prod.mk.injEq] at h
        obtain ⟨rfl, rfl, rfl⟩ := h
        exact ⟨fun h => by omega, fun _ => ⟨rfl, by omega, by simp; omega⟩⟩
      · rename_i hz
        simp only [Prod.mk.injEq] at h
        obtain ⟨rfl, rfl, rfl⟩ := h
        refine ⟨fun _ => ⟨rfl, ?_, by omega, by omega⟩, fun h => absurd rfl h⟩
        unfold Go.Lib.itoa
        rw [if_pos (by omega), show (-a).natAbs = a.toNat by omega, k4]
  · unfold natS at h
    constructor
    · rintro rfl
      obtain ⟨k1, k2, k3, k4⟩ := amt_ok _ _ _ _ h
      exact ⟨k1, by rw [itoa_dec v k2, k4], by omega, by omega⟩
    · intro he
      exact amt_err _ _ _ _ _ h he
end Go.Proofs.YtoofbbojaoiadabDoor
