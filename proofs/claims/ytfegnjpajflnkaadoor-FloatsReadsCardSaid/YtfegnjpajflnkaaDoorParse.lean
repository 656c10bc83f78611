/- What readSize and Parse answer, for any text. -/
import Derived.Test.YtfegnjpajflnkaaDoorRead
namespace Go.Proofs.YtfegnjpajflnkaaDoor
open Go.RowKit Fl
set_option linter.unusedSimpArgs false
set_option linter.unusedVariables false

def rfS (l : List UInt8) : Nat × Bool :=
  if l.isEmpty then (0, true) else if Lib.hasPrefix l [46] = false ∨ 13 < (Lib.trimPrefix l [46]).length then (0, false)
  else (outF (foldHex (Lib.trimPrefix l [46]) 0) (Lib.trimPrefix l [46]).length, (foldHex (Lib.trimPrefix l [46]) 0).isSome)
theorem rf_any (l : List UInt8) (f : Nat) (ok : Bool) (h : rfS l = (f, ok)) (w : World) :
    Calls Tryd.prog 70 #[.string ⟨l.toArray⟩] w fun e w' => e = .returned (.tuple #[.int .u64 (f : Int), .bool ok]) ∧ w = w' := by
  unfold rfS at h
  cases he : l.isEmpty
  · rw [he] at h
    simp only [Bool.false_eq_true, if_false] at h
    cases hp : Lib.hasPrefix l [46]
    · rw [if_pos (Or.inl hp)] at h
      cases h
      exact rf_nopoint l he hp w
    · by_cases hd : 13 < (Lib.trimPrefix l [46]).length
      · rw [if_pos (Or.inr hd)] at h
        cases h
        exact rf_long l _ he hp rfl hd w
      · rw [if_neg (by rintro (h1 | h1); · rw [hp] at h1; cases h1
                       · exact hd h1)] at h
        cases h
        exact rf_point l _ _ he hp rfl (by omega) rfl w
  · rw [he] at h
    cases h
    have : l = [] := by simpa using he
    subst this
    exact rf_empty w

def reS (l : List UInt8) : Int × Bool := match l with
  | [] => (0, false)
  | x :: ds => if 4 < ds.length then (0, false) else (expOf x (foldDec ds 0), expOk x (foldDec ds 0))
theorem re_any (l : List UInt8) (e : Int) (ok : Bool) (h : reS l = (e, ok)) (w : World) :
    Calls Tryd.prog 71 #[.string ⟨l.toArray⟩] w fun r w' => r = .returned (.tuple #[.int .i64 e, .bool ok]) ∧ w = w' := by
  cases l with
  | nil =>
    cases h
    exact re_bad [] (Or.inl rfl) w
  | cons x ds =>
    simp only [reS] at h
    by_cases c : 4 < ds.length
    · rw [if_pos c] at h
      cases h
      exact re_bad (x :: ds) (Or.inr ⟨rfl, by simp; omega⟩) w
    · rw [if_neg c] at h
      cases h
      exact re_good x ds _ _ rfl (by omega) rfl w

theorem foldHex_lt (ds : List UInt8) : ∀ (acc n : Nat), acc < 16 ^ n → ∀ r, foldHex ds acc = some r → r < 16 ^ (n + ds.length) := by
  induction ds with
  | nil => intro acc n h r hr; cases hr; simpa using h
  | cons c ds ih =>
    intro acc n h r hr
    have hb := hix_bounds c
    rw [foldHex] at hr
    by_cases hc : hix c < 0
    · rw [if_pos hc] at hr; cases hr
    · rw [if_neg hc] at hr
      have := ih (acc * 16 + (hix c).toNat) (n + 1) (by rw [Nat.pow_succ]; omega) r hr
      rw [List.length_cons, show n + (ds.length + 1) = n + 1 + ds.length by omega]
      exact this
theorem rfS_lt (l : List UInt8) : (rfS l).1 < 4503599627370496 := by
  unfold rfS
  repeat' split
  · simp
  · simp
  · rename_i h
    generalize Lib.trimPrefix l [46] = ds at *
    have hd : ds.length ≤ 13 := by
      apply Classical.byContradiction
      intro hc
      exact h (Or.inr (by omega))
    simp only [outF]
    cases hf : foldHex ds 0 with
    | none => simp
    | some r =>
      simp only
      have := foldHex_lt ds 0 0 (by simp) r hf
      rw [Nat.zero_add] at this
      have e : 16 ^ ds.length * 16 ^ (13 - ds.length) = 16 ^ 13 := by rw [← Nat.pow_add]; congr 1; omega
      have h2 : r * 16 ^ (13 - ds.length) < 16 ^ ds.length * 16 ^ (13 - ds.length) := Nat.mul_lt_mul_of_pos_right this (Nat.pow_pos (by decide))
      rw [e] at h2
      omega
theorem reS_ok (l : List UInt8) (h : (reS l).2 = true) : -1074 ≤ (reS l).1 ∧ (reS l).1 ≤ 1023 := by
  cases l with
  | nil => cases h
  | cons x ds =>
    simp only [reS] at h ⊢
    split at h
    · cases h
    · rename_i hd
      rw [if_neg hd]
      cases hf : foldDec ds 0 with
      | none => rw [hf] at h; cases h
      | some a =>
        rw [hf] at h
        by_cases c1 : (x.toNat : Int) = 43
        · have e := expOf_pos x a c1
          rw [e.2] at h
          simp only [e.1]
          have := of_decide_eq_true h
          omega
        · by_cases c2 : (x.toNat : Int) = 45
          · have e := expOf_neg x a c2
            rw [e.2] at h
            simp only [e.1]
            have := of_decide_eq_true h
            omega
          · have e := expOf_other x a c1 c2
            rw [e.2] at h
            cases h

def joinS (f : Nat) (e : Int) : Nat := if e < -1022 then (4503599627370496 + f) / 2 ^ (-1022 - e).toNat else (e + 1023).toNat * 4503599627370496 + f
theorem join_U (f : Nat) (e : Int) (hf : f < 4503599627370496) (h0 : -1074 ≤ e) (h1 : e ≤ 1023) : joinS f e < 9218868437227405312 := by
  unfold joinS
  split
  · have := Nat.div_le_self (4503599627370496 + f) (2 ^ (-1022 - e).toNat)
    omega
  · omega
theorem join_any (f : Nat) (e : Int) (hf : f < 4503599627370496) (h0 : -1074 ≤ e) (h1 : e ≤ 1023) (w : World) :
    Calls Tryd.prog 72 #[.int .u64 (f : Int), .int .i64 e] w fun r w' => r = .returned (.int .u64 (joinS f e : Nat)) ∧ w = w' := by
  by_cases c : e < -1022
  · have hor : bits .or .u64 4503599627370496 (f : Int) = 4503599627370496 + (f : Int) := by
      rw [u64_or _ _ (by omega) (by omega) (by omega) (by omega)]
      have := nat_join 52 4503599627370496 f (by decide) (by omega)
      rw [show (4503599627370496 : Int).toNat = 4503599627370496 from rfl, Int.toNat_natCast, this]
      omega
    have hsh : (4503599627370496 + (f : Int)) / 2 ^ (-1022 - e).toNat = ((joinS f e : Nat) : Int) := by
      unfold joinS
      rw [if_pos c, Int.natCast_ediv, Int.natCast_pow, Int.natCast_add]
      rfl
    go_enter Tryd.func72, Tryd.ntmps72
    go_wp2
    go_ret
    exact ⟨by first | rfl | simp [hsh], rfl⟩
  · have hsh : IntKind.u64.wrap ((e + 1023) * 4503599627370496) = (e + 1023) * 4503599627370496 := by rw [IntKind.wrap_u64]; omega
    have hor : bits .or .u64 ((e + 1023) * 4503599627370496) (f : Int) = ((joinS f e : Nat) : Int) := by
      rw [u64_or _ _ (by omega) (by omega) (by omega) (by omega)]
      have := nat_join 52 ((e + 1023) * 4503599627370496).toNat f (by omega) (by omega)
      rw [Int.toNat_natCast, this]
      unfold joinS
      rw [if_neg c]
      omega
    go_enter Tryd.func72, Tryd.ntmps72
    go_wp2
    go_ret
    exact ⟨by first | rfl | simp [hor], rfl⟩
end Go.Proofs.YtfegnjpajflnkaaDoor
