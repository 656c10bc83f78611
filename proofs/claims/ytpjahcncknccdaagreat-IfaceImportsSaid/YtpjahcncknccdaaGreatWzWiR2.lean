/- Numbers taken. -/
import Derived.Test.YtpjahcncknccdaaGreatWzWiR
import Derived.Laws.Bits64b
namespace Go.Proofs.YtpjahcncknccdaaGreat.Wi
open Go.RowKit
set_option linter.unusedSimpArgs false
set_option linter.unusedVariables false
set_option maxRecDepth 20000

/-- The number that bytes are, the highest first. -/
def numS (l : List UInt8) : Nat := l.foldl (fun n c => n * 256 + c.toNat) 0
theorem numS_snoc (l : List UInt8) (c : UInt8) : numS (l ++ [c]) = numS l * 256 + c.toNat := by simp [numS]
theorem fold_lt (l : List UInt8) : ∀ a : Nat, l.foldl (fun n c => n * 256 + c.toNat) a < (a + 1) * 256 ^ l.length := by
  induction l with
  | nil => intro a; simp
  | cons c r ih =>
    intro a
    have h := ih (a * 256 + c.toNat)
    have hc := c.toNat_lt
    simp only [List.foldl_cons, List.length_cons, Nat.pow_succ]
    have h2 : (a * 256 + c.toNat + 1) * 256 ^ r.length ≤ ((a + 1) * 256) * 256 ^ r.length := Nat.mul_le_mul_right _ (by omega)
    have h3 : ((a + 1) * 256) * 256 ^ r.length = (a + 1) * (256 ^ r.length * 256) := by rw [Nat.mul_assoc, Nat.mul_comm 256]
    omega
theorem numS_lt (l : List UInt8) : numS l < 256 ^ l.length := by
  have := fold_lt l 0
  simpa [numS] using this
theorem or_byte (A : Nat) (x : UInt8) (h : A < 72057594037927936) : bits .or .u64 ((A : Int) * 256) (IntKind.u64.wrap (x.toNat : Int)) = ((A * 256 + x.toNat : Nat) : Int) := by
  have hx := x.toNat_lt
  have hw : IntKind.u64.wrap (x.toNat : Int) = (x.toNat : Int) := by rw [IntKind.wrap_u64]; omega
  rw [hw]
  have := bits_or_u64_nat (A * 256) x.toNat (by omega) (by omega)
  rw [show ((A * 256 : Nat) : Int) = (A : Int) * 256 by omega] at this
  rw [this]
  congr 1
  have h8 : x.toNat < 2 ^ 8 := by omega
  have := Nat.two_pow_add_eq_or_of_lt h8 A
  rw [show 2 ^ 8 * A = A * 256 by omega] at this
  exact this.symm

def giveUp (code : Int) : Ending := .panicked [{ v := .iface 134 (.agg #[.int .i64 code]), recovered := false }]

theorem number_out (q : Nat) (rest : List UInt8) (n : Int) (w : World) (hr : Rd w q rest 0) (hn : (rest.length : Int) < n) :
    Calls Tryz.prog 98 #[rp q, .int .i64 n] w fun e w' => e = giveUp 40 ∧ w = w' := by
  have kt := take_out q rest n w hr hn
  clear hr hn
  go_enter Tryz.func98, Tryz.ntmps98
  go_wp2_with (go_at_call 80; refine kt.mono ?_; rintro e w' ⟨rfl, rfl⟩)
  exact ⟨rfl, rfl, rfl⟩

set_option maxHeartbeats 400000 in
theorem number_in (q : Nat) (rest : List UInt8) (n : Nat) (w : World) (hr : Rd w q rest 0) (hn : n ≤ rest.length) (h8 : n ≤ 8) :
    Calls Tryz.prog 98 #[rp q, .int .i64 (n : Int)] w fun e w' => e = .returned (.int .u64 (numS (rest.take n) : Int)) ∧ Rd w' q (rest.drop n) 0 ∧ Fr (fun k => k = q) w w' := by
  have kt := take_in q rest n w hr hn
  obtain ⟨l, hl⟩ : ∃ l, rest.take n = l := ⟨_, rfl⟩
  have hll : Hidden (l.length = n) := by
    show l.length = n
    rw [← hl, List.length_take]; omega
  rw [hl] at kt ⊢
  have kt2 : Calls Tryz.prog 80 #[rp q, .int .i64 (n : Int)] w fun e w' => ∃ ao cap, e = .returned (.slice ao n cap) ∧ Sl w' (.slice ao n cap) (bc l) ∧ Rd w' q (rest.drop n) 0 ∧ Fr (fun k => k = q) w w' := by
    refine kt.mono ?_
    rintro e w' ⟨v, rfl, h1, h2⟩
    obtain ⟨ao, cap, e1, _⟩ := id h1
    rw [bc_length, show l.length = n from hll] at e1
    subst e1
    exact ⟨_, _, rfl, h1, h2⟩
  clear kt hr hl
  go_enter Tryz.func98, Tryz.ntmps98
  go_wp2_with (go_at_call 80; refine kt2.mono ?_; rintro e w1 ⟨ao, cap, rfl, hs, hrd, hfr⟩)
  have hH : Hidden (Sl w1 (.slice ao n cap) (bc l) ∧ Rd w1 q (rest.drop n) 0 ∧ Fr (fun k => k = q) w w1) := ⟨hs, hrd, hfr⟩
  clear hs hrd hfr kt2
  go_loopg [5, 12] n (fun k nv iv wr => ∃ j : Nat, nv = .int .u64 (numS (l.take j) : Int) ∧ iv = .int .i64 (j : Int) ∧ j ≤ n ∧ k = n - j ∧ wr = w1)
  case atStart => exact ⟨0, by simp [numS], rfl, by omega, rfl, rfl⟩
  case round =>
    obtain ⟨j, rfl, rfl, hj, hk, rfl⟩ := hrel
    have hkH : Hidden (gk = n - j) := hk
    clear hk
    by_cases hjl : j < n
    · have hll' : l.length = n := hll
      obtain ⟨x, hx⟩ : ∃ x, l[j]? = some x := ⟨l[j], List.getElem?_eq_getElem (by omega)⟩
      obtain ⟨ao', cap', e1, a1, a2, a3, a4⟩ := hH.1
      have hA : Hidden (numS (l.take (j + 1)) = numS (l.take j) * 256 + x.toNat) := by
        rw [take_next hx, numS_snoc]; exact rfl
      have hlt : Hidden (numS (l.take j) < 256 ^ j) := by
        have := numS_lt (l.take j)
        rw [List.length_take] at this
        rw [Nat.min_eq_left (by omega)] at this
        exact this
      simp only [Value.slice.injEq] at e1
      obtain ⟨rfl, hbl, rfl⟩ := e1
      clear hbl
      rcases a4 with h4 | ⟨b, off, rfl, hc⟩
      · have : l = [] := by simpa [bc] using h4
        subst this
        simp at hx
      · have hcj : wr.cell? ⟨b, off + j, none⟩ = some (.int .u8 (x.toNat : Int)) := hc j _ (by simp [bc, hx])
        obtain ⟨A, hAe⟩ : ∃ A, numS (l.take j) = A := ⟨_, rfl⟩
        rw [hAe] at hA hlt ⊢
        have hA2 : A < 72057594037927936 := by
          have : A < 256 ^ j := hlt
          have : 256 ^ j ≤ 256 ^ 7 := Nat.pow_le_pow_right (by omega) (by omega)
          omega
        have e_or := or_byte A x hA2
        clear hx a1 a2 a3 hc hll' hAe
        go_wp2
        go_roundg (n - (j + 1))
        case measure =>
          have : gk = n - j := hkH
          omega
        case rel => exact ⟨j + 1, by rw [show numS (l.take (j + 1)) = A * 256 + x.toNat from hA]; simp, by go_num, by omega, rfl, rfl⟩
    · obtain rfl : j = n := by omega
      have hll' : l.length = j := hll
      have e : l.take j = l := by rw [← hll', List.take_length]
      rw [e]
      clear hll' e
      go_wp2
      go_ret
      exact ⟨rfl, hH.2⟩
end Go.Proofs.YtpjahcncknccdaaGreat.Wi
