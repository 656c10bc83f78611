/- What a text's tokens mean is right; what is right can be held. -/
import Derived.Test.YteijjaabngkbjaaGreatDoorPzA
import Derived.Test.YteijjaabngkbjaaGreatDoorPsU
import Derived.Test.YteijjaabngkbjaaGreatDoorPsZ
namespace Go.Proofs.YteijjaabngkbjaaGreatDoor.F
open Go.RowKit Fl
set_option linter.unusedSimpArgs false
set_option linter.unusedVariables false
theorem canon_lt {a : Int} (h0 : 0 ≤ a) (h : a ≤ 9218868437227405312) : canonS a = a := by
  unfold canonS nan
  rw [if_neg]
  simp only [decide_eq_true_eq]
  omega
theorem rs_pos (l : List UInt8) : 0 ≤ (rsS l).1 ∧ (rsS l).1 < 9223372036854775808 ∧ canonS (rsS l).1 = (rsS l).1 := by
  unfold rsS
  repeat' split
  · exact ⟨by simp, by simp, by decide⟩
  · exact ⟨by simp, by simp, by decide⟩
  · exact ⟨by simp, by simp, by decide⟩
  · exact ⟨by simp, by simp, by decide⟩
  · exact ⟨by simp, by simp, by decide⟩
  · rename_i h
    generalize cut1 (Lib.trimPrefix l [48, 120, 49]) 112 = q at *
    have h1 := rfS_lt q.1
    have h2 := reS_ok q.2.1 (by
      cases e : (reS q.2.1).2
      · exact absurd (Or.inr e) h
      · rfl)
    have := join_U _ _ h1 h2.1 h2.2
    exact ⟨by simp, by simp only; omega, canon_lt (by simp) (by simp only; omega)⟩
theorem parse_pos (c : UInt8) (z : List UInt8) (hc : c ≠ 45) (h : (parseS (c :: z)).2 = 0) : 0 ≤ (parseS (c :: z)).1 ∧ (parseS (c :: z)).1 < 9223372036854775808 ∧ canonS (parseS (c :: z)).1 = (parseS (c :: z)).1 := by
  have hp : Lib.hasPrefix (c :: z) [45] = false := by
    cases hh : Lib.hasPrefix (c :: z) [45]
    · rfl
    · exfalso
      have : 45 = c := by simpa [Lib.hasPrefix] using hh
      exact hc this.symm
  have key : signed_ (Lib.hasPrefix (c :: z) [45]) (rsS (Lib.trimPrefix (c :: z) [45])).1 = (rsS (Lib.trimPrefix (c :: z) [45])).1 := by rw [hp]; rfl
  unfold parseS at h ⊢
  split
  · simp only
    rw [key]
    exact rs_pos _
  · rename_i hn
    rw [if_neg hn] at h
    exact absurd h (by decide)
theorem quo_pos (m k : Nat) (hm : m ≤ 9007199254740992) (hk : k ≤ 9007199254740992) (hk0 : k ≠ 0) : quoS m k ≤ 9218868437227405312 := by
  obtain ⟨rm, h1⟩ := rep_of m hm
  obtain ⟨rk, h2⟩ := rep_of k hk
  have z : rk ≠ 0 := fun h => hk0 ((rep_zero k rk h2).1 h)
  unfold quoS
  rw [fi_word (m : Int) rm (by simpa using h1), fi_word (k : Int) rk (by simpa using h2)]
  change (Ieee.double.div _ _).getD 0 ≤ _
  unfold Ieee.Format.div
  rw [read_word _ _ h1.1, read_word _ _ h2.1]
  simp only [Ieee.Datum.quotient]
  rw [if_neg (mag_pos rk z)]
  simp only [Option.map_some, Ieee.Format.write, Option.getD_some]
  rw [nearest_rung, word_f]
  have e1 : decide ((m : Int) < 0) = false := decide_eq_false (by omega)
  have e2 : decide ((k : Int) < 0) = false := decide_eq_false (by omega)
  rw [e1, e2]
  simp only [bne_self_eq_false, Bool.false_eq_true, if_false, Bool.xor_self]
  exact rung_le _ _
theorem lit_pos (s : List UInt8) (h : (litS s).2 = 0) : 0 ≤ (litS s).1 ∧ (litS s).1 < 9223372036854775808 ∧ canonS (litS s).1 = (litS s).1 := by
  unfold litS at *
  split at h
  · rename_i hg
    rw [if_pos hg]
    split at h
    · exact absurd h (by decide)
    · rename_i hlen
      rw [if_neg hlen]
      generalize cut1 s 46 = q at *
      rw [Bool.and_eq_true, Bool.and_eq_true] at hg
      have ga : (q.1 ++ q.2.1).all isd = true := by
        have g1 := hg.1.2
        have g2 := hg.2
        unfold allD at g1 g2
        rw [Bool.and_eq_true] at g1 g2
        rw [List.all_append, g1.1, g2.1]
        rfl
      have hn := numD_lt (q.1 ++ q.2.1) 0 0 ga (by decide)
      rw [Nat.zero_add, List.length_append] at hn
      have hp : 10 ^ (q.1.length + q.2.1.length) ≤ 10 ^ 15 := Nat.pow_le_pow_right (by decide) (by omega)
      have hp2 : 10 ^ q.2.1.length ≤ 10 ^ 15 := Nat.pow_le_pow_right (by decide) (by omega)
      have hp0 : 0 < 10 ^ q.2.1.length := Nat.pow_pos (by decide)
      have hm : numD (q.1 ++ q.2.1) ≤ 9007199254740992 := by
        have : numD (q.1 ++ q.2.1) < 10 ^ (q.1.length + q.2.1.length) := hn
        have : (10 : Nat) ^ 15 = 1000000000000000 := by decide
        omega
      have hk : 10 ^ q.2.1.length ≤ 9007199254740992 := by
        have : (10 : Nat) ^ 15 = 1000000000000000 := by decide
        omega
      have := quo_pos (numD (q.1 ++ q.2.1)) (10 ^ q.2.1.length) hm hk (by omega)
      exact ⟨by simp, by simp only; omega, canon_lt (by simp) (by simp only; omega)⟩
  · exact absurd h (by decide)
end Go.Proofs.YteijjaabngkbjaaGreatDoor.F
namespace Go.Proofs.YteijjaabngkbjaaGreatDoor
open Go.RowKit Lx Te
set_option linter.unusedSimpArgs false
set_option linter.unusedVariables false
theorem nat_pos (l : Bs) (h : (I.natS l).2.2 = 0) : 0 ≤ (I.natS l).1 ∧ (I.natS l).1 < 9223372036854775808 := by
  unfold I.natS I.amtS at *
  by_cases a : I.runD l < l.length
  · rw [if_pos a] at h; exact absurd h (by simp)
  rw [if_neg a] at *
  by_cases b : l.length = 0
  · rw [if_pos b] at h; exact absurd h (by decide)
  rw [if_neg b] at *
  by_cases c : 1 < l.length ∧ l.head? = some 48
  · rw [if_pos c] at h; exact absurd h (by decide)
  rw [if_neg c] at *
  by_cases d : 9223372036854775807 < I.numD l
  · rw [if_pos d] at h; exact absurd h (by decide)
  rw [if_neg d] at *
  exact ⟨by simp, by simp only; omega⟩
theorem tw_all (p : UInt8 → Bool) : ∀ (l : Bs), ∀ d ∈ l.takeWhile p, p d = true
  | [], d, hd => by simp at hd
  | c :: r, d, hd => by
    rw [List.takeWhile_cons] at hd
    split at hd
    · rcases List.mem_cons.1 hd with rfl | hd
      · assumption
      · exact tw_all p r d hd
    · simp at hd
theorem tw_take (p : UInt8 → Bool) : ∀ (l : Bs), l.take (l.takeWhile p).length = l.takeWhile p
  | [] => rfl
  | c :: r => by
    rw [List.takeWhile_cons]
    split
    · rw [List.length_cons, List.take_succ_cons, tw_take p r]
    · rfl
/-- A text's tokens are right. -/
theorem tok_r {l : By} {ts : List Tok} (h : lexS wordsL valS l = (ts, 0, 0)) : ∀ t ∈ ts, Pz.TokR rnS cnS t := by
  rcases toks_of_lexS wordsL valS l ts 0 0 h with ⟨_, _, _, _, hT⟩ | ⟨h0, _⟩
  · intro t ht
    obtain ⟨r, hk, hx, hv⟩ := toks_all wordsL valS hT t ht
    obtain ⟨k, x, ty, b, p⟩ := t
    simp only at hk hx hv
    obtain ⟨c, z, rfl⟩ : ∃ c z, x = c :: z := by
      cases x with
      | nil => exact absurd rfl hx
      | cons c z => exact ⟨c, z, rfl⟩
    rw [List.cons_append, kind_cons] at hk
    have knum : ∀ l', (numLen l').1 = 3 ∨ (numLen l').1 = 4 := by
      intro l'
      unfold numLen
      split
      · exact Or.inr rfl
      · split
        · exact Or.inr rfl
        · exact Or.inl rfl
    constructor
    · intro h1
      simp only at h1
      subst h1
      split at hk
      · have := knum (c :: (z ++ r))
        rw [hk] at this
        simp at this
      · split at hk
        · rename_i hd hl
          simp only [Prod.mk.injEq] at hk
          have hw : ¬ (c :: (z ++ r)).take (run nmB (c :: (z ++ r))) ∈ wordsL := by
            intro hw
            have h1 := hk.1
            rw [if_pos hw] at h1
            exact absurd h1 (by decide)
          have hx' : (c :: (z ++ r)).take (run nmB (c :: (z ++ r))) = c :: z := by
            rw [hk.2, ← List.cons_append, List.take_left]
          rw [hx'] at hw
          have hall : ∀ d ∈ c :: z, nmB d = true := by
            intro d hd
            rw [← hx'] at hd
            unfold run at hd
            rw [tw_take] at hd
            exact tw_all nmB _ d hd
          unfold valS at hv
          rw [if_pos rfl] at hv
          simp only [Prod.mk.injEq] at hv
          have h32 : ¬ 32 < (c :: z).length := by
            intro hc
            have := hv.2.2
            rw [if_pos hc] at this
            exact absurd this (by decide)
          show N.rightS (c :: z) = 0
          unfold N.rightS
          have hsp : N.speltS (c :: z) = true := by
            rw [N.spelt_cons (c :: z) c rfl, Bool.and_eq_true]
            refine ⟨?_, ?_⟩
            · simp only [N.letB, ltr, Bool.or_eq_true, Bool.and_eq_true, decide_eq_true_eq, beq_iff_eq] at hl ⊢
              exact hl
            · rw [List.all_eq_true]
              intro d hd
              have := hall d hd
              simp only [N.ld, N.letB, N.digB, nmB, dgt, ltr, Bool.or_eq_true, Bool.and_eq_true, decide_eq_true_eq, beq_iff_eq] at this ⊢
              exact this.symm
          rw [if_pos hsp, if_neg h32, if_neg (show ¬ c :: z ∈ N.wordsL from hw)]
        · simp at hk
    · intro h34
      simp only at h34
      have hd : dgt c = true := by
        split at hk
        · assumption
        · split at hk
          · simp only [Prod.mk.injEq] at hk
            have := hk.1
            split at this <;> omega
          · simp only [Prod.mk.injEq] at hk
            omega
      have hc45 : c ≠ 45 := by
        rintro rfl
        exact absurd hd (by decide)
      unfold valS at hv
      rw [if_neg (by omega)] at hv
      rcases h34 with rfl | rfl
      · rw [if_pos rfl] at hv
        split at hv
        · rename_i h0
          simp only [Prod.mk.injEq] at hv
          obtain ⟨rfl, rfl, _⟩ := hv
          have := nat_pos _ h0
          exact ⟨by simpa [litOk] using this.2, this.1⟩
        · rename_i h0
          simp only [Prod.mk.injEq] at hv
          exact absurd hv.2.2 h0
      · rw [if_neg (by decide), if_pos rfl] at hv
        split at hv
        · split at hv
          · rename_i h0
            simp only [Prod.mk.injEq] at hv
            obtain ⟨rfl, rfl, _⟩ := hv
            have := F.parse_pos c z hc45 h0
            exact ⟨by simp only [litOk]; simp; exact ⟨this.2.1, this.2.2⟩, this.1⟩
          · rename_i h0
            simp only [Prod.mk.injEq] at hv
            exact absurd hv.2.2 h0
        · split at hv
          · rename_i h0
            simp only [Prod.mk.injEq] at hv
            obtain ⟨rfl, rfl, _⟩ := hv
            have := F.lit_pos (c :: z) h0
            exact ⟨by simp only [litOk]; simp; exact ⟨this.2.1, this.2.2⟩, this.1⟩
          · rename_i h0
            simp only [Prod.mk.injEq] at hv
            exact absurd hv.2.2 h0
  · exact absurd rfl h0
end Go.Proofs.YteijjaabngkbjaaGreatDoor
