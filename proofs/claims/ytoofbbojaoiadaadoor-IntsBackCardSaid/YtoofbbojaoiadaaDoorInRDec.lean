/- What the document's Natural, Read and Decimal answer: the same as package ints. -/
import Derived.Test.YtoofbbojaoiadaaDoorInRRead
namespace Go.Proofs.YtoofbbojaoiadaaDoor
open Go.RowKit
set_option linter.unusedSimpArgs false
set_option linter.unusedVariables false

theorem rd_any (l : List UInt8) (m : Nat) (v p e : Int) (hres : amtS m l = (v, p, e)) (hm : m ≤ 9223372036854775808) (hm9 : 9 ≤ m) (hl : l.length ≤ 9223372036854775807) (w : World) :
    Calls Tryd.prog 41 #[.string ⟨l.toArray⟩, .int .u64 (m : Int)] w fun r w' => r = .returned (.tuple #[.int .u64 v, .int .i64 p, .int .i64 e]) ∧ w = w' := by
  cases l with
  | nil =>
    simp only [amtS, runD, List.length_nil, Nat.lt_irrefl, if_false, if_true, Prod.mk.injEq] at hres
    obtain ⟨rfl, rfl, rfl⟩ := hres
    exact rd_empty _ w
  | cons c r => exact rd_walk (c :: r) m v p e hres hm hm9 hl (by simp) w

theorem rnat_any (l : List UInt8) (v p e : Int) (hres : natS l = (v, p, e)) (hl : l.length ≤ 9223372036854775807) (w : World) :
    Calls Tryd.prog 27 #[.string ⟨l.toArray⟩] w fun r w' => r = .returned (.tuple #[.int .i64 v, .int .i64 p, .int .i64 e]) ∧ w = w' := by
  have k := rd_any l 9223372036854775807 v p e hres (by omega) (by omega) hl
  have hb := amt_bounds _ _ _ _ _ hres
  have h0 : 0 ≤ v := hb.1
  have h1 : v ≤ 9223372036854775807 := by omega
  have hw : wrap64 v = v := wrap64_I ⟨by omega, h1⟩
  clear hres hb
  go_enter Tryd.func27, Tryd.ntmps27
  go_wp2_with (go_at_call 41; refine (k _).mono ?_; rintro e w' ⟨rfl, rfl⟩)
  go_ret3
  first | exact ⟨rfl, rfl⟩ | exact ⟨ret3 (by rw [hw]), rfl⟩

theorem rread_any (l : List UInt8) (v p e : Int) (hres : readS l = (v, p, e)) (hl : l.length ≤ 9223372036854775807) (w : World) :
    Calls Tryd.prog 29 #[.string ⟨l.toArray⟩] w fun r w' => r = .returned (.tuple #[.int .i64 v, .int .i64 p, .int .i64 e]) ∧ w = w' := by
  have hs := str_len l
  by_cases hnil : l = []
  · subst hnil
    rw [readS_pos [] (by simp)] at hres
    have kn := rnat_any [] v p e hres hl
    clear hres
    go_enter Tryd.func29, Tryd.ntmps29
    go_wp2_with (go_at_call 27; refine (kn _).mono ?_; rintro e w' ⟨rfl, rfl⟩)
    go_ret3
    exact ⟨rfl, rfl⟩
  have hpos : 0 < l.length := List.length_pos_iff.2 hnil
  have hz : ((l.length : Int) == 0) = false := by simp only [beq_eq_false_iff_ne, ne_eq]; omega
  obtain ⟨c0, t, rfl⟩ : ∃ c t, l = c :: t := by
    cases l with
    | nil => exact absurd rfl hnil
    | cons c t => exact ⟨c, t, rfl⟩
  have hx0 : ∀ W : World, (Instr.index 9 (.string ⟨(c0 :: t).toArray⟩) (.int .i64 0)).run Tryd.prog W = .ok (.int .u8 (c0.toNat : Int)) W := fun W => str_index (c0 :: t) 0 c0 rfl W
  by_cases h45 : c0 = 45
  · subst h45
    obtain ⟨⟨a, q, f⟩, hA⟩ : ∃ x, amtS 9223372036854775808 t = x := ⟨_, rfl⟩
    have ka := rd_any t 9223372036854775808 a q f hA (by omega) (by omega) (by simp at hl; omega)
    have hb := amt_bounds _ _ _ _ _ hA
    rw [readS_neg t a q f hA] at hres
    have hsl : ∀ W : World, (Instr.slice 9 (.string ⟨(45 :: t).toArray⟩) (some (.int .i64 1)) none none).run Tryd.prog W = .ok (.string ⟨t.toArray⟩) W := fun W => slice_from (45 :: t) 1 (by simp) hl W
    have q0 : 0 ≤ q := hb.2.2.1
    have q1 : q < 9223372036854775807 := by simp at hl; omega
    have a0 : 0 ≤ a := hb.1
    have a1 : a ≤ 9223372036854775808 := hb.2.1
    have hx1 : ∀ W : World, (Instr.index 9 (.string ⟨(45 :: t).toArray⟩) (.int .i64 0)).run Tryd.prog W = .ok (.int .u8 45) W := hx0
    clear hx0 hnil hpos
    generalize hL : (45 :: t : List UInt8) = L at *
    clear hA hl hL hb
    by_cases hf : f = 0
    · subst hf
      simp only [ne_eq, not_true_eq_false, if_false] at hres
      by_cases ha : a = 0
      · subst ha
        simp only [if_true, Prod.mk.injEq] at hres
        obtain ⟨rfl, rfl, rfl⟩ := hres
        go_enter Tryd.func29, Tryd.ntmps29
        go_wp2_with (go_at_call 41; refine (ka _).mono ?_; rintro e w' ⟨rfl, rfl⟩)
        go_ret3
        exact ⟨rfl, rfl⟩
      · have hn := neg_wrap a (by omega) a1
        have ha' : (a == 0) = false := by simpa using ha
        rw [if_neg ha] at hres
        simp only [Prod.mk.injEq] at hres
        obtain ⟨rfl, rfl, rfl⟩ := hres
        go_enter Tryd.func29, Tryd.ntmps29
        go_wp2_with (go_at_call 41; refine (ka _).mono ?_; rintro e w' ⟨rfl, rfl⟩)
        go_ret3
        first | exact ⟨rfl, rfl⟩ | exact ⟨ret3 (by rw [hn]), rfl⟩
    · have hf' : (f != 0) = true := by simpa using hf
      rw [if_pos hf] at hres
      simp only [Prod.mk.injEq] at hres
      obtain ⟨rfl, rfl, rfl⟩ := hres
      go_enter Tryd.func29, Tryd.ntmps29
      go_wp2_with (go_at_call 41; refine (ka _).mono ?_; rintro e w' ⟨rfl, rfl⟩)
      go_ret3
      first | exact ⟨rfl, rfl⟩ | exact ⟨ret3 (by rw [Int.add_comm q 1]), rfl⟩
  · have hc' : ((c0.toNat : Int) != 45) = true := by
      simp only [bne_iff_ne, ne_eq]
      intro h
      exact h45 (UInt8.toNat_inj.1 (by rw [show (45 : UInt8).toNat = 45 from rfl]; omega))
    rw [readS_pos _ (by simpa using h45)] at hres
    have kn := rnat_any (c0 :: t) v p e hres hl
    clear hres h45 hnil hpos
    generalize (c0.toNat : Int) = C at *
    generalize (c0 :: t : List UInt8) = L at *
    go_enter Tryd.func29, Tryd.ntmps29
    go_wp2_with (go_at_call 27; refine (kn _).mono ?_; rintro e w' ⟨rfl, rfl⟩)
    go_ret3
    exact ⟨rfl, rfl⟩

theorem conv_back (w : World) (a : Addr) (n cap : Nat) (l : List UInt8) (hn : l.length = n) (hc : ∀ j (hj : j < l.length), w.cell? (a.add j) = some (.int .u8 (l[j].toNat : Int))) :
    (convert 48 9 (.slice (some a) n cap)).run Tryd.prog w = .ok (.string ⟨l.toArray⟩) w := by
  subst hn
  exact run_convert_bytes_back w 48 9 5 a cap l Tryd.underlying48 Tryd.underlying5 Tryd.underlying9 hc
theorem conv_one (W : World) (a : Addr) (c : Int) (h0 : 0 ≤ c) (h1 : c < 256) (hc : W.cell? a = some (.int .u8 c)) :
    (convert 48 9 (.slice (some a) 1 1)).run Tryd.prog W = .ok (.string ⟨#[UInt8.ofNat c.toNat]⟩) W := by
  refine conv_back W a 1 1 [UInt8.ofNat c.toNat] rfl ?_
  intro j hj
  obtain rfl : j = 0 := by simp at hj; omega
  have e : ((UInt8.ofNat c.toNat).toNat : Int) = c := by
    rw [UInt8.toNat_ofNat']
    omega
  simp only [List.getElem_cons_zero, e]
  simpa [Addr.add] using hc

theorem itoa_step (v D Q : Int) (h0 : 0 ≤ D) (h9 : D ≤ 9) (hQ : Q ≠ 0) (h : (0 ≤ v ∧ v = Q * 10 + D) ∨ (v < 0 ∧ v = Q * 10 - D ∧ Q < 0)) : Lib.itoa v = Lib.itoa Q ++ [UInt8.ofNat (48 + D).toNat] := by
  rcases h with ⟨h1, h2⟩ | ⟨h1, h2, h3⟩
  · unfold Lib.itoa
    rw [if_neg (by omega), if_neg (by omega), Lib.decDigits, dif_neg (by omega), show v.toNat / 10 = Q.toNat by omega, show 48 + v.toNat % 10 = (48 + D).toNat by omega]
  · unfold Lib.itoa
    rw [if_pos h1, if_pos h3, Lib.decDigits, dif_neg (by omega), show v.natAbs / 10 = Q.natAbs by omega, show 48 + v.natAbs % 10 = (48 + D).toNat by omega]
    rfl
theorem itoa_len (v : Int) (hv : I64 v) : (Lib.itoa v).length ≤ 100 ∧ (Lib.itoa v).isEmpty = false := by
  have key : ∀ (k n : Nat), n < 10 ^ (k + 1) → (Lib.decDigits n).length ≤ k + 1 := by
    intro k
    induction k with
    | zero => intro n h; rw [Lib.decDigits, dif_pos (by omega)]; simp
    | succ k ih =>
      intro n h
      rw [Lib.decDigits]
      split
      · simp
      · have := ih (n / 10) (by rw [Nat.pow_succ] at h; omega)
        simp
        omega
  obtain ⟨h0, h1⟩ := hv
  have h2 : (9223372036854775808 : Nat) < 10 ^ (19 + 1) := by decide
  have k1 := key 19 v.natAbs (by omega)
  have k2 := key 19 v.toNat (by omega)
  have d1 := (dec_facts v.toNat).2.2.1
  unfold Lib.itoa
  split
  · exact ⟨by simp; omega, rfl⟩
  · refine ⟨by omega, ?_⟩
    cases hc : Lib.decDigits v.toNat with
    | nil => rw [hc] at d1; simp at d1
    | cons => rfl

set_option maxHeartbeats 1000000 in
theorem rdec_any : ∀ (n : Nat) (v : Int), v.natAbs = n → I64 v → ∀ w : World,
    Calls Tryd.prog 31 #[.int .i64 v] w fun e w' => e = .returned (.string ⟨(Lib.itoa v).toArray⟩) ∧ Kb w w' := by
  intro n
  induction n using Nat.strongRecOn with
  | _ n ih =>
    intro v hn hv w
    have hI := hv
    obtain ⟨v0, v1⟩ := hv
    have hcv : ∀ (D : Int), 0 ≤ D → D ≤ 9 → ∀ W : World, (convert 48 9 (.slice (some ⟨W.heap.size, 0, none⟩) 1 1)).run Tryd.prog (W.alloc (.cells #[.int .u8 (48 + D)] 5)) = .ok (.string ⟨#[UInt8.ofNat (48 + D).toNat]⟩) (W.alloc (.cells #[.int .u8 (48 + D)] 5)) :=
      fun D h0 h1 W => conv_one (W.alloc (.cells #[.int .u8 (48 + D)] 5)) ⟨W.heap.size, 0, none⟩ _ (by omega) (by omega) (by simp)
    by_cases c : v < 0
    · obtain ⟨D, hD⟩ : ∃ D, v.tmod 10 = -D := ⟨-(v.tmod 10), by omega⟩
      obtain ⟨Q, hQ⟩ : ∃ Q, v.tdiv 10 = Q := ⟨_, rfl⟩
      have hm := Int.mul_tdiv_add_tmod v 10
      have hlt := tmod_lt v 10 (by omega)
      have hsg := (tmod_sign v 10).2 (by omega)
      rw [hD] at hm hlt hsg
      rw [hQ] at hm
      have D0 : 0 ≤ D := by omega
      have D9 : D ≤ 9 := by omega
      have hcD := hcv D D0 D9
      by_cases hq0 : Q = 0
      · subst hq0
        have e : Lib.itoa v = [45] ++ [UInt8.ofNat (48 + D).toNat] := by
          unfold Lib.itoa
          rw [if_pos c, Lib.decDigits, dif_pos (by omega), show v.natAbs = D.toNat by omega, show (48 + D).toNat = 48 + D.toNat by omega]
          rfl
        rw [e]
        clear e ih hn hcv hm hlt hsg hI
        have hcat := fun W : World => run_string_add_lists (P := Tryd.prog) W [45] [UInt8.ofNat (48 + D).toNat] (by simp) (by simp)
        generalize UInt8.ofNat (48 + D).toNat = x at *
        go_enter Tryd.func31, Tryd.ntmps31
        go_wp2
        go_ret
        exact ⟨rfl, Kb.of_grown (Grown.alloc (Grown.refl _) _ _)⟩
      · have hQI : I64 Q := ⟨by omega, by omega⟩
        have ih' := ih Q.natAbs (by omega) Q rfl hQI
        have e := itoa_step v D Q D0 D9 hq0 (Or.inr ⟨c, by omega, by omega⟩)
        obtain ⟨hl, hne⟩ := itoa_len Q hQI
        have hcat := fun W : World => run_string_add_lists (P := Tryd.prog) W (Lib.itoa Q) [UInt8.ofNat (48 + D).toNat] (by omega) (by simp)
        rw [← e] at hcat
        have hw : wrap64 Q = Q := wrap64_I hQI
        have hq' : (Q != 0) = true := by simpa using hq0
        obtain ⟨Q0, Q1⟩ := hQI
        clear e ih hn hcv hm hlt hsg hI
        generalize UInt8.ofNat (48 + D).toNat = x at *
        generalize Lib.itoa Q = ds at *
        generalize Lib.itoa v = vs at *
        go_enter Tryd.func31, Tryd.ntmps31
        go_wp2_with (go_at_call 31; refine (ih' _).mono ?_; rintro e w' ⟨rfl, g⟩)
        go_ret
        exact ⟨rfl, g.trans (Kb.of_grown (Grown.alloc (Grown.refl _) _ _))⟩
    · obtain ⟨D, hD⟩ : ∃ D, v % 10 = D := ⟨_, rfl⟩
      obtain ⟨Q, hQ⟩ : ∃ Q, v / 10 = Q := ⟨_, rfl⟩
      have hvn : 0 ≤ v := by omega
      have D0 : 0 ≤ D := by omega
      have D9 : D ≤ 9 := by omega
      have hcD := hcv D D0 D9
      by_cases hq0 : Q = 0
      · subst hq0
        have e : Lib.itoa v = [] ++ [UInt8.ofNat (48 + D).toNat] := by
          unfold Lib.itoa
          rw [if_neg c, Lib.decDigits, dif_pos (by omega), show v.toNat = D.toNat by omega, show (48 + D).toNat = 48 + D.toNat by omega]
          rfl
        rw [e]
        clear e ih hn hcv hI
        have hcat := fun W : World => run_string_add_lists (P := Tryd.prog) W [] [UInt8.ofNat (48 + D).toNat] (by simp) (by simp)
        generalize UInt8.ofNat (48 + D).toNat = x at *
        go_enter Tryd.func31, Tryd.ntmps31
        go_wp2
        go_ret
        exact ⟨rfl, Kb.of_grown (Grown.alloc (Grown.refl _) _ _)⟩
      · have hQI : I64 Q := ⟨by omega, by omega⟩
        have ih' := ih Q.natAbs (by omega) Q rfl hQI
        have e := itoa_step v D Q D0 D9 hq0 (Or.inl ⟨by omega, by omega⟩)
        obtain ⟨hl, hne⟩ := itoa_len Q hQI
        have hcat := fun W : World => run_string_add_lists (P := Tryd.prog) W (Lib.itoa Q) [UInt8.ofNat (48 + D).toNat] (by omega) (by simp)
        rw [← e] at hcat
        have hq' : (Q != 0) = true := by simpa using hq0
        obtain ⟨Q0, Q1⟩ := hQI
        clear e ih hn hcv hI
        generalize UInt8.ofNat (48 + D).toNat = x at *
        generalize Lib.itoa Q = ds at *
        generalize Lib.itoa v = vs at *
        go_enter Tryd.func31, Tryd.ntmps31
        go_wp2_with (go_at_call 31; refine (ih' _).mono ?_; rintro e w' ⟨rfl, g⟩)
        go_ret
        exact ⟨rfl, g.trans (Kb.of_grown (Grown.alloc (Grown.refl _) _ _))⟩
theorem rdec_is (v : Int) (hv : I64 v) (w : World) :
    Calls Tryd.prog 31 #[.int .i64 v] w fun e w' => e = .returned (.string ⟨(Lib.itoa v).toArray⟩) ∧ Kb w w' := rdec_any _ v rfl hv w
end Go.Proofs.YtoofbbojaoiadaaDoor
