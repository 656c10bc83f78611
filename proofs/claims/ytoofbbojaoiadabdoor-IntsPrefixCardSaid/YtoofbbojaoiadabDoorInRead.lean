/- What readAmount, Natural and Read of package ints answer, for any text. -/
import Derived.Test.YtoofbbojaoiadabDoorInKb
namespace Go.Proofs.YtoofbbojaoiadabDoor
open Go.RowKit
set_option linter.unusedSimpArgs false
set_option linter.unusedVariables false

theorem ad_yes (a d m : Nat) (hm : m ≤ 9223372036854775808) (hd : d ≤ 9) (h : a * 10 + d ≤ m) (w : World) :
    Calls Tryd.prog 27 #[.int .u64 (a : Int), .int .u64 (d : Int), .int .u64 (m : Int)] w fun e w' => e = .returned (.tuple #[.int .u64 ((a * 10 + d : Nat) : Int), .bool true]) ∧ w = w' := by
  have k1 := mul64_is (a : Int) 10 0 ((a * 10 : Nat) : Int) (by omega) (by omega) (by omega) (by omega) (by omega) (by omega)
  have k2 := call_add64 ((a * 10 : Nat) : Int) (d : Int) 0 ((a * 10 + d : Nat) : Int) 0 (by omega) (by omega) (by omega) (by omega) (by omega) (by omega)
  have c1 : ¬ (m : Int) < ((a * 10 + d : Nat) : Int) := by omega
  generalize ((a * 10 + d : Nat) : Int) = S at *
  generalize ((a * 10 : Nat) : Int) = T at *
  clear h
  go_enter Tryd.func27, Tryd.ntmps27
  go_wp2_with (go_at_call 18; refine (k1 _).mono ?_; rintro e w' ⟨rfl, rfl⟩)
  go_ret2
  exact ⟨rfl, rfl⟩
theorem ad_no (a d m : Nat) (ha : a ≤ m) (hm : m ≤ 9223372036854775808) (hd : d ≤ 9) (h : m < a * 10 + d) (w : World) :
    Calls Tryd.prog 27 #[.int .u64 (a : Int), .int .u64 (d : Int), .int .u64 (m : Int)] w fun e w' => e = .returned (.tuple #[.int .u64 0, .bool false]) ∧ w = w' := by
  have k1 := mul64_is (a : Int) 10 _ _ (by omega) (by omega) (by omega) (by omega) rfl rfl
  have k2 := call_add64 ((a : Int) * 10 % 18446744073709551616) (d : Int) 0 _ _ (by omega) (by omega) (by omega) (by omega) rfl rfl
  have hc : ((a : Int) * 10 / 18446744073709551616 != 0) = true ∨ ((a : Int) * 10 / 18446744073709551616 != 0) = false ∧ (((a : Int) * 10 % 18446744073709551616 + (d : Int) + 0) / 18446744073709551616 != 0) = true ∨ ((a : Int) * 10 / 18446744073709551616 != 0) = false ∧ (((a : Int) * 10 % 18446744073709551616 + (d : Int) + 0) / 18446744073709551616 != 0) = false ∧ (m : Int) < ((a : Int) * 10 % 18446744073709551616 + (d : Int) + 0) % 18446744073709551616 := by
    simp only [bne_iff_ne, ne_eq, bne_eq_false_iff_eq]
    omega
  generalize ((a : Int) * 10 % 18446744073709551616 + (d : Int) + 0) % 18446744073709551616 = S at *
  generalize ((a : Int) * 10 % 18446744073709551616 + (d : Int) + 0) / 18446744073709551616 = C at *
  generalize (a : Int) * 10 / 18446744073709551616 = H at *
  generalize (a : Int) * 10 % 18446744073709551616 = T at *
  clear h ha
  rcases hc with c1 | ⟨c1, c2⟩ | ⟨c1, c2, c3⟩
  all_goals
    go_enter Tryd.func27, Tryd.ntmps27
    go_wp2_with (go_at_call 18; refine (k1 _).mono ?_; rintro e w' ⟨rfl, rfl⟩)
    go_ret2
    exact ⟨rfl, rfl⟩

theorem runD_at (l : List UInt8) : ∀ (j : Nat) (c : UInt8), l[j]? = some c → j ≤ runD l → (isd c = false → runD l = j) ∧ (isd c = true → j + 1 ≤ runD l) := by
  induction l with
  | nil => intro j c h; simp at h
  | cons b r ih =>
    intro j c h hj
    cases j with
    | zero =>
      obtain rfl : b = c := by simpa using h
      unfold runD
      constructor
      · intro hb; simp [hb]
      · intro hb; simp [hb]
    | succ j =>
      unfold runD at hj ⊢
      cases hb : isd b
      · rw [hb] at hj; simp at hj
      · rw [hb] at hj
        simp only [if_true] at hj ⊢
        obtain ⟨i1, i2⟩ := ih j c (by simpa using h) (by omega)
        exact ⟨fun hc => by rw [i1 hc], fun hc => by have := i2 hc; omega⟩
theorem numD_take (l : List UInt8) (j : Nat) (c : UInt8) (h : l[j]? = some c) : numD (l.take (j + 1)) = numD (l.take j) * 10 + (c.toNat - 48) := by
  obtain ⟨hj, hc⟩ := List.getElem?_eq_some_iff.1 h
  rw [List.take_succ_eq_append_getElem hj, hc, numD_snoc]

/-- What is kept behind the first j digits. -/
def St (m : Nat) (l : List UInt8) (j acc : Nat) (f : Bool) : Prop :=
  j ≤ runD l ∧ ((f = true ∧ acc = numD (l.take j) ∧ acc ≤ m) ∨ (f = false ∧ acc = 0 ∧ m < numD (l.take j)))
theorem st_yes {m : Nat} {l : List UInt8} {j acc : Nat} {c : UInt8} (h : St m l j acc true) (hc : l[j]? = some c) (hd : isd c = true) (d : Nat) (hdd : c.toNat = d + 48) :
    acc ≤ m ∧ (acc * 10 + d ≤ m → St m l (j + 1) (acc * 10 + d) true) ∧ (m < acc * 10 + d → St m l (j + 1) 0 false) := by
  obtain ⟨h1, ⟨_, h2, h3⟩ | ⟨h2, _⟩⟩ := h
  · have e := numD_take l j c hc
    rw [hdd, Nat.add_sub_cancel, ← h2] at e
    have := (runD_at l j c hc h1).2 hd
    exact ⟨h3, fun hle => ⟨this, Or.inl ⟨rfl, e.symm, hle⟩⟩, fun hlt => ⟨this, Or.inr ⟨rfl, rfl, by omega⟩⟩⟩
  · cases h2
theorem st_no {m : Nat} {l : List UInt8} {j acc : Nat} {c : UInt8} (h : St m l j acc false) (hc : l[j]? = some c) (hd : isd c = true) : St m l (j + 1) acc false := by
  obtain ⟨h1, ⟨h2, _⟩ | ⟨_, h2, h3⟩⟩ := h
  · cases h2
  · have e := numD_take l j c hc
    have := (runD_at l j c hc h1).2 hd
    exact ⟨this, Or.inr ⟨rfl, h2, by omega⟩⟩
theorem st_bad {m : Nat} {l : List UInt8} {j acc : Nat} {f : Bool} {c : UInt8} (h : St m l j acc f) (hc : l[j]? = some c) (hd : isd c = false) : amtS m l = (0, (j : Int), 10) := by
  obtain ⟨hj, _⟩ := List.getElem?_eq_some_iff.1 hc
  have := (runD_at l j c hc h.1).1 hd
  unfold amtS
  rw [if_pos (by omega), this]
theorem st_end {m : Nat} {l : List UInt8} {acc : Nat} {f : Bool} (h : St m l l.length acc f) :
    (l = [] → amtS m l = (0, 0, 10)) ∧ (1 < l.length → l.head? = some 48 → amtS m l = (0, 0, 10)) ∧ (l ≠ [] → ¬ (1 < l.length ∧ l.head? = some 48) → (f = true → amtS m l = ((acc : Int), 0, 0)) ∧ (f = false → amtS m l = (0, 0, 80))) := by
  obtain ⟨h1, h2⟩ := h
  have hr : ¬ runD l < l.length := by omega
  rw [List.take_length] at h2
  unfold amtS
  rw [if_neg hr]
  refine ⟨fun h => by rw [h]; rfl, fun hl hh => ?_, fun hn hh => ?_⟩
  · rw [if_neg (by omega), if_pos ⟨hl, hh⟩]
  · have hn' : l.length ≠ 0 := by simpa using hn
    rw [if_neg hn', if_neg hh]
    constructor
    · intro hf
      subst hf
      rcases h2 with ⟨_, h3, h4⟩ | ⟨h3, _⟩
      · rw [if_neg (by omega), h3]
      · cases h3
    · intro hf
      subst hf
      rcases h2 with ⟨h3, _⟩ | ⟨_, h3, h4⟩
      · cases h3
      · rw [if_pos h4]

theorem isd_no (c : UInt8) (h : isd c = false) : c.toNat < 48 ∨ (¬ c.toNat < 48 ∧ 57 < c.toNat) := by
  unfold isd at h
  simp only [Bool.and_eq_false_iff, decide_eq_false_iff_not] at h
  omega

theorem ret3 {k l o : IntKind} {a b c d e f : Int} (h : (a, b, c) = (d, e, f)) : Ending.returned (.tuple #[.int k a, .int l b, .int o c]) = .returned (.tuple #[.int k d, .int l e, .int o f]) := by
  simp only [Prod.mk.injEq] at h
  rw [h.1, h.2.1, h.2.2]

set_option maxHeartbeats 1000000 in
theorem ra_walk (l : List UInt8) (m : Nat) (v p e : Int) (hres : Hidden (amtS m l = (v, p, e))) (hm : m ≤ 9223372036854775808) (hl : l.length ≤ 9223372036854775807) (hne : l.isEmpty = false) (w : World) :
    Calls Tryd.prog 23 #[.string ⟨l.toArray⟩, .int .u64 (m : Int)] w fun r w' => r = .returned (.tuple #[.int .u64 v, .int .i64 p, .int .i64 e]) ∧ Kb w w' := by
  have hs := str_len l
  obtain ⟨c0, hc0⟩ : ∃ c, l[0]? = some c := by
    cases l with
    | nil => simp at hne
    | cons c r => exact ⟨c, rfl⟩
  have hx0 : ∀ W : World, (Instr.index 9 (.string ⟨l.toArray⟩) (.int .i64 0)).run Tryd.prog W = .ok (.int .u8 (c0.toNat : Int)) W := fun W => str_index l 0 c0 hc0 W
  have hh0 : Hidden (l.head? = some c0) := by show _ = _; rw [← hc0]; cases l <;> rfl
  clear hc0
  go_enter Tryd.func23, Tryd.ntmps23
  go_wp2
  go_loopg [7, 8] l.length (fun k av fv wr => ∃ (j acc : Nat) (f : Bool), av = .int .u64 (acc : Int) ∧ fv = .bool f ∧ j ≤ l.length ∧ St m l j acc f ∧ k = l.length - j ∧ wr = w.iter ⟨l.toArray⟩ j)
  case atStart => exact ⟨0, 0, true, rfl, rfl, by omega, ⟨by omega, Or.inl ⟨rfl, rfl, by omega⟩⟩, rfl, rfl⟩
  case round =>
    obtain ⟨j, acc, f, rfl, rfl, hj, hst, hgk, rfl⟩ := hrel
    have hgkH : Hidden (gk = l.length - j) := hgk
    clear hgk
    by_cases hjl : j < l.length
    · obtain ⟨c, hc⟩ : ∃ c, l[j]? = some c := ⟨l[j], List.getElem?_eq_getElem hjl⟩
      cases hd : isd c
      · have hbad := st_bad hst hc hd
        rw [show amtS m l = (v, p, e) from hres] at hbad
        have hbH : Hidden ((v, p, e) = (0, (j : Int), 10)) := hbad
        clear hbad hst
        by_cases h128 : 128 ≤ c.toNat
        · obtain ⟨r, q, hr0, hr1, hnx⟩ := next_high w l j c hc h128
          clear hc hd h128
          go_wp2
          go_ret3
          exact ⟨ret3 (show (v, p, e) = (0, (j : Int), 10) from hbH).symm, kb_iter _ _ _⟩
        · have hnx := next_digit w l j c hc (by omega)
          have hcc := isd_no c hd
          clear hc hd
          generalize c.toNat = C at *
          rcases hcc with hcc | ⟨hcc, hcc2⟩
          all_goals
            go_wp2
            go_ret3
            exact ⟨ret3 (show (v, p, e) = (0, (j : Int), 10) from hbH).symm, kb_iter _ _ _⟩
      · obtain ⟨D, hD, hD9⟩ := isd_lt c hd
        have hnx := next_digit w l j c hc (by omega)
        rw [hD] at hnx
        cases f
        · have hst2 : Hidden (St m l (j + 1) acc false) := st_no hst hc hd
          clear hst hc hd hD
          go_wp2
          go_roundg (l.length - (j + 1))
          case measure =>
            have : gk = l.length - j := hgkH
            omega
          case rel => exact ⟨j + 1, acc, false, rfl, rfl, by omega, hst2, rfl, rfl⟩
        · obtain ⟨ha, hy, hn⟩ := st_yes hst hc hd D hD
          clear hst hc hd hD
          by_cases hle : acc * 10 + D ≤ m
          · have hst2 : Hidden (St m l (j + 1) (acc * 10 + D) true) := hy hle
            have kd := ad_yes acc D m hm hD9 hle
            clear hy hn hle
            go_wp2_with (go_at_call 27; refine (kd _).mono ?_; rintro e w' ⟨rfl, rfl⟩)
            go_roundg (l.length - (j + 1))
            case measure =>
              have : gk = l.length - j := hgkH
              omega
            case rel => exact ⟨j + 1, acc * 10 + D, true, rfl, rfl, by omega, hst2, rfl, rfl⟩
          · have hst2 : Hidden (St m l (j + 1) 0 false) := hn (by omega)
            have kd := ad_no acc D m ha hm hD9 (by omega)
            clear hy hn hle
            go_wp2_with (go_at_call 27; refine (kd _).mono ?_; rintro e w' ⟨rfl, rfl⟩)
            go_roundg (l.length - (j + 1))
            case measure =>
              have : gk = l.length - j := hgkH
              omega
            case rel => exact ⟨j + 1, 0, false, rfl, rfl, by omega, hst2, rfl, rfl⟩
    · obtain rfl : j = l.length := by omega
      obtain ⟨he1, he2, he3⟩ := st_end hst
      have hnil : l ≠ [] := by rintro rfl; simp at hne
      have hnx := next_end w l
      rw [show amtS m l = (v, p, e) from hres] at he2 he3
      rw [show l.head? = some c0 from hh0] at he2 he3
      clear he1 hst
      by_cases h1 : 1 < l.length
      · by_cases h48 : c0 = 48
        · have hbH : Hidden ((v, p, e) = (0, 0, 10)) := he2 h1 (by rw [h48])
          have hq : ((c0.toNat : Int) == 48) = true := by rw [h48]; rfl
          clear he2 he3 h48
          generalize (c0.toNat : Int) = C0 at *
          go_wp2
          go_ret3
          exact ⟨ret3 (show (v, p, e) = (0, 0, 10) from hbH).symm, kb_iter _ _ _⟩
        · have he4 := he3 hnil (fun h => h48 (by simpa using h.2))
          have hq : ((c0.toNat : Int) == 48) = false := by
            simp only [beq_eq_false_iff_ne, ne_eq]
            intro h
            exact h48 (UInt8.toNat_inj.1 (by rw [show (48 : UInt8).toNat = 48 from rfl]; omega))
          clear he2 he3 h48
          generalize (c0.toNat : Int) = C0 at *
          cases f
          · have hbH : Hidden ((v, p, e) = (0, 0, 80)) := he4.2 rfl
            clear he4
            go_wp2
            go_ret3
            exact ⟨ret3 (show (v, p, e) = (0, 0, 80) from hbH).symm, kb_iter _ _ _⟩
          · have hbH : Hidden ((v, p, e) = ((acc : Int), 0, 0)) := he4.1 rfl
            clear he4
            go_wp2
            go_ret3
            exact ⟨ret3 (show (v, p, e) = ((acc : Int), 0, 0) from hbH).symm, kb_iter _ _ _⟩
      · have he4 := he3 hnil (fun h => h1 h.1)
        clear he2 he3
        cases f
        · have hbH : Hidden ((v, p, e) = (0, 0, 80)) := he4.2 rfl
          clear he4
          go_wp2
          go_ret3
          exact ⟨ret3 (show (v, p, e) = (0, 0, 80) from hbH).symm, kb_iter _ _ _⟩
        · have hbH : Hidden ((v, p, e) = ((acc : Int), 0, 0)) := he4.1 rfl
          clear he4
          go_wp2
          go_ret3
          exact ⟨ret3 (show (v, p, e) = ((acc : Int), 0, 0) from hbH).symm, kb_iter _ _ _⟩
end Go.Proofs.YtoofbbojaoiadabDoor
