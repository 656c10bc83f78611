/- What the document's Natural, Read and Decimal answer: the same as package ints. -/
import Derived.Test.YtoofbbojaoiadaaDoorInRead2
import Derived.Laws.IdiomStrings
import Derived.Lib.SmallJoins
namespace Go.Proofs.YtoofbbojaoiadaaDoor
open Go.RowKit
set_option linter.unusedSimpArgs false
set_option linter.unusedVariables false

theorem rd_empty (m : Int) (w : World) :
    Calls Tryd.prog 41 #[.string ⟨#[]⟩, .int .u64 m] w fun r w' => r = .returned (.tuple #[.int .u64 0, .int .i64 0, .int .i64 10]) ∧ w = w' := by
  go_enter Tryd.func41, Tryd.ntmps41
  go_wp2
  go_ret3
  exact ⟨rfl, rfl⟩

/-- What is kept behind the first j digits of a text of digits alone. -/
def Sd (m : Nat) (l : List UInt8) (j acc : Nat) : Prop := acc = numD (l.take j) ∧ acc ≤ m
theorem numD_mono (l : List UInt8) (j : Nat) : numD (l.take j) ≤ numD l := by
  have key : ∀ (t : List UInt8) (a b : Nat), a ≤ b → a ≤ t.foldl stepD b := by
    intro t
    induction t with
    | nil => intro a b h; exact h
    | cons c t ih => intro a b h; rw [List.foldl_cons]; exact ih _ _ (by unfold stepD; omega)
  have e : numD l = (l.drop j).foldl stepD (numD (l.take j)) := by
    unfold numD
    rw [← List.foldl_append, List.take_append_drop]
  rw [e]
  exact key _ _ _ (Nat.le_refl _)

set_option maxHeartbeats 1000000 in
theorem rd_walk (l : List UInt8) (m : Nat) (v p e : Int) (hres : Hidden (amtS m l = (v, p, e))) (hm : m ≤ 9223372036854775808) (hm9 : 9 ≤ m) (hl : l.length ≤ 9223372036854775807) (hne : l ≠ []) (w : World) :
    Calls Tryd.prog 41 #[.string ⟨l.toArray⟩, .int .u64 (m : Int)] w fun r w' => r = .returned (.tuple #[.int .u64 v, .int .i64 p, .int .i64 e]) ∧ w = w' := by
  have hs := str_len l
  have hpos : 0 < l.length := List.length_pos_iff.2 hne
  have hz : ((l.length : Int) == 0) = false := by simp only [beq_eq_false_iff_ne, ne_eq]; omega
  obtain ⟨c0, hc0⟩ : ∃ c, l[0]? = some c := ⟨l[0], List.getElem?_eq_getElem hpos⟩
  have hx0 : ∀ W : World, (Instr.index 9 (.string ⟨l.toArray⟩) (.int .i64 0)).run Tryd.prog W = .ok (.int .u8 (c0.toNat : Int)) W := fun W => str_index l 0 c0 hc0 W
  have hh0 : Hidden (l.head? = some c0) := by show _ = _; rw [← hc0]; cases l <;> rfl
  clear hc0
  go_enter Tryd.func41, Tryd.ntmps41
  go_wp2
  go_loop [7] (fun iv => ∃ j : Nat, iv = .int .i64 (j : Int) ∧ j ≤ l.length ∧ j ≤ runD l) (fun iv => l.length - (intOf iv).toNat)
  case atStart => exact ⟨0, rfl, by omega, by omega⟩
  case round =>
    obtain ⟨j, rfl, hj, hjr⟩ := hrel
    by_cases hjl : j < l.length
    · obtain ⟨c, hc⟩ : ∃ c, l[j]? = some c := ⟨l[j], List.getElem?_eq_getElem hjl⟩
      have hx := str_index l j c hc
      obtain ⟨g1, g2⟩ := runD_at l j c hc hjr
      cases hd : isd c
      · have hr := g1 hd
        have hb : amtS m l = (0, (j : Int), 10) := by unfold amtS; rw [if_pos (by omega), hr]
        rw [show amtS m l = (v, p, e) from hres] at hb
        have hbH : Hidden ((v, p, e) = (0, (j : Int), 10)) := hb
        have hcc := isd_no c hd
        clear hb hr g1 g2 hd hc hjr hx0
        generalize c.toNat = C at *
        rcases hcc with hcc | ⟨hcc, hcc2⟩
        all_goals
          go_wp2
          go_ret3
          exact ⟨ret3 (show (v, p, e) = (0, (j : Int), 10) from hbH).symm, rfl⟩
      · obtain ⟨D, hD, hD9⟩ := isd_lt c hd
        have hr : Hidden (j + 1 ≤ runD l) := g2 hd
        rw [hD] at hx
        clear g1 g2 hd hc hjr hD hx0
        go_wp2
        go_round
        case rel => exact ⟨j + 1, by go_num, by omega, hr⟩
        case measure => simp [intOf]; omega
    · obtain rfl : j = l.length := by omega
      have hr : Hidden (runD l = l.length) := by show _ = _; have := runD_le l; omega
      have hall : Hidden (l.all isd = true) := (runD_all l).1 hr
      have hnr : ¬ runD l < l.length := by rw [show runD l = l.length from hr]; omega
      have hnrH : Hidden (¬ runD l < l.length) := hnr
      clear hjr hnr
      by_cases hbad : 1 < l.length ∧ c0 = 48
      · obtain ⟨h1, h48⟩ := hbad
        have hbH : Hidden ((v, p, e) = (0, 0, 10)) := by
          show _ = _
          rw [← show amtS m l = (v, p, e) from hres]
          unfold amtS
          rw [if_neg hnrH, if_neg (by omega), if_pos ⟨h1, by rw [show l.head? = some c0 from hh0, h48]⟩]
        have hq : ((c0.toNat : Int) == 48) = true := by rw [h48]; rfl
        clear h48
        generalize (c0.toNat : Int) = C0 at *
        go_wp2
        go_ret3
        exact ⟨ret3 (show (v, p, e) = (0, 0, 10) from hbH).symm, rfl⟩
      · have hval : Hidden ((v, p, e) = if m < numD l then (0, 0, 80) else ((numD l : Int), 0, 0)) := by
          show _ = _
          rw [← show amtS m l = (v, p, e) from hres]
          unfold amtS
          rw [if_neg hnrH, if_neg (by omega), if_neg]
          rintro ⟨h1, h2⟩
          rw [show l.head? = some c0 from hh0] at h2
          exact hbad ⟨h1, by simpa using h2⟩
        have hq : ¬ (1 : Int) < (l.length : Int) ∨ ((1 : Int) < (l.length : Int) ∧ ((c0.toNat : Int) == 48) = false) := by
          by_cases h1 : 1 < l.length
          · right
            refine ⟨by omega, ?_⟩
            simp only [beq_eq_false_iff_ne, ne_eq]
            intro h
            exact hbad ⟨h1, UInt8.toNat_inj.1 (by rw [show (48 : UInt8).toNat = 48 from rfl]; omega)⟩
          · left; omega
        clear hbad
        generalize (c0.toNat : Int) = C0 at *
        rcases hq with hq | ⟨hq, hq2⟩
        all_goals
          go_wp2
          go_loop [8, 9] (fun vv iv => ∃ j acc : Nat, vv = .int .u64 (acc : Int) ∧ iv = .int .i64 (j : Int) ∧ j ≤ l.length ∧ Sd m l j acc) (fun _ iv => l.length - (intOf iv).toNat)
          case atStart => exact ⟨0, 0, rfl, rfl, by omega, rfl, by omega⟩
          case round =>
            obtain ⟨j, acc, rfl, rfl, hj, hsd⟩ := hrel
            by_cases hjl : j < l.length
            · obtain ⟨c, hc⟩ : ∃ c, l[j]? = some c := ⟨l[j], List.getElem?_eq_getElem hjl⟩
              have hx := str_index l j c hc
              have hd : isd c = true := by
                have h1 : l.all isd = true := hall
                rw [List.all_eq_true] at h1
                exact h1 c (List.mem_of_getElem? hc)
              obtain ⟨D, hD, hD9⟩ := isd_lt c hd
              have hn := numD_take l j c hc
              rw [hD, Nat.add_sub_cancel, ← hsd.1] at hn
              rw [hD] at hx
              have ham : acc ≤ m := hsd.2
              clear hc hd hD hx0
              by_cases hle : acc * 10 + D ≤ m
              · have hsd2 : Hidden (Sd m l (j + 1) (acc * 10 + D)) := ⟨hn.symm, hle⟩
                have ht : ¬ ((m : Int) - (D : Int)) / 10 < (acc : Int) := by omega
                have hb1 : acc ≤ 1000000000000000000 := by omega
                have hmd : (D : Int) ≤ (m : Int) := by omega
                clear hn hle hsd
                go_wp2
                go_round
                case rel => exact ⟨j + 1, acc * 10 + D, by go_num, by go_num, by omega, hsd2⟩
                case measure => simp [intOf]; omega
              · have hmono := numD_mono l (j + 1)
                have hbH : Hidden ((v, p, e) = (0, 0, 80)) := by
                  show _ = _
                  rw [show (v, p, e) = if m < numD l then (0, 0, 80) else ((numD l : Int), 0, 0) from hval, if_pos (by omega)]
                have ht : ((m : Int) - (D : Int)) / 10 < (acc : Int) := by omega
                have hmd : (D : Int) ≤ (m : Int) := by omega
                clear hn hle hsd hmono
                go_wp2
                go_ret3
                exact ⟨ret3 (show (v, p, e) = (0, 0, 80) from hbH).symm, rfl⟩
            · obtain rfl : j = l.length := by omega
              have hbH : Hidden ((v, p, e) = ((acc : Int), 0, 0)) := by
                obtain ⟨h1, h2⟩ := hsd
                rw [List.take_length] at h1
                show _ = _
                rw [show (v, p, e) = if m < numD l then (0, 0, 80) else ((numD l : Int), 0, 0) from hval, if_neg (by omega), h1]
              clear hsd
              go_wp2
              go_ret3
              exact ⟨ret3 (show (v, p, e) = ((acc : Int), 0, 0) from hbH).symm, rfl⟩
end Go.Proofs.YtoofbbojaoiadaaDoor
