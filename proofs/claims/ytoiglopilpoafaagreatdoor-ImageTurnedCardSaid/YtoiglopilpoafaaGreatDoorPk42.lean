/- Texts of ours, in one. -/
import Derived.Test.YtoiglopilpoafaaGreatDoorPk38
import Derived.Test.YtoiglopilpoafaaGreatDoorPk41
import Derived.Test.YtoiglopilpoafaaGreatDoorPk13
import Derived.Test.YtoiglopilpoafaaGreatDoorPk10
import Derived.Test.YtoiglopilpoafaaGreatDoorPk34
import Derived.Laws.Bits64b
namespace Go.Proofs.YtoiglopilpoafaaGreatDoor.Im
open Go.RowKit Ty Cd
set_option linter.unusedSimpArgs false
set_option linter.unusedVariables false

set_option maxRecDepth 20000 in
set_option maxHeartbeats 4000000 in
theorem types_rs (q : Nat) (s : Lf) (w : World) (h : Rs w q s) (hs : szL s ≤ 65537) :
    Calls Tryz.prog 63 #[.agg #[Wi.rp q]] w fun e w' => ∃ ao cap, e = .returned (.slice ao (rdT s).1.length cap) ∧ Row RI 3 1 w' w.heap.size (.slice ao (rdT s).1.length cap) (rdT s).1 ∧ Rs w' q (rdT s).2 ∧ Fr (fun k => k = q) w w' := by
  obtain ⟨V, hV⟩ : ∃ V, V = w.alloc (.cells #[Wi.rp q] 98 (0, 0)) := ⟨_, rfl⟩
  have fV : Fr (fun _ => False) w V := by rw [hV]; exact Fr.alloc _ _ _
  have xV : V.cell? ⟨w.heap.size, 0, none⟩ = some (Wi.rp q) := by rw [hV, cell_of_row _ _ _ _ _ _ (alloc_new w _)]; rfl
  have hq : q < w.heap.size := h.lt
  have hc := (rdB s).1.toNat_lt
  have kb := fun W (hW : Rs W q s) => byte_rs q s W hW
  have hs2 : szL (rdB s).2 ≤ 65537 := Nat.le_trans (rdB_le s) hs
  have kl := fun W (hW : Rs W q (rdB s).2) => list_I q (rdB s).1.toNat (rdB s).2 W hW (by omega) hs2
  have hT : rdT s = rdMany rdY (rdB s).1.toNat (rdB s).2 := rfl
  rw [hT]
  generalize rdMany rdY (rdB s).1.toNat (rdB s).2 = R at *
  generalize (rdB s).1.toNat = c at *
  generalize (rdB s).2 = s2 at *
  obtain ⟨L, s3⟩ := R
  simp only [] at kl ⊢
  have hR : Rs V q s := h.later fV
  have hszV : w.heap.size ≤ V.heap.size := fV.size
  have e8 : IntKind.i64.wrap (c : Int) = (c : Int) := by rw [IntKind.wrap_i64]; omega
  have fVH : Hidden (Fr (fun _ => False) w V) := fV
  have hVH : Hidden (V = _) := hV
  clear hV fV h hs hs2 hT
  go_enter Tryz.func63, Tryz.ntmps63
  go_upto_region 1 with fail
  rw [← (show V = _ from hVH)]
  clear hVH
  generalize hG : w.heap.size = G at *
  have hqG : q < G := hq
  go_region_with (first
    | (go_at_call 36
       refine (kb _ (by first | exact hR | exact hR.later (Fr.drew _ _))).mono ?_
       rintro e w1 ⟨rfl, h1, h2⟩
       have x1 := box_q (show _ = some (Wi.rp q) from xV) (show Fr (fun k => k = q) V w1 from by first | exact h2 | exact (fq_no (Fr.drew _ _)).same h2) hqG
       have g1 : Fr (fun k => k = q) V w1 := by first | exact h2 | exact (fq_no (Fr.drew _ _)).same h2)
    | (go_at_call 81
       refine (kl _ (by first | exact h1 | exact h1.later (Fr.drew _ _))).mono ?_
       rintro e w2 ⟨ao, cap, rfl, h3, h4, h5⟩))
  all_goals
    go_wp2_with fail
    go_ret
    refine ⟨ao, cap, rfl, Row.lower h3 ?_, h4, (fq_no (show Fr (fun _ => False) w V from fVH)).same (g1.same (by first | exact h5 | exact (fq_no (Fr.drew _ _)).same h5))⟩
    have := g1.size
    omega
end Go.Proofs.YtoiglopilpoafaaGreatDoor.Im

namespace Go.Proofs.YtoiglopilpoafaaGreatDoor.Cd
open Go.RowKit Ty
set_option linter.unusedSimpArgs false
set_option linter.unusedVariables false

theorem numGo_snoc : ∀ (l : Bs) (a : Nat) (c : UInt8), numGo a (l ++ [c]) = numGo a l * 256 + c.toNat
  | [], a, c => rfl
  | d :: r, a, c => by
    simp only [List.cons_append, numGo]
    exact numGo_snoc r _ c
theorem or_byte (A : Nat) (x : UInt8) (h : A < 72057594037927936) : bits .or .u64 ((A : Int) * 256) (IntKind.u64.wrap (x.toNat : Int)) = ((A * 256 + x.toNat : Nat) : Int) := by
  have hx := x.toNat_lt
  have hw : IntKind.u64.wrap (x.toNat : Int) = (x.toNat : Int) := by rw [IntKind.wrap_u64]; omega
  rw [hw]
  have := bits_or_u64_nat (A * 256) x.toNat (by omega) (by omega)
  rw [show ((A * 256 : Nat) : Int) = (A : Int) * 256 by omega] at this
  rw [this]
  congr 1
  have h8 : x.toNat < 2 ^ 8 := by omega
  have := Nat.two_pow_add_eq_or_of_lt h8 A
  rw [show 2 ^ 8 * A = A * 256 by omega] at this
  exact this.symm
set_option maxHeartbeats 400000 in
theorem num_any (ao : Option Addr) (n cap : Nat) (l : Bs) (hn : l.length = n) (h8 : n ≤ 8) (w : World) (h : BL w ao cap l) :
    Calls Tryz.prog 101 #[.slice ao n cap] w fun e w' => e = .returned (.int .u64 (numGo 0 l : Int)) ∧ w' = w := by
  have hH : Hidden (BL w ao cap l) := h
  have hll : Hidden (l.length = n) := hn
  clear hn h
  go_enter Tryz.func101, Tryz.ntmps101
  go_wp2
  go_loopg [3, 8] n (fun k nv iv wr => ∃ j : Nat, nv = .int .u64 (numGo 0 (l.take j) : Int) ∧ iv = .int .i64 (j : Int) ∧ j ≤ n ∧ k = n - j ∧ wr = w)
  case atStart => exact ⟨0, by simp [numGo], rfl, by omega, rfl, rfl⟩
  case round =>
    obtain ⟨j, rfl, rfl, hj, hk, rfl⟩ := hrel
    have hkH : Hidden (gk = n - j) := hk
    clear hk
    by_cases hjl : j < n
    · have hll' : l.length = n := hll
      obtain ⟨x, hx⟩ : ∃ x, l[j]? = some x := ⟨l[j], List.getElem?_eq_getElem (by omega)⟩
      obtain ⟨b, off, rfl, hc⟩ := (show BL wr ao cap l from hH).2.2.2.resolve_left (by rintro rfl; simp at hx)
      have hA : Hidden (numGo 0 (l.take (j + 1)) = numGo 0 (l.take j) * 256 + x.toNat) := by
        show _ = _
        rw [List.take_add_one, hx]; exact numGo_snoc _ _ _
      have hlt : Hidden (numGo 0 (l.take j) < 256 ^ j) := by
        have := numGo_lt (l.take j) 0
        rw [List.length_take, Nat.min_eq_left (by omega)] at this
        show _ < _; simpa using this
      have hcj : wr.cell? ⟨b, off + j, none⟩ = some (.int .u8 (x.toNat : Int)) := hc j _ hx
      obtain ⟨A, hAe⟩ : ∃ A, numGo 0 (l.take j) = A := ⟨_, rfl⟩
      rw [hAe] at hA hlt ⊢
      have hA2 : A < 72057594037927936 := by
        have : A < 256 ^ j := hlt
        have : 256 ^ j ≤ 256 ^ 7 := Nat.pow_le_pow_right (by omega) (by omega)
        omega
      have e_or := or_byte A x hA2
      clear hx hc hll' hAe
      go_wp2
      go_roundg (n - (j + 1))
      case measure =>
        have : gk = n - j := hkH
        omega
      case rel => exact ⟨j + 1, by rw [show numGo 0 (l.take (j + 1)) = A * 256 + x.toNat from hA]; simp, by go_num, by omega, rfl, rfl⟩
    · obtain rfl : j = n := by omega
      have hll' : l.length = j := hll
      have e : l.take j = l := by rw [← hll', List.take_length]
      rw [e]
      clear hll' e
      go_wp2
      go_ret
      exact ⟨rfl, rfl⟩
end Go.Proofs.YtoiglopilpoafaaGreatDoor.Cd
