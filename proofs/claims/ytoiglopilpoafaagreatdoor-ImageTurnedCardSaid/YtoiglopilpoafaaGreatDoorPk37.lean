/- Texts of ours, in one. -/
import Derived.Test.YtoiglopilpoafaaGreatDoorPk28
import Derived.Test.YtoiglopilpoafaaGreatDoorPk31
import Derived.Test.YtoiglopilpoafaaGreatDoorPk36
import Derived.Deep.RegionHeld3
import Derived.Test.YtoiglopilpoafaaGreatDoorPk5
import Derived.Laws.Bits64
import Derived.Test.YtoiglopilpoafaaGreatDoorPk29
import Derived.Test.YtoiglopilpoafaaGreatDoorPk34
import Derived.Laws.Cover3
import Derived.ChangeKeysEq
import Derived.Test.YtoiglopilpoafaaGreatDoorPk30
namespace Go.Proofs.YtoiglopilpoafaaGreatDoor.Cd
open Go.RowKit Ty
set_option linter.unusedSimpArgs false
set_option linter.unusedVariables false

theorem wrapI_eq {z y : Int} (h : z = y) (h1 : -9223372036854775808 ≤ z) (h2 : z ≤ 9223372036854775807) : IntKind.i64.wrap z = y := by rw [IntKind.wrap_i64]; omega
theorem wrap64_eq {z y : Int} (h : z = y) (h1 : -9223372036854775808 ≤ z) (h2 : z ≤ 9223372036854775807) : wrap64 z = y := by unfold wrap64; omega
theorem wrap_sub {a b c : Nat} (h : a = c + b) (ha : a ≤ 9223372036854775807) : wrap64 ((a : Int) - (b : Int)) = (c : Int) ∧ IntKind.i64.wrap ((a : Int) - (b : Int)) = (c : Int) := by
  subst h
  exact ⟨wrap64_eq (by omega) (by omega) (by omega), wrapI_eq (by omega) (by omega) (by omega)⟩
theorem wrap_neg {a b : Nat} (h : a < b) (hb : b ≤ 9223372036854775807) : wrap64 ((a : Int) - (b : Int)) = (a : Int) - (b : Int) ∧ IntKind.i64.wrap ((a : Int) - (b : Int)) = (a : Int) - (b : Int) :=
  ⟨wrap64_eq rfl (by omega) (by omega), wrapI_eq rfl (by omega) (by omega)⟩
theorem wrap_pred {a b : Nat} (h : a = b + 1) (ha : a ≤ 9223372036854775807) : wrap64 ((a : Int) - 1) = (b : Int) ∧ IntKind.i64.wrap ((a : Int) - 1) = (b : Int) := by
  subst h
  exact ⟨wrap64_eq (by omega) (by omega) (by omega), wrapI_eq (by omega) (by omega) (by omega)⟩
theorem wrap_succ {a : Nat} (ha : a < 9223372036854775807) : wrap64 ((a : Int) + 1) = ((a + 1 : Nat) : Int) ∧ IntKind.i64.wrap ((a : Int) + 1) = ((a + 1 : Nat) : Int) :=
  ⟨wrap64_eq (by omega) (by omega) (by omega), wrapI_eq (by omega) (by omega) (by omega)⟩
theorem size_int1 (u : World) : (sizeOf 3).run Tryz.prog u = .ok 1 u := by
  simp [sizeOf, go_sem]
  rfl
theorem slice_to (so : Option Addr) (n m sc : Nat) (h : m ≤ sc) (w : World) : (Instr.slice 41 (.slice so n sc) none (some (.int .i64 (m : Int))) none).run Tryz.prog w = .ok (.slice so m sc) w := by
  have he : Tryz.prog.elem 41 = 3 := by kernel_rfl
  rw [run_slice_h w _ _ _ _ (by rw [he]; exact Tryz.underlying41) .i64 (m : Int) (by omega) (by omega), he, size_int1 w]
  simp only [Result.andThen, sliced, Int.toNat_natCast, Nat.sub_zero, Nat.zero_mul]
  cases so with
  | none => simp
  | some a => simp [Addr.add]
/-- Where a row begins that is cut ahead. -/
def dropA (so : Option Addr) (k sc : Nat) : Option Addr := if sc = k then so else so.map (·.add k)
theorem slice_from (so : Option Addr) (n k sc : Nat) (h : k ≤ n) (w : World) : (Instr.slice 41 (.slice so n sc) (some (.int .i64 (k : Int))) none none).run Tryz.prog w = .ok (.slice (dropA so k sc) (n - k) (sc - k)) w := by
  have he : Tryz.prog.elem 41 = 3 := by kernel_rfl
  rw [run_slice_l w _ _ _ _ (by rw [he]; exact Tryz.underlying41) .i64 (k : Int) (by omega) (by omega), he, size_int1 w]
  simp only [Result.andThen, sliced, Int.toNat_natCast, Nat.mul_one]
  rfl
theorem InL.take {w : World} {ao : Option Addr} {cap : Nat} {l : List Int} (h : InL w ao cap l) (m : Nat) : InL w ao cap (l.take m) := by
  obtain ⟨h1, h2, h3, h4⟩ := h
  refine ⟨Nat.le_trans (by rw [List.length_take]; omega) h1, h2, h3, ?_⟩
  rcases h4 with rfl | ⟨b, off, rfl, h4⟩
  · exact Or.inl (by simp)
  · refine Or.inr ⟨b, off, rfl, fun i x hx => ?_⟩
    rw [List.getElem?_take] at hx
    split at hx
    · exact h4 i x hx
    · cases hx
theorem InL.drop {w : World} {ao : Option Addr} {cap : Nat} {l : List Int} (h : InL w ao cap l) (k : Nat) (hk : k ≤ l.length) : InL w (dropA ao k cap) (cap - k) (l.drop k) := by
  obtain ⟨h1, h2, h3, h4⟩ := h
  unfold dropA
  refine ⟨by rw [List.length_drop]; omega, by omega, ?_, ?_⟩
  · intro e
    split at e
    · omega
    · cases ao with
      | none => have := h3 rfl; omega
      | some a => cases e
  · rcases h4 with rfl | ⟨b, off, rfl, h4⟩
    · exact Or.inl (by simp)
    · by_cases hc : cap = k
      · left
        exact List.eq_nil_of_length_eq_zero (by rw [List.length_drop]; omega)
      · rw [if_neg hc]
        refine Or.inr ⟨b, off + k, by simp [Addr.add], fun i x hx => ?_⟩
        rw [List.getElem?_drop] at hx
        have := h4 (k + i) x hx
        rw [show off + k + i = off + (k + i) by omega]
        exact this
/-- A row of a stack in a world from a block on. -/
def InB (w : World) (B : Nat) (ao : Option Addr) (cap : Nat) (l : List Int) : Prop := InL w ao cap l ∧ ∀ a, ao = some a → B ≤ a.block
theorem InB.keep {S : Nat → Prop} {w w' : World} {B : Nat} {ao : Option Addr} {cap : Nat} {l : List Int} (h : InB w B ao cap l) (f : Fr S w w') (hS : ∀ k, B ≤ k → ¬ S k) : InB w' B ao cap l := by
  obtain ⟨⟨h1, h2, h3, h4⟩, h5⟩ := h
  refine ⟨⟨h1, h2, h3, ?_⟩, h5⟩
  rcases h4 with rfl | ⟨b, off, rfl, h4⟩
  · exact Or.inl rfl
  · exact Or.inr ⟨b, off, rfl, fun i x hx => f.cell (h4 i x hx) (hS b (h5 _ rfl))⟩
theorem InB.take {w : World} {B : Nat} {ao : Option Addr} {cap : Nat} {l : List Int} (h : InB w B ao cap l) (m : Nat) : InB w B ao cap (l.take m) := ⟨InL.take h.1 m, h.2⟩
theorem OwI.inB {w : World} {B : Nat} {v : Value} {l : List Int} (h : OwI w B v l) : ∃ ao cap, v = .slice ao l.length cap ∧ InB w B ao cap l := by
  obtain ⟨ao, cap, rfl, h1⟩ := OwI.inl h
  refine ⟨ao, cap, rfl, h1, fun a e => ?_⟩
  subst e
  exact (own_block h a.block rfl).1
/-- What taken hands back. -/
def tkV (so : Option Addr) (sc : Nat) : Option (List Int) → Value
  | none => .slice none 0 0
  | some r => .slice so r.length sc
/-- What top hands back. -/
def tpV (so : Option Addr) (sc : Nat) : Option (List Int × Int) → Value
  | none => .tuple #[.slice none 0 0, ci 0, .bool false]
  | some (r, t) => .tuple #[.slice so r.length sc, ci t, .bool true]
end Go.Proofs.YtoiglopilpoafaaGreatDoor.Cd

namespace Go.Proofs.YtoiglopilpoafaaGreatDoor.Im
open Go.RowKit Ty Cd
set_option linter.unusedSimpArgs false
set_option linter.unusedVariables false

theorem bits_xor_u32_nat (a b : Nat) (ha : a < 4294967296) (hb : b < 4294967296) : bits .xor .u32 (a : Int) (b : Int) = ((a ^^^ b : Nat) : Int) := by
  have h := Nat.xor_lt_two_pow (n := 32) (show a < 2 ^ 32 from ha) (show b < 2 ^ 32 from hb)
  simp only [bits]
  have e : (BitVec.ofInt IntKind.u32.bits (a : Int) ^^^ BitVec.ofInt IntKind.u32.bits (b : Int)).toNat = a ^^^ b := by
    show (BitVec.ofInt 32 (a : Int) ^^^ BitVec.ofInt 32 (b : Int)).toNat = a ^^^ b
    rw [BitVec.toNat_xor, BitVec.toNat_ofInt, BitVec.toNat_ofInt]
    congr 1 <;> omega
  rw [e, IntKind.wrap_u32]
  omega
theorem xor_byte (A : Nat) (x : UInt8) (h : A < 4294967296) : bits .xor .u32 (A : Int) ((x.toNat : Int) % 4294967296) = ((A ^^^ x.toNat : Nat) : Int) := by
  have hx := x.toNat_lt
  rw [Int.emod_eq_of_lt (by omega) (by omega)]
  exact bits_xor_u32_nat A x.toNat h (by omega)
theorem mul_prime (A : Nat) : (A : Int) * 16777619 % 4294967296 = ((A * 16777619 % 4294967296 : Nat) : Int) := by
  rw [show (A : Int) * 16777619 = ((A * 16777619 : Nat) : Int) from (Int.natCast_mul A 16777619).symm]
  first
    | exact (Int.natCast_emod _ _).symm
    | exact (Int.ofNat_emod _ _).symm
    | rfl
theorem sum_snoc (l : Bs) (x : UInt8) (h : Nat) : fnvS h ((l ++ [x]).map UInt8.toNat) = fnvB (fnvS h (l.map UInt8.toNat)) x.toNat := by
  have key : ∀ f : Nat → Nat → Nat, ((l ++ [x]).map UInt8.toNat).foldl f h = f ((l.map UInt8.toNat).foldl f h) x.toNat := fun f => by rw [List.map_append, List.foldl_append]; rfl
  exact key fnvB
set_option maxRecDepth 20000 in
set_option maxHeartbeats 400000 in
theorem sum_any (ao : Option Addr) (n cap : Nat) (l : Bs) (hn : l.length = n) (w : World) (h : BL w ao cap l) :
    Calls Tryz.prog 19 #[.slice ao n cap] w fun e w' => e = .returned (.int .u32 (fnvS 2166136261 (l.map UInt8.toNat) : Int)) ∧ w' = w := by
  have hb2 : cap ≤ 9223372036854775807 := by have := h.2.1; simpa [maxLen] using this
  have hb1 : n ≤ cap := by rw [← hn]; exact h.1
  have hH : Hidden (BL w ao cap l) := h
  have hll : Hidden (l.length = n) := hn
  clear hn h
  go_enter Tryz.func19, Tryz.ntmps19
  go_wp2
  go_loopg [3, 8] n (fun k nv iv wr => ∃ j : Nat, nv = .int .u32 (fnvS 2166136261 ((l.take j).map UInt8.toNat) : Int) ∧ iv = .int .i64 (j : Int) ∧ j ≤ n ∧ k = n - j ∧ wr = w)
  case atStart => exact ⟨0, by simp [fnvS], rfl, by omega, rfl, rfl⟩
  case round =>
    obtain ⟨j, rfl, rfl, hj, hk, rfl⟩ := hrel
    have hkH : Hidden (gk = n - j) := hk
    clear hk
    by_cases hjl : j < n
    · have hll' : l.length = n := hll
      obtain ⟨x, hx⟩ : ∃ x, l[j]? = some x := ⟨l[j], List.getElem?_eq_getElem (by omega)⟩
      obtain ⟨b, off, rfl, hc⟩ := (show BL wr ao cap l from hH).2.2.2.resolve_left (by rintro rfl; simp at hx)
      have hA : Hidden (fnvS 2166136261 ((l.take (j + 1)).map UInt8.toNat) = fnvB (fnvS 2166136261 ((l.take j).map UInt8.toNat)) x.toNat) := by
        show _ = _
        rw [List.take_add_one, hx]; exact sum_snoc _ _ _
      have hlt := fnvS_lt 2166136261 (by decide) ((l.take j).map UInt8.toNat)
      have hcj : wr.cell? ⟨b, off + j, none⟩ = some (.int .u8 (x.toNat : Int)) := hc j _ hx
      obtain ⟨A, hAe⟩ : ∃ A, fnvS 2166136261 ((l.take j).map UInt8.toNat) = A := ⟨_, rfl⟩
      rw [hAe] at hA hlt ⊢
      have e_x := xor_byte A x hlt
      have e_m := mul_prime (A ^^^ x.toNat)
      have hjn : (j : Int) < (n : Int) := by omega
      have hj0 : (0 : Int) ≤ (j : Int) := by omega
      obtain ⟨hw1, hw2⟩ := wrap_succ (a := j) (by omega)
      clear hll' hx hc hlt hAe hjl
      go_wp2_with fail
      go_roundg (n - (j + 1))
      case measure => have : gk = n - j := hkH; omega
      case rel => exact ⟨j + 1, by rw [show fnvS 2166136261 ((l.take (j + 1)).map UInt8.toNat) = _ from hA]; simp only [fnvB, e_x, e_m], by first | rfl | (rw [hw1]) | (rw [hw2]), by omega, rfl, rfl⟩
    · obtain rfl : j = n := by omega
      have hfull : Hidden (fnvS 2166136261 ((l.take j).map UInt8.toNat) = fnvS 2166136261 (l.map UInt8.toNat)) := by
        show _ = _
        rw [← show l.length = j from hll, List.take_length]
      have hjn : decide ((j : Int) < (j : Int)) = false := by simp
      clear hjl
      go_wp2_with fail
      go_ret
      rw [show fnvS 2166136261 ((l.take j).map UInt8.toNat) = fnvS 2166136261 (l.map UInt8.toNat) from hfull]
      exact ⟨rfl, rfl⟩
end Go.Proofs.YtoiglopilpoafaaGreatDoor.Im

namespace Go.Proofs.YtoiglopilpoafaaGreatDoor.Im
open Go.RowKit Ty Cd
set_option linter.unusedSimpArgs false
set_option linter.unusedVariables false
set_option maxRecDepth 20000

theorem u8_plain : Tryz.prog.plainKey 5 = true := by kernel_rfl
theorem u8_cells : Tryz.prog.cellsOf 5 = 1 := by kernel_rfl
abbrev slV (a b c d : Int) : Value := .agg #[.int .u8 a, .int .u8 b, .int .u8 c, .int .u8 d]
theorem seal_eq (a0 a1 a2 a3 b0 b1 b2 b3 : Int) (w : World) : (Op.equalIn 10000 54 (slV a0 a1 a2 a3) (slV b0 b1 b2 b3)).run Tryz.prog w = .ok (a0 == b0 && (a1 == b1 && (a2 == b2 && a3 == b3))) w := by
  obtain ⟨i, hi⟩ : ∃ i, Tryz.prog.info? 5 = some i := ⟨_, rfl⟩
  have hp : ∀ (x0 x1 x2 x3 : Int) (w : World), (part 5 #[.int .u8 x0, .int .u8 x1, .int .u8 x2, .int .u8 x3] 0).run Tryz.prog w = .ok (.int .u8 x0) w
      ∧ (part 5 #[.int .u8 x0, .int .u8 x1, .int .u8 x2, .int .u8 x3] 1).run Tryz.prog w = .ok (.int .u8 x1) w
      ∧ (part 5 #[.int .u8 x0, .int .u8 x1, .int .u8 x2, .int .u8 x3] 2).run Tryz.prog w = .ok (.int .u8 x2) w
      ∧ (part 5 #[.int .u8 x0, .int .u8 x1, .int .u8 x2, .int .u8 x3] 3).run Tryz.prog w = .ok (.int .u8 x3) w :=
    fun x0 x1 x2 x3 w => ⟨run_part_plain w u8_plain rfl, run_part_plain w u8_plain rfl, run_part_plain w u8_plain rfl, run_part_plain w u8_plain rfl⟩
  have he : ∀ (a b : Int) (w : World), (Op.equalIn 9999 5 (.int .u8 a) (.int .u8 b)).run Tryz.prog w = .ok (a == b) w := fun a b w => run_equalIn_int w 9998 5 .u8 .u8 a b Tryz.underlying5
  show (Op.equalIn (9999 + 1) 54 (.agg _) (.agg _)).run Tryz.prog w = _
  rw [run_equalIn_array w 9999 (i := i) _ _ Tryz.underlying54 hi, u8_cells, show List.range 4 = [0, 1, 2, 3] from rfl]
  have q0 := fun x0 x1 x2 x3 w => (hp x0 x1 x2 x3 w).1
  have q1 := fun x0 x1 x2 x3 w => (hp x0 x1 x2 x3 w).2.1
  have q2 := fun x0 x1 x2 x3 w => (hp x0 x1 x2 x3 w).2.2.1
  have q3 := fun x0 x1 x2 x3 w => (hp x0 x1 x2 x3 w).2.2.2
  clear hp
  cases h0 : a0 == b0 <;> cases h1 : a1 == b1 <;> cases h2 : a2 == b2 <;> cases h3 : a3 == b3 <;> simp only [Op.eqItems, Sem.run_bind, Nat.mul_one, q0, q1, q2, q3, Result.andThen_ok, he, Sem.run_pure, h0, h1, h2, h3, Bool.not_false, Bool.not_true, if_true, if_false, Bool.false_eq_true, Bool.and_true, Bool.and_false, Bool.true_and, Bool.false_and]
abbrev sealV (N : Nat) : Value := slV ((N : Int) / 16777216 % 256) ((N : Int) / 65536 % 256) ((N : Int) / 256 % 256) ((N : Int) % 256)
theorem put4 {w : World} {g : Nat} {x0 x1 x2 x3 : Value} {t : TypeId} (h : w.heap[g]? = some (.cells #[x0, x1, x2, x3] t (0, 0))) (v0 v1 v2 v3 : Value) :
    ((((w.setCell ⟨g, 0, none⟩ v0).setCell ⟨g, 1, none⟩ v1).setCell ⟨g, 2, none⟩ v2).setCell ⟨g, 3, none⟩ v3).heap[g]? = some (.cells #[v0, v1, v2, v3] t (0, 0)) := by
  have h0 : (w.setCell ⟨g, 0, none⟩ v0).heap[g]? = some (.cells #[v0, x1, x2, x3] t (0, 0)) := heap_setCell_same _ g 0 _ t v0 h
  have h1 : ((w.setCell ⟨g, 0, none⟩ v0).setCell ⟨g, 1, none⟩ v1).heap[g]? = some (.cells #[v0, v1, x2, x3] t (0, 0)) := heap_setCell_same _ g 1 _ t v1 h0
  have h2 : (((w.setCell ⟨g, 0, none⟩ v0).setCell ⟨g, 1, none⟩ v1).setCell ⟨g, 2, none⟩ v2).heap[g]? = some (.cells #[v0, v1, v2, x3] t (0, 0)) := heap_setCell_same _ g 2 _ t v2 h1
  exact heap_setCell_same _ g 3 _ t v3 h2
theorem put4_fr (w : World) (g : Nat) (v0 v1 v2 v3 : Value) : Fr (fun k => k = g) w ((((w.setCell ⟨g, 0, none⟩ v0).setCell ⟨g, 1, none⟩ v1).setCell ⟨g, 2, none⟩ v2).setCell ⟨g, 3, none⟩ v3) :=
  (((Fr.setCell w ⟨g, 0, none⟩ v0).same (Fr.setCell _ ⟨g, 1, none⟩ v1)).same (Fr.setCell _ ⟨g, 2, none⟩ v2)).same (Fr.setCell _ ⟨g, 3, none⟩ v3)
theorem sealOf_any (ao : Option Addr) (n cap : Nat) (l : Bs) (hn : l.length = n) (w : World) (h : BL w ao cap l) :
    Calls Tryz.prog 13 #[.slice ao n cap] w fun e w' => e = .returned (sealV (sumS l)) ∧ Fr (fun _ => False) w w' := by
  obtain ⟨V, hV⟩ : ∃ V, V = w.alloc (.cells #[.int .u8 0, .int .u8 0, .int .u8 0, .int .u8 0] 54 (0, 0)) := ⟨_, rfl⟩
  have fV : Fr (fun _ => False) w V := by rw [hV]; exact Fr.alloc _ _ _
  have xV : V.heap[w.heap.size]? = some (.cells #[.int .u8 0, .int .u8 0, .int .u8 0, .int .u8 0] 54 (0, 0)) := by rw [hV]; exact alloc_new _ _
  have ks := sum_any ao n cap l hn V (h.keep fV)
  have hN := sumS_lt l
  have e : fnvS 2166136261 (l.map UInt8.toNat) = sumS l := rfl
  rw [e] at ks
  generalize sumS l = N at *
  have hN2 : (N : Int) < 4294967296 := by omega
  have hN0 : 0 ≤ (N : Int) := by omega
  obtain ⟨z0, z1, z2, z3⟩ := box4 xV
  have y0 := frozen_of_row xV 0
  have y1 := frozen_of_row xV 1
  have y2 := frozen_of_row xV 2
  have y3 := frozen_of_row xV 3
  have xVH : Hidden (V.heap[w.heap.size]? = some (.cells #[.int .u8 0, .int .u8 0, .int .u8 0, .int .u8 0] 54 (0, 0))) := xV
  have hVH : Hidden (V = _) := hV
  have fVH : Hidden (Fr (fun _ => False) w V) := fV
  generalize hG : w.heap.size = G at *
  have hGH : Hidden (w.heap.size = G) := hG
  clear hV fV xV h hn e hN hG
  go_enter Tryz.func13, Tryz.ntmps13
  go_upto_region 1 with fail
  rw [← (show V = _ from hVH), show w.heap.size = G from hGH]
  clear hVH
  go_wp2_with (go_at_call 19; refine ks.mono ?_; rintro e w1 ⟨rfl, rfl⟩)
  refine post_one rfl rfl _ _ 54 _ rfl (put4 (show w1.heap[G]? = _ from xVH) _ _ _ _) Tryz.underlying54 rfl (by kernel_rfl) ⟨?_, ?_⟩
  · have e : (N : Int) / 16777216 % 256 = (N : Int) / 16777216 := by omega
    show _ = Ending.returned (.agg #[.int .u8 ((N : Int) / 16777216 % 256), _, _, _])
    rw [e]
  · exact (show Fr (fun _ => False) w w1 from fVH).over (put4_fr w1 G _ _ _ _) (fun k e => by have : w.heap.size = G := hGH; omega)
theorem seal_vals (x0 x1 x2 x3 : UInt8) (l : Bs) : ((x0.toNat : Int) == (sumS l : Int) / 16777216 % 256 && ((x1.toNat : Int) == (sumS l : Int) / 65536 % 256 && ((x2.toNat : Int) == (sumS l : Int) / 256 % 256 && (x3.toNat : Int) == (sumS l : Int) % 256))) = decide ([x0, x1, x2, x3] = sealS l) := by
  have e : ∀ (x : UInt8) (m : Nat), m < 256 → (((x.toNat : Int) == (m : Int)) = decide (x = UInt8.ofNat m)) := by
    intro x m hm
    have h2 : (UInt8.ofNat m).toNat = m := by rw [UInt8.toNat_ofNat']; omega
    by_cases h : x = UInt8.ofNat m
    · rw [h, h2]; simp
    · have h3 : ¬ (x.toNat : Int) = (m : Int) := fun e => h (UInt8.toNat_inj.1 (by rw [h2]; omega))
      rw [decide_eq_false h]
      exact beq_eq_false_iff_ne.2 h3
  have s0 : sealS l = [UInt8.ofNat (sumS l / 16777216 % 256), UInt8.ofNat (sumS l / 65536 % 256), UInt8.ofNat (sumS l / 256 % 256), UInt8.ofNat (sumS l % 256)] := by
    show be 4 (sumS l) = _
    simp [be]
  rw [s0]
  generalize sumS l = N
  rw [show (N : Int) / 16777216 % 256 = ((N / 16777216 % 256 : Nat) : Int) by omega, show (N : Int) / 65536 % 256 = ((N / 65536 % 256 : Nat) : Int) by omega, show (N : Int) / 256 % 256 = ((N / 256 % 256 : Nat) : Int) by omega, show (N : Int) % 256 = ((N % 256 : Nat) : Int) by omega]
  rw [e x0 _ (by omega), e x1 _ (by omega), e x2 _ (by omega), e x3 _ (by omega)]
  rw [Bool.eq_iff_iff]
  simp
end Go.Proofs.YtoiglopilpoafaaGreatDoor.Im

namespace Go.Proofs.YtoiglopilpoafaaGreatDoor.Im
open Go.RowKit Ty Cd
set_option linter.unusedSimpArgs false
set_option linter.unusedVariables false
set_option maxRecDepth 20000

theorem run_strI (w : World) (v : Value) (l : List UInt8) (h : Wi.Sl w v (Wi.bc l)) : (convert 30 9 v).run Tryz.prog w = .ok (.string ⟨l.toArray⟩) w := by
  rcases h.src with ⟨rfl, hx⟩ | ⟨ad, cap, rfl, hl, hm, hnews⟩
  · obtain rfl : l = [] := by simpa [Wi.bc] using hx
    rw [run_convert_bytes_string w 30 9 5 none 0 0 Tryz.underlying30 Tryz.underlying5 Tryz.underlying9]
    rfl
  · rw [Wi.bc_length] at *
    exact run_convert_bytes_back w 30 9 5 ad cap l Tryz.underlying30 Tryz.underlying5 Tryz.underlying9 (fun j hj => hnews j _ (by simp [Wi.bc, hj]))
theorem opened_short (ao : Option Addr) (n cap : Nat) (hn : n < 4) (w : World) :
    Calls Tryz.prog 20 #[.slice ao n cap] w fun e w' => e = .returned (.tuple #[.slice none 0 0, .bool false]) ∧ w' = w := by
  obtain rfl | rfl | rfl | rfl : n = 0 ∨ n = 1 ∨ n = 2 ∨ n = 3 := by omega
  all_goals
    clear hn
    go_enter Tryz.func20, Tryz.ntmps20
    go_wp2_with fail
    go_ret2
    exact ⟨rfl, rfl⟩
theorem bl_front {w : World} {ao : Option Addr} {cap : Nat} {l : Bs} (h : BL w ao cap l) (m : Nat) : BL w ao cap (l.take m) := by
  obtain ⟨h1, h2, h3, h4⟩ := h
  refine ⟨by rw [List.length_take]; omega, h2, h3, ?_⟩
  rcases h4 with rfl | ⟨b, off, rfl, h4⟩
  · left; simp
  · refine Or.inr ⟨b, off, rfl, fun i c hc => ?_⟩
    rw [List.getElem?_take] at hc
    split at hc
    · exact h4 i c hc
    · cases hc
set_option maxHeartbeats 4000000 in
theorem opened_any (b off cap n M : Nat) (l : Bs) (hn : l.length = n) (hM : n = M + 4) (w : World) (h : BL w (some ⟨b, off, none⟩) cap l) :
    Calls Tryz.prog 20 #[.slice (some ⟨b, off, none⟩) n cap] w fun e w' => e = .returned (.tuple #[.slice (some ⟨b, off, none⟩) M cap, .bool (decide (l.drop M = sealS (l.take M)))]) ∧ Fr (fun _ => False) w w' := by
  have hcap : n ≤ cap := by rw [← hn]; exact h.1
  have hcm : cap ≤ 9223372036854775807 := by have := h.2.1; simpa [maxLen] using this
  have ks := fun X (hX : Fr (fun _ => False) w X) => sealOf_any (some ⟨b, off, none⟩) M cap (l.take M) (by rw [List.length_take]; omega) X ((bl_front h M).keep hX)
  obtain ⟨x0, x1, x2, x3, hd⟩ : ∃ x0 x1 x2 x3, l.drop M = [x0, x1, x2, x3] := by
    have hl : (l.drop M).length = 4 := by rw [List.length_drop]; omega
    match l.drop M, hl with
    | [a, b, c, d], _ => exact ⟨a, b, c, d, rfl⟩
  have hc : ∀ (j : Nat) (c : UInt8), [x0, x1, x2, x3][j]? = some c → w.cell? ⟨b, off + M + j, none⟩ = some (.int .u8 (c.toNat : Int)) := by
    intro j c hj
    rw [← hd, List.getElem?_drop] at hj
    rcases h.2.2.2 with e | ⟨b', off', e, h4⟩
    · rw [e] at hj; simp at hj
    · simp only [Option.some.injEq, Addr.mk.injEq, and_true] at e
      obtain ⟨rfl, rfl⟩ := e
      rw [Nat.add_assoc]
      exact h4 _ _ hj
  have c0 := hc 0 x0 rfl
  have c1 := hc 1 x1 rfl
  have c2 := hc 2 x2 rfl
  have c3 := hc 3 x3 rfl
  rw [Nat.add_zero] at c0
  have hv := seal_vals x0 x1 x2 x3 (l.take M)
  rw [hd, ← hv]
  generalize sumS (l.take M) = N at *
  have hat : ∀ w, (Instr.arrayAt 54 (.slice (some ⟨b, off + M, none⟩) (n - M) (cap - M))).run Tryz.prog w = .ok (.pointer (some ⟨b, off + M, none⟩)) w := fun w => run_arrayAt w 54 _ 4 _ (n - M) (cap - M) Tryz.underlying54 (by omega)
  have heq : ∀ w, (Op.equalIn 10000 54 (slV (x0.toNat : Int) (x1.toNat : Int) (x2.toNat : Int) (x3.toNat : Int)) (sealV N)).run Tryz.prog w = .ok _ w := fun w => seal_eq _ _ _ _ _ _ _ _ w
  have e4 : (n : Int) - 4 = (M : Int) := by omega
  have g1 : (0 : Int) ≤ (M : Int) := by omega
  have g2 : (M : Int) ≤ (n : Int) := by omega
  have g3 : (M : Int) ≤ (cap : Int) := by omega
  have g4 : (n : Int) ≤ (cap : Int) := by omega
  have b1 : decide ((M : Int) < 0) = false := by simp
  generalize hR : ((x0.toNat : Int) == (N : Int) / 16777216 % 256 && ((x1.toNat : Int) == (N : Int) / 65536 % 256 && ((x2.toNat : Int) == (N : Int) / 256 % 256 && (x3.toNat : Int) == (N : Int) % 256))) = R at *
  generalize (x0.toNat : Int) = y0 at *
  generalize (x1.toNat : Int) = y1 at *
  generalize (x2.toNat : Int) = y2 at *
  generalize (x3.toNat : Int) = y3 at *
  clear hR hv hc hd h hn hM
  go_enter Tryz.func20, Tryz.ntmps20
  go_upto_region 4 with fail
  go_region_held3 (fun w' => w'.cell? ⟨b, off + M, none⟩ = some (.int .u8 y0) ∧ w'.cell? ⟨b, off + M + 1, none⟩ = some (.int .u8 y1) ∧ w'.cell? ⟨b, off + M + 2, none⟩ = some (.int .u8 y2) ∧ w'.cell? ⟨b, off + M + 3, none⟩ = some (.int .u8 y3)) (first | (refine ⟨by with_reducible assumption, by with_reducible assumption, by with_reducible assumption, by with_reducible assumption⟩) | go_keep) (first
    | (go_at_call 13; refine (ks _ (by first | exact Fr.refl _ _ | exact Fr.drew _ _)).mono ?_; rintro e w1 ⟨rfl, f1⟩
       have g1 : Fr (fun _ => False) w w1 := (by first | exact f1 | exact (Fr.drew _ _).same f1)
       have d0 := g1.cellN c0
       have d1 := g1.cellN c1
       have d2 := g1.cellN c2
       have d3 := g1.cellN c3
       have g1H : Hidden (Fr (fun _ => False) w w1) := g1
       clear f1 g1))
  all_goals
    go_wp2_with fail
    go_ret2
    exact ⟨rfl, g1H⟩
/-- bytes.Equal. -/
theorem bytesEq_any (a1 a2 : Option Addr) (n1 n2 c1 c2 : Nat) (l1 l2 : Bs) (h1 : l1.length = n1) (h2 : l2.length = n2) (w : World) (k1 : BL w a1 c1 l1) (k2 : BL w a2 c2 l2) :
    Calls Tryz.prog 22 #[.slice a1 n1 c1, .slice a2 n2 c2] w fun e w' => e = .returned (.bool (l1 == l2)) ∧ w' = w := by
  have s1 := run_strI w (.slice a1 n1 c1) l1 (by rw [← h1]; exact sl_of k1)
  have s2 := run_strI w (.slice a2 n2 c2) l2 (by rw [← h2]; exact sl_of k2)
  clear k1 k2 h1 h2
  go_enter Tryz.func22, Tryz.ntmps22
  go_wp2_with fail
  go_ret
  exact ⟨rfl, rfl⟩
end Go.Proofs.YtoiglopilpoafaaGreatDoor.Im
