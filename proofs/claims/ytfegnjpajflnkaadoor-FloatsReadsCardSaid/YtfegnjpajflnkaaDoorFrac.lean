/- What fractionText answers: the point and the hex digits of a fraction, without the noughts at its end. -/
import Derived.Test.YtfegnjpajflnkaaDoorRefText
import Derived.OwnWalk
namespace Go.Proofs.YtfegnjpajflnkaaDoor
open Go.RowKit Fl
set_option linter.unusedSimpArgs false
set_option linter.unusedVariables false

/-- What was there is as it was. -/
def Kb (w w' : World) : Prop := w.keptBut w' (fun _ => False) ∧ w.heap.size ≤ w'.heap.size
theorem Kb.refl (w : World) : Kb w w := ⟨World.keptBut_refl _ _, Nat.le_refl _⟩
theorem Kb.trans {a b c : World} (h : Kb a b) (g : Kb b c) : Kb a c := ⟨World.keptBut_trans h.1 g.1, Nat.le_trans h.2 g.2⟩
theorem Kb.of_grown {a b : World} (h : Grown a b) : Kb a b := ⟨h.1, h.2.2⟩
theorem Kb.of_below {a b : World} (h : Below a.heap.size a b) : Kb a b := ⟨h.frame _, h.size⟩

def hexdig (d : Nat) : UInt8 := if d < 10 then UInt8.ofNat (48 + d) else UInt8.ofNat (87 + d)
def hexF : Nat → Nat → List UInt8
  | 0, _ => []
  | k + 1, f => if f = 0 then [] else hexdig (f / 281474976710656) :: hexF k (f % 281474976710656 * 16)
def fracL (f : Nat) : List UInt8 := if f = 0 then [] else 46 :: hexF 13 f
def lenOf : Value → Nat
  | .slice _ n _ => n
  | _ => 0

theorem hexF_zero (k : Nat) : hexF k 0 = [] := by cases k <;> simp [hexF]

theorem hex_index (d : Nat) (h : d < 16) (w : World) : (Instr.index 9 (.string ⟨#[48, 49, 50, 51, 52, 53, 54, 55, 56, 57, 97, 98, 99, 100, 101, 102]⟩) (.int .u64 (d : Int))).run Tryd.prog w = .ok (.int .u8 ((hexdig d).toNat : Int)) w := by
  have : d = 0 ∨ d = 1 ∨ d = 2 ∨ d = 3 ∨ d = 4 ∨ d = 5 ∨ d = 6 ∨ d = 7 ∨ d = 8 ∨ d = 9 ∨ d = 10 ∨ d = 11 ∨ d = 12 ∨ d = 13 ∨ d = 14 ∨ d = 15 := by omega
  rcases this with rfl | rfl | rfl | rfl | rfl | rfl | rfl | rfl | rfl | rfl | rfl | rfl | rfl | rfl | rfl | rfl <;> (show _ = _) <;> kernel_rfl

def byteVals (l : List UInt8) : List Value := l.map fun b => .int .u8 (b.toNat : Int)

theorem Tryd.info_u8 : (Tryd.prog.info? 5).map (fun i => (i.zero, i.size, i.bytes)) = some (some (.int .u8 0), 1, 1) := by kernel_rfl

theorem conv_owned (w : World) (B g n cap : Nat) (l : List UInt8) (hown : w.ownsRow B 5 1 (.slice (some ⟨g, 0, none⟩) n cap) n (byteVals l)) :
    (convert 59 9 (.slice (some ⟨g, 0, none⟩) n cap)).run Tryd.prog w = .ok (.string ⟨l.toArray⟩) w := by
  have hl : l.length = n := by
    have := hown.1
    simpa [byteVals] using this
  refine conv_back w ⟨g, 0, none⟩ n cap l hl ?_
  intro j hj
  have e : (⟨g, 0, none⟩ : Addr).add j = ⟨g, j, none⟩ := by simp [Addr.add]; intro h; exact h.symm
  rw [e, hown.cellAt j (by omega)]
  simp [byteVals, List.getElem?_eq_getElem hj]

/-- A block of its own, and one more behind it. -/
theorem own_start (w : World) (C : Array Value) (e : TypeId) (o : Obj) (cap n : Nat) (xs : List Value) (hC : C.size = cap) (hn : n ≤ cap) (hm : cap ≤ maxLen) (hx : C.toList.take n = xs) :
    ((w.alloc (.cells C e)).alloc o).ownsRow w.heap.size e 1 (.slice (some ⟨w.heap.size, 0, none⟩) n cap) n xs := by
  refine ⟨?_, Or.inr ⟨w.heap.size, cap, C, rfl, Nat.le_refl _, ?_, hn, hm, by omega, by rw [Nat.mul_one]; exact hx⟩⟩
  · rw [← hx, List.length_take, Array.length_toList]
    omega
  · have h1 : (w.alloc (.cells C e)).heap[w.heap.size]? = some (.cells C e) := by
      show (w.heap.push _)[w.heap.size]? = _
      simp
    rw [Below.heap_alloc _ _ _ (by simp)]
    exact h1

theorem frac_zero (w : World) : Calls Tryd.prog 66 #[.int .u64 0] w fun e w' => e = .returned (.string ⟨#[]⟩) ∧ Kb w w' := by
  go_enter Tryd.func66, Tryd.ntmps66
  go_wp2
  go_ret
  exact ⟨rfl, Kb.refl _⟩

theorem shl4_and (f : Nat) (h : f < 4503599627370496) : bits .and .u64 (IntKind.u64.wrap ((f : Int) * 16)) 4503599627370495 = ((f % 281474976710656 * 16 : Nat) : Int) := by
  rw [IntKind.wrap_u64, and_frac _ ⟨by omega, by omega⟩]
  omega

theorem pow16 (k : Nat) (hk : k < 13) (f : Nat) (hf : f < 4503599627370496) (h : f % 16 ^ k = 0) : (f % 281474976710656 * 16) % 16 ^ (k + 1) = 0 := by
  have : k = 0 ∨ k = 1 ∨ k = 2 ∨ k = 3 ∨ k = 4 ∨ k = 5 ∨ k = 6 ∨ k = 7 ∨ k = 8 ∨ k = 9 ∨ k = 10 ∨ k = 11 ∨ k = 12 := by omega
  rcases this with rfl | rfl | rfl | rfl | rfl | rfl | rfl | rfl | rfl | rfl | rfl | rfl | rfl <;> omega
theorem pow16_13 (k : Nat) (hk : k ≤ 13) (f : Nat) (hf : f < 4503599627370496) (h : f % 16 ^ k = 0) (h0 : f ≠ 0) : k < 13 := by
  rcases Nat.lt_or_eq_of_le hk with h1 | h1
  · exact h1
  · subst h1; omega

set_option maxRecDepth 20000 in
theorem frac_any (f : Nat) (h0 : f ≠ 0) (hf : f < 4503599627370496) (w : World) :
    Calls Tryd.prog 66 #[.int .u64 (f : Int)] w fun e w' => e = .returned (.string ⟨(46 :: hexF 13 f).toArray⟩) ∧ Kb w w' := by
  have hmk : ∀ w, (Instr.makeSlice 59 (.int .i64 0) (.int .i64 14)).run Tryd.prog w = .ok (.slice (some ⟨w.heap.size, 0, none⟩) 0 14) (w.alloc (.cells #[.int .u8 0, .int .u8 0, .int .u8 0, .int .u8 0, .int .u8 0, .int .u8 0, .int .u8 0, .int .u8 0, .int .u8 0, .int .u8 0, .int .u8 0, .int .u8 0, .int .u8 0, .int .u8 0] 5)) := fun _ => by kernel_rfl
  have hne : ((f : Int) == 0) = false := by simpa using h0
  obtain ⟨i0, hi, hz0, hz1, hz2⟩ := info_parts Tryd.info_u8
  go_enter Tryd.func66, Tryd.ntmps66
  go_wp2
  clear hmk
  go_loopw [0, 3] (fun fv v wr => ∃ (k f' : Nat) (l : List UInt8), k ≤ 13 ∧ fv = .int .u64 (f' : Int) ∧ v = .slice (some ⟨w.heap.size, 0, none⟩) (k + 1) 14 ∧ wr.ownsRow w.heap.size 5 1 (.slice (some ⟨w.heap.size, 0, none⟩) (k + 1) 14) (k + 1) (byteVals l) ∧ Below w.heap.size w wr ∧ f' < 4503599627370496 ∧ f' % 16 ^ k = 0 ∧ l ++ hexF (13 - k) f' = 46 :: hexF 13 f)
    (fun _ v _ => 14 - lenOf v)
  case atStart =>
    refine ⟨0, f, [46], by omega, rfl, rfl, ?_, ?_, hf, by omega, rfl⟩
    · exact own_start w #[.int .u8 46, .int .u8 0, .int .u8 0, .int .u8 0, .int .u8 0, .int .u8 0, .int .u8 0, .int .u8 0, .int .u8 0, .int .u8 0, .int .u8 0, .int .u8 0, .int .u8 0, .int .u8 0] 5 _ 14 1 (byteVals [46]) rfl (by omega) (by unfold maxLen; omega) rfl
    · exact ((Below.refl _ _).alloc (Nat.le_refl _) _).alloc (by simp) _
  case round =>
    obtain ⟨k, f', l, hk, rfl, rfl, hown, hbel, hf', hmod, hl⟩ := hrel
    by_cases hz : f' = 0
    · subst hz
      have hcv := conv_owned wr _ _ _ _ _ hown
      rw [hexF_zero, List.append_nil] at hl
      rw [hl] at hcv
      clear hown hl hmod hf'
      go_wp2
      go_ret
      exact ⟨rfl, Kb.of_below hbel⟩
    · have hk13 := pow16_13 k hk f' hf' hmod hz
      have hnz : ((f' : Int) != 0) = true := by simpa using hz
      have hd : f' / 281474976710656 < 16 := by omega
      have hix := hex_index (f' / 281474976710656) hd
      have ed : ((f' / 281474976710656 : Nat) : Int) = (f' : Int) / 281474976710656 := by omega
      rw [ed] at hix
      have hsh := shl4_and f' hf'
      rw [IntKind.wrap_u64, Int.emod_eq_of_lt (by omega) (by omega)] at hsh
      have hmod' := pow16 k hk13 f' hf' hmod
      have hl' : (l ++ [hexdig (f' / 281474976710656)]) ++ hexF (13 - (k + 1)) (f' % 281474976710656 * 16) = 46 :: hexF 13 f := by
        rw [← hl, show 13 - k = (13 - (k + 1)) + 1 by omega, hexF, if_neg hz, List.append_assoc]
        rfl
      have hsz := hbel.size
      generalize hexdig (f' / 281474976710656) = ch at *
      clear hl hmod ed hne
      go_wp2_with (at_builtin; refine wpList_append_fits _ rfl (.tmp 12) (.tmp 16) 59 rfl w.heap.size 5 i0 1 Tryd.underlying59 hi hz1 w.heap.size (k + 1) 14 _ rfl (hown.alloc _) ⟨wr.heap.size, 0, none⟩ 1 1 [.int .u8 (ch.toNat : Int)] rfl rfl (cell_one_new _ _ _) (by intro u hu; simp at hu; subst hu; rfl) (by omega) ?_; intro w1 hown1 hgrow1)
      go_roundw
      case rel =>
        refine ⟨k + 1, f' % 281474976710656 * 16, l ++ [ch], by omega, by go_num, rfl, by simpa [byteVals] using hown1, (hbel.alloc hsz _).grown hgrow1 (by simp; omega) (fun z hz => by cases hz; exact Nat.le_refl _), by omega, hmod', hl'⟩
      case measure => simp [lenOf]; omega
end Go.Proofs.YtfegnjpajflnkaaDoor
