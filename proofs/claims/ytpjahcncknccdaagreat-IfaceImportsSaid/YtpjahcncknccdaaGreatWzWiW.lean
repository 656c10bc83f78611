/- The Writer's calls. -/
import Derived.Test.YtpjahcncknccdaaGreatWzWiNum
import Derived.Laws.IdiomStrings
import Derived.Laws.Bits64b
namespace Go.Proofs.YtpjahcncknccdaaGreat.Wi
open Go.RowKit
set_option linter.unusedSimpArgs false
set_option linter.unusedVariables false
set_option maxRecDepth 20000

theorem byte_any (pv : Value) (c : UInt8) (bs : List UInt8) (g : Option Nat) (n : Nat) (w : World) (hw : WrO pv w bs g (1 + n)) :
    Calls Tryz.prog 39 #[pv, .int .u8 (c.toNat : Int)] w fun e w' => e = .returned (.tuple #[]) ∧ WTo pv w g w' (bs ++ [c]) n := by
  have kp := put_any pv (.slice (some ⟨w.heap.size, 0, none⟩) 1 1) bs [c] g n _ (hw.alloc (.cells #[.int .u8 (c.toNat : Int)] 5)) (Sl.one w _ 5)
  clear hw
  go_enter Tryz.func39, Tryz.ntmps39
  go_wp2_with (go_at_call 70; refine kp.mono ?_; rintro e w' ⟨rfl, hto⟩)
  go_end0
  exact ⟨rfl, hto.of_alloc⟩

/-- The bits of an int, as a number without a sign. -/
def u64 (n : Int) : Nat := (n % 18446744073709551616).toNat
theorem u64_lt (n : Int) : u64 n < 18446744073709551616 := by unfold u64; omega

theorem long_any (pv : Value) (N : Nat) (bs : List UInt8) (g : Option Nat) (n : Nat) (w : World) (hN : N < 18446744073709551616) (hw : WrO pv w bs g (8 + n)) :
    Calls Tryz.prog 40 #[pv, .int .u64 (N : Int)] w fun e w' => e = .returned (.tuple #[]) ∧ WTo pv w g w' (bs ++ beS N 8) n := by
  have kp := putNumber_any pv N 8 bs g n w hN (by omega) hw
  clear hw
  go_enter Tryz.func40, Tryz.ntmps40
  go_wp2_with (go_at_call 38; refine kp.mono ?_; rintro e w' ⟨rfl, hto⟩)
  go_end0
  exact ⟨rfl, hto⟩

theorem and31 (x : Int) : bits .and .u64 (IntKind.u64.wrap x) 2147483647 = ((u64 x % 2147483648 : Nat) : Int) := by
  have hw : IntKind.u64.wrap x = (u64 x : Int) := by
    rw [IntKind.wrap_u64]; unfold u64; omega
  rw [hw]
  have := bits_and_u64_nat (u64 x) 2147483647 (u64_lt x) (by omega)
  rw [show ((2147483647 : Nat) : Int) = 2147483647 from rfl] at this
  rw [this]
  congr 1
  exact Nat.and_two_pow_sub_one_eq_mod (u64 x) 31

/-- The four bytes of an int. -/
def i31 (x : Int) : List UInt8 := beS (u64 x % 2147483648) 4
@[simp] theorem i31_length (x : Int) : (i31 x).length = 4 := beS_length _ _

theorem int_any (pv : Value) (x : Int) (bs : List UInt8) (g : Option Nat) (n : Nat) (w : World) (hw : WrO pv w bs g (4 + n)) :
    Calls Tryz.prog 17 #[pv, .int .i64 x] w fun e w' => e = .returned (.tuple #[]) ∧ WTo pv w g w' (bs ++ i31 x) n := by
  have e31 := and31 x
  have hm : u64 x % 2147483648 < 2147483648 := Nat.mod_lt _ (by omega)
  have kp := putNumber_any pv (u64 x % 2147483648) 4 bs g n w (by omega) (by omega) hw
  clear hw hm
  go_enter Tryz.func17, Tryz.ntmps17
  go_wp2_with (go_at_call 38; refine kp.mono ?_; rintro e w' ⟨rfl, hto⟩)
  go_end0
  exact ⟨rfl, hto⟩

/-- Raw bytes, as they are written. -/
def rawS (l : List UInt8) : List UInt8 := i31 (l.length : Int) ++ l
@[simp] theorem rawS_length (l : List UInt8) : (rawS l).length = 4 + l.length := by simp [rawS]

/-- A slice that shares no memory with a writer. -/
def Apart (xs : List Value) (v pv : Value) (g : Option Nat) : Prop := xs = [] ∨ ∀ k, v.ownBlock = some k → ¬ (pblk pv = some k ∨ g = some k)
theorem Sl.keepA {S : Nat → Prop} {w w' : World} {v : Value} {xs : List Value} (h : Sl w v xs) (hf : Fr S w w') (hn : xs = [] ∨ ∀ k, v.ownBlock = some k → ¬ S k) : Sl w' v xs := by
  rcases hn with rfl | hn
  · obtain ⟨ao, cap, rfl, h1, h2, h3, h4⟩ := h
    exact ⟨ao, cap, rfl, h1, h2, h3, Or.inl rfl⟩
  · exact h.keep hf hn

theorem raw_any (pv v : Value) (l : List UInt8) (bs : List UInt8) (g : Option Nat) (n : Nat) (w : World) (hw : WrO pv w bs g (4 + (l.length + n))) (hs : Sl w v (bc l)) (ha : Apart (bc l) v pv g) :
    Calls Tryz.prog 37 #[pv, v] w fun e w' => e = .returned (.tuple #[]) ∧ WTo pv w g w' (bs ++ rawS l) n := by
  have ki := int_any pv (l.length : Int) bs g (l.length + n) w hw
  have kp : ∀ w1, WTo pv w g w1 (bs ++ i31 (l.length : Int)) (l.length + n) → Calls Tryz.prog 70 #[pv, v] w1 fun e w' => e = .returned (.tuple #[]) ∧ WTo pv w g w' (bs ++ rawS l) n := by
    rintro w1 ⟨g1, ho, hf, hg⟩
    refine (put_any pv v _ l g1 n w1 ho (hs.keepA hf ha)).mono ?_
    rintro e w' ⟨rfl, hto⟩
    refine ⟨rfl, ?_⟩
    rw [rawS, ← List.append_assoc]
    exact WTo.trans hf hg hto
  obtain ⟨ao, cap, rfl, h1, h2, h3, h4⟩ := hs
  rw [bc_length] at *
  clear h4 h3 ha hw
  go_enter Tryz.func37, Tryz.ntmps37
  go_wp2_with (first
    | (go_at_call 17; refine ki.mono ?_; rintro e w1 ⟨rfl, hto⟩)
    | (go_at_call 70; refine (kp _ hto).mono ?_; rintro e w2 ⟨rfl, hto2⟩))
  go_end0
  exact ⟨rfl, hto2⟩

/-- The bytes of a string in new memory. -/
def bcap (w : World) (l : List UInt8) : Nat := grownCap w l.length 0 5
def bconv (w : World) (l : List UInt8) : World :=
  w.drew.alloc (.cells (bytesRow ⟨l.toArray⟩ (bcap w l)) 5 ((bytesRow ⟨l.toArray⟩ (bcap w l)).size, (bytesRow ⟨l.toArray⟩ (bcap w l)).size + 1))
theorem run_conv (w : World) (l : List UInt8) : (convert 9 25 (.string ⟨l.toArray⟩)).run Tryz.prog w = .ok (.slice (some ⟨w.heap.size, 0, none⟩) l.length (bcap w l)) (bconv w l) := by
  rw [run_bytes_of_string w 9 25 5 ⟨l.toArray⟩ Tryz.underlying9 Tryz.underlying25 Tryz.underlying5]
  simp only [bconv, bcap, ByteArray.size, List.size_toArray]
theorem bconv_fr (S : Nat → Prop) (w : World) (l : List UInt8) : Fr S w (bconv w l) := (Fr.drew S w).same (Fr.alloc S w.drew _)
theorem bconv_sl (w : World) (l : List UInt8) (hl : l.length ≤ 9223372036854775807) : Sl (bconv w l) (.slice (some ⟨w.heap.size, 0, none⟩) l.length (bcap w l)) (bc l) := by
  refine ⟨some ⟨w.heap.size, 0, none⟩, bcap w l, by rw [bc_length], by rw [bc_length]; exact grownCap_ge _ _ _ _, grownCap_le_maxLen _ _ _ _ (by unfold maxLen; omega), (fun h => by cases h), Or.inr ⟨w.heap.size, 0, rfl, fun i x hx => ?_⟩⟩
  rw [Nat.zero_add]
  have := World.cell?_alloc_mark w.drew (bytesRow ⟨l.toArray⟩ (bcap w l)) 5 ((bytesRow ⟨l.toArray⟩ (bcap w l)).size, (bytesRow ⟨l.toArray⟩ (bcap w l)).size + 1) i
  rw [World.size_drew] at this
  show (World.alloc _ _).cell? _ = _
  rw [this]
  obtain ⟨hi, hh⟩ := List.getElem?_eq_some_iff.1 hx
  have hi' : i < l.length := by simpa using hi
  rw [bytesRow_at ⟨l.toArray⟩ (bcap w l) i (by simpa using hi')]
  simp [bc] at hh
  rw [← hh]
  simp

theorem text_any (pv : Value) (l : List UInt8) (bs : List UInt8) (g : Option Nat) (n : Nat) (w : World) (hl : l.length ≤ 9223372036854775807) (hw : WrO pv w bs g (4 + (l.length + n))) (hb : ∀ k, pblk pv = some k ∨ g = some k → k < w.heap.size) :
    Calls Tryz.prog 16 #[pv, .string ⟨l.toArray⟩] w fun e w' => e = .returned (.tuple #[]) ∧ WTo pv w g w' (bs ++ rawS l) n := by
  have hcv := run_conv w l
  have kr := raw_any pv (.slice (some ⟨w.heap.size, 0, none⟩) l.length (bcap w l)) l bs g n (bconv w l) (hw.keep (bconv_fr (fun _ => False) w l) (fun _ _ f => f) (fun _ _ f => f)) (bconv_sl w l hl) (Or.inr fun k hk hs => by
    have : w.heap.size = k := by simpa [Value.ownBlock] using hk
    have := hb k hs
    omega)
  have hfin : ∀ w', WTo pv (bconv w l) g w' (bs ++ rawS l) n → WTo pv w g w' (bs ++ rawS l) n := fun w' h => WTo.trans (bconv_fr _ w l) (Or.inl rfl) h
  clear hw hb
  go_enter Tryz.func16, Tryz.ntmps16
  go_wp2_with (go_at_call 37; refine kr.mono ?_; rintro e w' ⟨rfl, hto⟩)
  go_end0
  exact ⟨rfl, hfin _ hto⟩
end Go.Proofs.YtpjahcncknccdaaGreat.Wi
