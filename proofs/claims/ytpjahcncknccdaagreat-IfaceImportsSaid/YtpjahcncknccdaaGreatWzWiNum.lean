/- Numbers written byte by byte. -/
import Derived.Test.YtpjahcncknccdaaGreatWzWiPut
namespace Go.Proofs.YtpjahcncknccdaaGreat.Wi
open Go.RowKit
set_option linter.unusedSimpArgs false
set_option linter.unusedVariables false
set_option maxRecDepth 20000

/-- The lowest k bytes of a number, the highest first. -/
def beS (n : Nat) : Nat → List UInt8
  | 0 => []
  | k + 1 => UInt8.ofNat (n / 2 ^ (8 * k)) :: beS n k
@[simp] theorem beS_length (n k : Nat) : (beS n k).length = k := by induction k with
  | zero => rfl
  | succ k ih => simp [beS, ih]

theorem Sl.one (w : World) (x : Value) (t : TypeId) : Sl (w.alloc (.cells #[x] t)) (.slice (some ⟨w.heap.size, 0, none⟩) 1 1) [x] := by
  refine ⟨some ⟨w.heap.size, 0, none⟩, 1, rfl, by simp, by simp [maxLen], (fun h => by cases h), Or.inr ⟨w.heap.size, 0, rfl, fun i y hy => ?_⟩⟩
  obtain ⟨hi, hh⟩ := List.getElem?_eq_some_iff.1 hy
  obtain rfl : i = 0 := by simp at hi; omega
  have hx : x = y := by simpa using hh
  subst hx
  rw [Nat.zero_add, cell_of_row _ w.heap.size 0 #[x] t (0, 0) (alloc_new _ _)]
  rfl

set_option maxHeartbeats 400000 in
theorem putNumber_any (pv : Value) (N size : Nat) (bs : List UInt8) (g : Option Nat) (n : Nat) (w : World) (hN : N < 18446744073709551616) (hs : size ≤ 8) (hw : WrO pv w bs g (size + n)) :
    Calls Tryz.prog 38 #[pv, .int .u64 (N : Int), .int .i64 (size : Int)] w fun e w' => e = .returned (.tuple #[]) ∧ WTo pv w g w' (bs ++ beS N size) n := by
  have hwH : Hidden (WrO pv w bs g (size + n)) := hw
  clear hw
  go_enter Tryz.func38, Tryz.ntmps38
  go_wp2
  go_loopg [6] size (fun k b wr => b = .int .i64 ((k : Int) - 1) ∧ k ≤ size ∧ ∃ pre, WTo pv w g wr (bs ++ pre) (k + n) ∧ pre ++ beS N k = beS N size)
  case atStart => 
    exact ⟨rfl, Nat.le_refl _, [], by rw [List.append_nil]; exact WTo.refl hwH, rfl⟩
  case round =>
    obtain ⟨rfl, hk, pre, hto, hpre⟩ := hrel
    have hH : Hidden (WTo pv w g wr (bs ++ pre) (gk + n) ∧ pre ++ beS N gk = beS N size) := ⟨hto, hpre⟩
    clear hto hpre
    cases gk with
    | zero =>
      go_wp2
      go_end0
      obtain ⟨hto, hpre⟩ := hH
      simp only [beS, List.append_nil] at hpre
      subst hpre
      exact ⟨rfl, by simpa using hto⟩
    | succ k =>
      obtain ⟨⟨g1, ho, hf, hg⟩, hpre⟩ := id hH
      have kp := put_any pv (.slice (some ⟨wr.heap.size, 0, none⟩) 1 1) (bs ++ pre) [UInt8.ofNat (N / 2 ^ (8 * k))] g1 (k + n) (wr.alloc (.cells #[.int .u8 ((N : Int) / 2 ^ (8 * k) % 256)] 5))
        ((by simpa [Nat.add_comm, Nat.add_left_comm, Nat.add_assoc] using ho : WrO pv wr (bs ++ pre) g1 ([UInt8.ofNat (N / 2 ^ (8 * k))].length + (k + n))).alloc _) (by
          have e : bc [UInt8.ofNat (N / 2 ^ (8 * k))] = [.int .u8 ((N : Int) / 2 ^ (8 * k) % 256)] := by
            simp [bc]
          rw [e]; exact Sl.one _ _ _)
      clear ho hpre
      have hfH : Hidden (Fr (fun k => pblk pv = some k ∨ g = some k) w wr ∧ (g1 = g ∨ ∃ k, g1 = some k ∧ w.heap.size ≤ k)) := ⟨hf, hg⟩
      clear hf hg
      go_wp2_with (go_at_call 70; refine kp.mono ?_; rintro e w' ⟨rfl, hto⟩)
      go_roundg k
      case measure => omega
      case rel =>
        obtain ⟨hf, hg⟩ := hfH
        obtain ⟨_, hpre⟩ := hH
        refine ⟨by go_num, by omega, pre ++ [UInt8.ofNat (N / 2 ^ (8 * k))], ?_, by rw [← hpre, beS]; simp⟩
        rw [← List.append_assoc]
        exact WTo.trans hf hg hto.of_alloc
end Go.Proofs.YtpjahcncknccdaaGreat.Wi
