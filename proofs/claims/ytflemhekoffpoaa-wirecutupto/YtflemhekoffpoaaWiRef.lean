/- The document's bytes of single values. -/
import Derived.Test.YtflemhekoffpoaaWiOw
import Derived.Test.YtflemhekoffpoaaWiR
namespace Go.Proofs.Ytflemhekoffpoaa
open Go.RowKit
set_option linter.unusedSimpArgs false
set_option linter.unusedVariables false

/-- New bytes. -/
def Made (w w' : World) (v : Value) (l : List UInt8) : Prop := Ow w' w.heap.size v (bc l) ∧ Fr (fun _ => False) w w'

theorem Ow.cut {w : World} {B : Nat} {ao : Option Addr} {len cap : Nat} {l : List UInt8} (h : Ow w B (.slice ao len cap) (bc l)) (n : Nat) (hn : n ≤ len) : Ow w B (.slice (if cap = n then ao else ao.map fun a => a.add n) (len - n) (cap - n)) (bc (l.drop n)) := by
  rw [bc_drop]
  exact h.drop (fun n hn => h.1.drop n hn) n hn
theorem Fr.over {T : Nat → Prop} {a b c : World} (h : Fr (fun _ => False) a b) (g : Fr T b c) (hT : ∀ k, T k → a.heap.size ≤ k) : Fr (fun _ => False) a c :=
  h.trans g (fun k hk t => by have := hT k t; omega)
theorem Ow.shape {w : World} {B : Nat} {v : Value} {l : List UInt8} (h : Ow w B v (bc l)) : ∃ ao cap, v = .slice ao l.length cap ∧ l.length ≤ cap ∧ cap ≤ 9223372036854775807 := by
  obtain ⟨⟨ao, cap, e, h1, h2, _⟩, _⟩ := h
  rw [bc_length] at *
  exact ⟨ao, cap, e, h1, by unfold maxLen at h2; omega⟩

set_option maxHeartbeats 1000000 in
theorem rlong_any (N : Nat) (w : World) (hN : N < 18446744073709551616) :
    Calls Try.prog 35 #[.int .u64 (N : Int)] w fun e w' => ∃ ao cap, e = .returned (.slice ao 8 cap) ∧ 8 ≤ cap ∧ cap ≤ 9223372036854775807 ∧ Made w w' (.slice ao 8 cap) (beS N 8) := by
  go_enter Try.func35, Try.ntmps35
  go_wp2
  go_loopg [3, 4] 8 (fun k ov iv wr => iv = .int .i64 (8 * ((k : Int) - 1)) ∧ k ≤ 8 ∧ ∃ pre, Made w wr ov pre ∧ pre ++ beS N k = beS N 8)
  case atStart => exact ⟨rfl, by omega, [], ⟨Ow.nil _ _, Fr.refl _ _⟩, rfl⟩
  case round =>
    obtain ⟨rfl, hk, pre, hm, hpre⟩ := hrel
    have hH : Hidden (Made w wr u3 pre ∧ pre ++ beS N gk = beS N 8) := ⟨hm, hpre⟩
    have hplen : pre.length + gk = 8 := by
      have := congrArg List.length hpre
      simpa using this
    obtain ⟨ao, cap, rfl, hlc, hcm⟩ := hm.1.shape
    clear hm hpre
    cases gk with
    | zero =>
      obtain ⟨hm, hpre⟩ := hH
      have hp : pre = beS N 8 := (List.append_nil pre).symm.trans hpre
      have hfin : Hidden (∃ ao' cap', Value.slice ao pre.length cap = .slice ao' 8 cap' ∧ 8 ≤ cap' ∧ cap' ≤ 9223372036854775807 ∧ Made w wr (.slice ao' 8 cap') (beS N 8)) := by
        rw [← hp]
        have h8 : pre.length = 8 := by omega
        rw [h8] at hm ⊢
        exact ⟨ao, cap, rfl, by omega, hcm, hm⟩
      clear hm hpre hplen hp
      go_wp2
      go_ret
      obtain ⟨ao', cap', e1, h⟩ := hfin
      exact ⟨ao', cap', by rw [← e1]; rfl, h⟩
    | succ k =>
      obtain ⟨hm, hpre⟩ := hH
      have hc : Hidden (bc [UInt8.ofNat (N / 2 ^ (8 * k))] = [.int .u8 ((N : Int) / 2 ^ (8 * k) % 256)]) := by
        show bc [UInt8.ofNat (N / 2 ^ (8 * k))] = [.int .u8 ((N : Int) / 2 ^ (8 * k) % 256)]
        simp [bc]
      have hmH : Hidden (Made w wr (.slice ao pre.length cap) pre ∧ pre ++ beS N (k + 1) = beS N 8) := ⟨hm, hpre⟩
      have hsz := hm.2.size
      clear hm hpre
      go_wp2_with (at_builtin; refine wpList_append_ow rfl _ _ rfl w.heap.size _ _ pre [UInt8.ofNat (N / 2 ^ (8 * k))] rfl ?q1 rfl ?q2 ?q3 ?q4 ?_)
      case q1 => exact hmH.1.1.keep (Fr.alloc (fun _ => False) _ _) (fun _ _ f => f)
      case q2 => rw [show bc [UInt8.ofNat (N / 2 ^ (8 * k))] = _ from hc]; exact Sl.one _ _ _
      case q3 => simp; omega
      case q4 => simp; omega
      intro v' w1 ho hf hw
      have hfin : Hidden (Made w w1 v' (pre ++ [UInt8.ofNat (N / 2 ^ (8 * k))])) := by
        refine ⟨ho, (hmH.1.2.same (Fr.alloc _ _ _)).over hf (fun k hk => (hmH.1.1.own k hk).1)⟩
      clear ho hf hw
      go_wp2
      go_roundg k
      case measure => omega
      case rel => exact ⟨by go_num, by omega, _, hfin, by rw [List.append_assoc]; exact hmH.2⟩

set_option maxHeartbeats 400000 in
theorem rint_any (x : Int) (w : World) :
    Calls Try.prog 34 #[.int .i64 x] w fun e w' => ∃ v, e = .returned v ∧ Made w w' v (i31 x) := by
  have e31 := and31 x
  have hm : u64 x % 2147483648 < 2147483648 := Nat.mod_lt _ (by omega)
  have kl := rlong_any (u64 x % 2147483648) w (by omega)
  clear hm
  go_enter Try.func34, Try.ntmps34
  go_wp2_with (go_at_call 35; refine kl.mono ?_; rintro e w1 ⟨ao, cap, rfl, h1, h2, hmd⟩)
  go_ret
  refine ⟨_, rfl, ?_, hmd.2⟩
  have := hmd.1.cut 4 (by omega)
  rw [if_neg (by omega)] at this
  exact this
theorem rshort_any (x : Int) (w : World) :
    Calls Try.prog 33 #[.int .i64 x] w fun e w' => ∃ v, e = .returned v ∧ Made w w' v (beS (u64 x) 2) := by
  have kl := rlong_any (u64 x) w (u64_lt x)
  rw [show ((u64 x : Nat) : Int) = x % 18446744073709551616 by unfold u64; omega] at kl
  go_enter Try.func33, Try.ntmps33
  go_wp2_with (go_at_call 35; refine kl.mono ?_; rintro e w1 ⟨ao, cap, rfl, h1, h2, hmd⟩)
  go_ret
  refine ⟨_, rfl, ?_, hmd.2⟩
  have := hmd.1.cut 6 (by omega)
  rw [if_neg (by omega)] at this
  exact this
theorem Made.one (w : World) (c : UInt8) : Made w (w.alloc (.cells #[.int .u8 (c.toNat : Int)] 5)) (.slice (some ⟨w.heap.size, 0, none⟩) 1 1) [c] := by
  refine ⟨Ow.of_own (n := 1) ⟨by simp, Or.inr ⟨w.heap.size, 1, _, rfl, Nat.le_refl _, alloc_new w _, by omega, by simp [maxLen], by simp, by simp [bc]⟩⟩, Fr.alloc _ _ _⟩
theorem rbool_any (b : Bool) (w : World) :
    Calls Try.prog 32 #[.bool b] w fun e w' => ∃ v, e = .returned v ∧ Made w w' v [if b then 1 else 0] := by
  cases b
  · go_enter Try.func32, Try.ntmps32
    go_wp2
    go_ret
    exact ⟨_, rfl, Made.one w 0⟩
  · go_enter Try.func32, Try.ntmps32
    go_wp2
    go_ret
    exact ⟨_, rfl, Made.one w 1⟩
end Go.Proofs.Ytflemhekoffpoaa
