/- What the document's Text answers, for any bits: the same. -/
import Derived.Test.YtfegnjpajflnkaaDoorText
namespace Go.Proofs.YtfegnjpajflnkaaDoor
open Go.RowKit Fl
set_option linter.unusedSimpArgs false
set_option linter.unusedVariables false

/-- On the way to the normal form: j places done of S. -/
def Nm (NR S j m : Nat) : Prop := j ≤ S ∧ m * 2 ^ (S - j) = NR
theorem Nm.last {NR S m : Nat} (h : Nm NR S S m) : m = NR := by
  have := h.2
  rwa [Nat.sub_self, Nat.pow_zero, Nat.mul_one] at this
theorem Nm.step {NR S j m : Nat} (h : Nm NR S j m) (hj : j < S) : m * 2 ≤ NR ∧ Nm NR S (j + 1) (m * 2) := by
  have h2 := h.2
  rw [show S - j = (S - (j + 1)) + 1 by omega, Nat.pow_succ, Nat.mul_comm (2 ^ _), ← Nat.mul_assoc] at h2
  refine ⟨?_, by omega, h2⟩
  rw [← h2]
  exact Nat.le_mul_of_pos_right _ (Nat.two_pow_pos _)

def slen : Value → Nat
  | .string s => s.size
  | _ => 0

theorem hex_slice (d : Nat) (h : d < 16) (w : World) : (Instr.slice 9 (.string ⟨#[48, 49, 50, 51, 52, 53, 54, 55, 56, 57, 97, 98, 99, 100, 101, 102]⟩) (some (.int .u64 (d : Int))) (some (.int .u64 ((d : Int) + 1))) none).run Tryd.prog w = .ok (.string ⟨#[hexdig d]⟩) w := by
  have : d = 0 ∨ d = 1 ∨ d = 2 ∨ d = 3 ∨ d = 4 ∨ d = 5 ∨ d = 6 ∨ d = 7 ∨ d = 8 ∨ d = 9 ∨ d = 10 ∨ d = 11 ∨ d = 12 ∨ d = 13 ∨ d = 14 ∨ d = 15 := by omega
  rcases this with rfl | rfl | rfl | rfl | rfl | rfl | rfl | rfl | rfl | rfl | rfl | rfl | rfl | rfl | rfl | rfl <;> (show _ = _) <;> kernel_rfl

theorem rtext_small (a c : Int) (ha : U a) (hc : classS a = c) (h3 : c = 1 ∨ c = 2 ∨ c = 3) (w : World) :
    Calls Tryd.prog 22 #[.int .u64 a] w fun r w' => r = .returned (.string ⟨(textS a).toArray⟩) ∧ Kb w w' := by
  have k2 := rclass_is a c hc ha
  have hs := sign_bit a ha
  unfold textS
  rw [hc]
  by_cases sg : 9223372036854775808 ≤ a
  · rw [decide_eq_true sg] at hs
    rcases h3 with h3 | h3 | h3
    · rw [show partN a = false by simp [partN, hc, h3]]
      subst h3
      go_enter Tryd.func22, Tryd.ntmps22
      go_wp2_with (go_at_call 16; refine (k2 _).mono ?_; rintro e w' ⟨rfl, rfl⟩)
      go_ret
      exact ⟨rfl, Kb.refl _⟩
    all_goals
      rw [show partN a = true by simp [partN, hc, h3, sg]]
      subst h3
      go_enter Tryd.func22, Tryd.ntmps22
      go_wp2_with (go_at_call 16; refine (k2 _).mono ?_; rintro e w' ⟨rfl, rfl⟩)
      go_ret
      exact ⟨rfl, Kb.refl _⟩
  · rw [decide_eq_false sg] at hs
    rcases h3 with h3 | h3 | h3
    all_goals
      rw [show partN a = false by simp [partN, hc, h3, sg]]
      subst h3
      go_enter Tryd.func22, Tryd.ntmps22
      go_wp2_with (go_at_call 16; refine (k2 _).mono ?_; rintro e w' ⟨rfl, rfl⟩)
      go_ret
      exact ⟨rfl, Kb.refl _⟩

/-- An equation that the walk shall not take for a rule. -/
def Hidden (p : Prop) : Prop := p

theorem ends_eq {a F : Nat} {sl p q l : List UInt8} (hF : Hidden (a = F)) (h : Hidden (sl ++ (p ++ fracL F ++ [112] ++ q) = l)) : l = sl ++ (p ++ fracL a ++ [112] ++ q) := by
  have h1 : a = F := hF
  rw [h1]
  exact h.symm

theorem fin_neg (sl P1 l fr ds : List UInt8) (h : P1 = sl ++ [48, 120, 49]) (hl : l = P1 ++ fr) : sl ++ ([48, 120, 49] ++ fr ++ [112] ++ (45 :: ds)) = (l ++ [112, 45]) ++ ds := by subst hl; subst h; simp
theorem fin_pos (sl P1 l fr ds : List UInt8) (h : P1 = sl ++ [48, 120, 49]) (hl : l = P1 ++ fr) : sl ++ ([48, 120, 49] ++ fr ++ [112] ++ (43 :: ds)) = (l ++ [112, 43]) ++ ds := by subst hl; subst h; simp

theorem shl12n (NR : Nat) : IntKind.u64.wrap ((NR : Int) * 4096) = ((NR % 4503599627370496 : Nat) : Int) * 4096 := by rw [IntKind.wrap_u64]; omega

set_option maxRecDepth 20000 in
set_option maxHeartbeats 4000000 in
theorem rtext_pos (a c m e : Int) (NR S : Nat) (sl P1 : List UInt8) (hslv : sl = []) (hP1 : P1 = sl ++ [48, 120, 49]) (ha : U a) (hc : classS a = c) (h3 : c = 4 ∨ c = 5) (hsb : (a / 9223372036854775808 == 1) = false) (hpn : partN a = false) (hpm : partM a = m) (hpe : partE a = e)
    (hm0 : 0 < m) (hm : m < 9007199254740992) (he0 : -1074 ≤ e) (he1 : e ≤ 971) (hS : S ≤ 52) (hN0 : 4503599627370496 ≤ NR) (hN1 : NR < 9007199254740992) (hnm : Nm NR S 0 m.toNat) (w : World) :
    Calls Tryd.prog 22 #[.int .u64 a] w fun r w' => r = .returned (.string ⟨(sl ++ ([48, 120, 49] ++ fracL (NR % 4503599627370496) ++ [112] ++ expL (e - (S : Nat) + 52))).toArray⟩) ∧ Kb w w' := by
  have k2 := rclass_is a c hc ha
  have kp := rparts_any a ha
  rw [hpn, hpm, hpe] at kp
  have hc1 : (c == 1) = false := by simp; omega
  have hc2 : (c == 2) = false := by simp; omega
  have hc3 : (c == 3) = false := by simp; omega
  have hslen : P1.length ≤ 4 := by rw [hP1, hslv]; simp
  have hA0 : ∀ W : World, (Op.stringOp .add ⟨([] : List UInt8).toArray⟩ ⟨([48, 120, 49] : List UInt8).toArray⟩).run Tryd.prog W = .ok (.string ⟨P1.toArray⟩) W := by
    intro W
    rw [hP1, hslv]
    exact run_string_add_lists W [] [48, 120, 49] (by simp) (by simp)
  clear ha hc hpn hpm hpe h3
  go_enter Tryd.func22, Tryd.ntmps22
  go_wp2_with (first
    | (go_at_call 16; refine (k2 _).mono ?_; rintro e w' ⟨rfl, rfl⟩)
    | (go_at_call 10; refine (kp _).mono ?_; rintro e w' ⟨rfl, rfl⟩))
  clear k2 kp
  go_loop [5, 6] (fun mv ev => ∃ j m' : Nat, mv = .int .u64 (m' : Int) ∧ ev = .int .i64 (e - j) ∧ Nm NR S j m') (fun _ ev => (intOf ev + 2000).toNat)
  case atStart => exact ⟨0, m.toNat, by rw [Int.toNat_of_nonneg (by omega)], by simp, hnm⟩
  case round =>
    obtain ⟨j, m', rfl, rfl, hn⟩ := hrel
    by_cases hj : j < S
    · obtain ⟨hle, hn'⟩ := hn.step hj
      have t : ((m' : Int) / 4503599627370496 == 0) = true := by simp; omega
      go_wp2
      go_round
      case rel => exact ⟨j + 1, m' * 2, by go_num, by go_num, hn'⟩
      case measure => simp [intOf]; omega
    · obtain rfl : j = S := by have := hn.1; omega
      obtain rfl : m' = NR := hn.last
      have t : ((m' : Int) / 4503599627370496 == 0) = false := by simp; omega
      have hs12 := shl12n m'
      have hFb : m' % 4503599627370496 < 4503599627370496 := by omega
      clear hn hnm hj
      generalize hFd0 : m' % 4503599627370496 = F at *
      have hFd : Hidden (m' % 4503599627370496 = F) := hFd0
      clear hFd0
      have hP : Hidden (P1 = sl ++ [48, 120, 49]) := hP1
      have hV : Hidden (sl = []) := hslv
      clear hP1 hslv
      by_cases hF : F = 0
      · have hs0 : IntKind.u64.wrap ((m' : Int) * 4096) = 0 := by rw [hs12, hF]; rfl
        clear hs12
        have hFH : Hidden (F = 0) := hF
        clear hF
        go_wp2
        go_loop [3, 5] (fun sv mv => ∃ (k f' : Nat) (l : List UInt8), sv = .string ⟨l.toArray⟩ ∧ mv = .int .u64 ((f' : Int) * 4096) ∧ k ≤ 13 ∧ l.length = P1.length + 0 + k ∧ f' < 4503599627370496 ∧ f' % 16 ^ k = 0 ∧ l ++ hexF (13 - k) f' = P1 ++ fracL F)
          (fun sv _ => 100 - slen sv)
        case atStart =>
          have hF : F = 0 := hFH
          exact ⟨0, 0, P1, by rw [show P1 = _ from hP, show sl = _ from hV], by simp, by omega, by simp, by omega, by omega, by simp [fracL, hexF_zero, hF]⟩
        case round =>
          obtain ⟨k, f', l, rfl, rfl, hk, hll, hf', hmod, hl⟩ := hrel
          by_cases hz : f' = 0
          · subst hz
            rw [hexF_zero, List.append_nil] at hl
            have hlH : Hidden (l = P1 ++ fracL F) := hl
            clear hl
            have hz0 : ((0 : Nat) : Int) * 4096 = 0 := by omega
            rw [hz0]
            clear hmod hf' hA0
            -- the end: the exponent
            by_cases hneg : e - (j : Nat) + 52 < 0
            · have kd := decimal_any (e - (j : Nat) + 52).natAbs (by omega)
              rw [show (((e - (j : Nat) + 52).natAbs : Nat) : Int) = -(e - (j : Nat) + 52) by omega] at kd
              have hds := decDigits_len (e - (j : Nat) + 52).natAbs
              have hend : Hidden (sl ++ ([48, 120, 49] ++ fracL F ++ [112] ++ expL (e - (j : Nat) + 52)) = (l ++ [112, 45]) ++ Lib.decDigits (e - (j : Nat) + 52).natAbs) := by show _ = _; rw [show expL (e - (j : Nat) + 52) = 45 :: Lib.decDigits (e - (j : Nat) + 52).natAbs by simp [expL, hneg]]; exact fin_neg sl P1 l (fracL F) _ hP hlH
              generalize Lib.decDigits (e - (j : Nat) + 52).natAbs = ds at *
              have hD := fun W : World => run_string_add_lists (P := Tryd.prog) W l [112, 45] (by omega) (by simp)
              have hE := fun W : World => run_string_add_lists (P := Tryd.prog) W (l ++ [112, 45]) ds (by simp; omega) (by omega)
              generalize (l ++ ([112, 45] : List UInt8)) = l2 at *
              generalize l2 ++ ds = l3 at *
              go_wp2_with (go_at_call 51; refine (kd _).mono ?_; rintro e w' ⟨rfl, g⟩)
              go_ret
              exact ⟨congrArg (fun z : List UInt8 => Ending.returned (.string ⟨z.toArray⟩)) (ends_eq hFd hend), Kb.of_grown g⟩
            · have kd := decimal_any (e - (j : Nat) + 52).toNat (by omega)
              rw [show (((e - (j : Nat) + 52).toNat : Nat) : Int) = e - (j : Nat) + 52 by omega] at kd
              have hds := decDigits_len (e - (j : Nat) + 52).toNat
              have hend : Hidden (sl ++ ([48, 120, 49] ++ fracL F ++ [112] ++ expL (e - (j : Nat) + 52)) = (l ++ [112, 43]) ++ Lib.decDigits (e - (j : Nat) + 52).toNat) := by show _ = _; rw [show expL (e - (j : Nat) + 52) = 43 :: Lib.decDigits (e - (j : Nat) + 52).toNat by simp [expL, hneg]]; exact fin_pos sl P1 l (fracL F) _ hP hlH
              generalize Lib.decDigits (e - (j : Nat) + 52).toNat = ds at *
              have hD := fun W : World => run_string_add_lists (P := Tryd.prog) W l [112, 43] (by omega) (by simp)
              have hE := fun W : World => run_string_add_lists (P := Tryd.prog) W (l ++ [112, 43]) ds (by simp; omega) (by omega)
              generalize (l ++ ([112, 43] : List UInt8)) = l2 at *
              generalize l2 ++ ds = l3 at *
              go_wp2_with (go_at_call 51; refine (kd _).mono ?_; rintro e w' ⟨rfl, g⟩)
              go_ret
              exact ⟨congrArg (fun z : List UInt8 => Ending.returned (.string ⟨z.toArray⟩)) (ends_eq hFd hend), Kb.of_grown g⟩
          · have hk13 := pow16_13 k hk f' hf' hmod hz
            have hnz : ((f' : Int) * 4096 != 0) = true := by simp; omega
            have hd : f' / 281474976710656 < 16 := by omega
            have hsl := hex_slice (f' / 281474976710656) hd
            have ed : (f' : Int) * 4096 / 1152921504606846976 = ((f' / 281474976710656 : Nat) : Int) := by omega
            have es : IntKind.u64.wrap ((f' : Int) * 4096 * 16) = ((f' % 281474976710656 * 16 : Nat) : Int) * 4096 := by rw [IntKind.wrap_u64]; omega
            have hmod' := pow16 k hk13 f' hf' hmod
            have hl' : (l ++ [hexdig (f' / 281474976710656)]) ++ hexF (13 - (k + 1)) (f' % 281474976710656 * 16) = P1 ++ fracL F := by
              rw [← hl, show 13 - k = (13 - (k + 1)) + 1 by omega, hexF, if_neg hz, List.append_assoc]
              rfl
            have hC := fun W : World => run_string_add_lists (P := Tryd.prog) W l [hexdig (f' / 281474976710656)] (by omega) (by simp)
            have hfb : f' % 281474976710656 * 16 < 4503599627370496 := by omega
            generalize hexdig (f' / 281474976710656) = ch at *
            generalize f' % 281474976710656 * 16 = f2 at *
            generalize f' / 281474976710656 = d at *
            clear hl hmod hA0
            go_wp2
            go_round
            case rel => exact ⟨k + 1, f2, l ++ [ch], rfl, by go_num, by omega, by simp; omega, hfb, hmod', hl'⟩
            case measure => simp [slen, ByteArray.size]; omega
      · have hne : ((F : Int) * 4096 != 0) = true := by simp; omega
        have hB := fun W : World => run_string_add_lists (P := Tryd.prog) W P1 [46] (by omega) (by simp)
        go_wp2
        go_loop [3, 5] (fun sv mv => ∃ (k f' : Nat) (l : List UInt8), sv = .string ⟨l.toArray⟩ ∧ mv = .int .u64 ((f' : Int) * 4096) ∧ k ≤ 13 ∧ l.length = P1.length + 1 + k ∧ f' < 4503599627370496 ∧ f' % 16 ^ k = 0 ∧ l ++ hexF (13 - k) f' = P1 ++ fracL F)
          (fun sv _ => 100 - slen sv)
        case atStart => exact ⟨0, F, P1 ++ [46], by rw [show P1 = _ from hP, show sl = _ from hV], by simp, by omega, by simp, by omega, by omega, by simp [fracL, hexF_zero, hF]⟩
        case round =>
          obtain ⟨k, f', l, rfl, rfl, hk, hll, hf', hmod, hl⟩ := hrel
          by_cases hz : f' = 0
          · subst hz
            rw [hexF_zero, List.append_nil] at hl
            have hlH : Hidden (l = P1 ++ fracL F) := hl
            clear hl
            have hz0 : ((0 : Nat) : Int) * 4096 = 0 := by omega
            rw [hz0]
            clear hmod hf' hA0
            -- the end: the exponent
            by_cases hneg : e - (j : Nat) + 52 < 0
            · have kd := decimal_any (e - (j : Nat) + 52).natAbs (by omega)
              rw [show (((e - (j : Nat) + 52).natAbs : Nat) : Int) = -(e - (j : Nat) + 52) by omega] at kd
              have hds := decDigits_len (e - (j : Nat) + 52).natAbs
              have hend : Hidden (sl ++ ([48, 120, 49] ++ fracL F ++ [112] ++ expL (e - (j : Nat) + 52)) = (l ++ [112, 45]) ++ Lib.decDigits (e - (j : Nat) + 52).natAbs) := by show _ = _; rw [show expL (e - (j : Nat) + 52) = 45 :: Lib.decDigits (e - (j : Nat) + 52).natAbs by simp [expL, hneg]]; exact fin_neg sl P1 l (fracL F) _ hP hlH
              generalize Lib.decDigits (e - (j : Nat) + 52).natAbs = ds at *
              have hD := fun W : World => run_string_add_lists (P := Tryd.prog) W l [112, 45] (by omega) (by simp)
              have hE := fun W : World => run_string_add_lists (P := Tryd.prog) W (l ++ [112, 45]) ds (by simp; omega) (by omega)
              generalize (l ++ ([112, 45] : List UInt8)) = l2 at *
              generalize l2 ++ ds = l3 at *
              go_wp2_with (go_at_call 51; refine (kd _).mono ?_; rintro e w' ⟨rfl, g⟩)
              go_ret
              exact ⟨congrArg (fun z : List UInt8 => Ending.returned (.string ⟨z.toArray⟩)) (ends_eq hFd hend), Kb.of_grown g⟩
            · have kd := decimal_any (e - (j : Nat) + 52).toNat (by omega)
              rw [show (((e - (j : Nat) + 52).toNat : Nat) : Int) = e - (j : Nat) + 52 by omega] at kd
              have hds := decDigits_len (e - (j : Nat) + 52).toNat
              have hend : Hidden (sl ++ ([48, 120, 49] ++ fracL F ++ [112] ++ expL (e - (j : Nat) + 52)) = (l ++ [112, 43]) ++ Lib.decDigits (e - (j : Nat) + 52).toNat) := by show _ = _; rw [show expL (e - (j : Nat) + 52) = 43 :: Lib.decDigits (e - (j : Nat) + 52).toNat by simp [expL, hneg]]; exact fin_pos sl P1 l (fracL F) _ hP hlH
              generalize Lib.decDigits (e - (j : Nat) + 52).toNat = ds at *
              have hD := fun W : World => run_string_add_lists (P := Tryd.prog) W l [112, 43] (by omega) (by simp)
              have hE := fun W : World => run_string_add_lists (P := Tryd.prog) W (l ++ [112, 43]) ds (by simp; omega) (by omega)
              generalize (l ++ ([112, 43] : List UInt8)) = l2 at *
              generalize l2 ++ ds = l3 at *
              go_wp2_with (go_at_call 51; refine (kd _).mono ?_; rintro e w' ⟨rfl, g⟩)
              go_ret
              exact ⟨congrArg (fun z : List UInt8 => Ending.returned (.string ⟨z.toArray⟩)) (ends_eq hFd hend), Kb.of_grown g⟩
          · have hk13 := pow16_13 k hk f' hf' hmod hz
            have hnz : ((f' : Int) * 4096 != 0) = true := by simp; omega
            have hd : f' / 281474976710656 < 16 := by omega
            have hsl := hex_slice (f' / 281474976710656) hd
            have ed : (f' : Int) * 4096 / 1152921504606846976 = ((f' / 281474976710656 : Nat) : Int) := by omega
            have es : IntKind.u64.wrap ((f' : Int) * 4096 * 16) = ((f' % 281474976710656 * 16 : Nat) : Int) * 4096 := by rw [IntKind.wrap_u64]; omega
            have hmod' := pow16 k hk13 f' hf' hmod
            have hl' : (l ++ [hexdig (f' / 281474976710656)]) ++ hexF (13 - (k + 1)) (f' % 281474976710656 * 16) = P1 ++ fracL F := by
              rw [← hl, show 13 - k = (13 - (k + 1)) + 1 by omega, hexF, if_neg hz, List.append_assoc]
              rfl
            have hC := fun W : World => run_string_add_lists (P := Tryd.prog) W l [hexdig (f' / 281474976710656)] (by omega) (by simp)
            have hfb : f' % 281474976710656 * 16 < 4503599627370496 := by omega
            generalize hexdig (f' / 281474976710656) = ch at *
            generalize f' % 281474976710656 * 16 = f2 at *
            generalize f' / 281474976710656 = d at *
            clear hl hmod hA0
            go_wp2
            go_round
            case rel => exact ⟨k + 1, f2, l ++ [ch], rfl, by go_num, by omega, by simp; omega, hfb, hmod', hl'⟩
            case measure => simp [slen, ByteArray.size]; omega

set_option maxRecDepth 20000 in
set_option maxHeartbeats 4000000 in
theorem rtext_neg (a c m e : Int) (NR S : Nat) (sl P1 : List UInt8) (hslv : sl = [45]) (hP1 : P1 = sl ++ [48, 120, 49]) (ha : U a) (hc : classS a = c) (h3 : c = 4 ∨ c = 5) (hsb : (a / 9223372036854775808 == 1) = true) (hpn : partN a = true) (hpm : partM a = m) (hpe : partE a = e)
    (hm0 : 0 < m) (hm : m < 9007199254740992) (he0 : -1074 ≤ e) (he1 : e ≤ 971) (hS : S ≤ 52) (hN0 : 4503599627370496 ≤ NR) (hN1 : NR < 9007199254740992) (hnm : Nm NR S 0 m.toNat) (w : World) :
    Calls Tryd.prog 22 #[.int .u64 a] w fun r w' => r = .returned (.string ⟨(sl ++ ([48, 120, 49] ++ fracL (NR % 4503599627370496) ++ [112] ++ expL (e - (S : Nat) + 52))).toArray⟩) ∧ Kb w w' := by
  have k2 := rclass_is a c hc ha
  have kp := rparts_any a ha
  rw [hpn, hpm, hpe] at kp
  have hc1 : (c == 1) = false := by simp; omega
  have hc2 : (c == 2) = false := by simp; omega
  have hc3 : (c == 3) = false := by simp; omega
  have hslen : P1.length ≤ 4 := by rw [hP1, hslv]; simp
  have hA0 : ∀ W : World, (Op.stringOp .add ⟨([45] : List UInt8).toArray⟩ ⟨([48, 120, 49] : List UInt8).toArray⟩).run Tryd.prog W = .ok (.string ⟨P1.toArray⟩) W := by
    intro W
    rw [hP1, hslv]
    exact run_string_add_lists W [45] [48, 120, 49] (by simp) (by simp)
  clear ha hc hpn hpm hpe h3
  go_enter Tryd.func22, Tryd.ntmps22
  go_wp2_with (first
    | (go_at_call 16; refine (k2 _).mono ?_; rintro e w' ⟨rfl, rfl⟩)
    | (go_at_call 10; refine (kp _).mono ?_; rintro e w' ⟨rfl, rfl⟩))
  clear k2 kp
  go_loop [5, 6] (fun mv ev => ∃ j m' : Nat, mv = .int .u64 (m' : Int) ∧ ev = .int .i64 (e - j) ∧ Nm NR S j m') (fun _ ev => (intOf ev + 2000).toNat)
  case atStart => exact ⟨0, m.toNat, by rw [Int.toNat_of_nonneg (by omega)], by simp, hnm⟩
  case round =>
    obtain ⟨j, m', rfl, rfl, hn⟩ := hrel
    by_cases hj : j < S
    · obtain ⟨hle, hn'⟩ := hn.step hj
      have t : ((m' : Int) / 4503599627370496 == 0) = true := by simp; omega
      go_wp2
      go_round
      case rel => exact ⟨j + 1, m' * 2, by go_num, by go_num, hn'⟩
      case measure => simp [intOf]; omega
    · obtain rfl : j = S := by have := hn.1; omega
      obtain rfl : m' = NR := hn.last
      have t : ((m' : Int) / 4503599627370496 == 0) = false := by simp; omega
      have hs12 := shl12n m'
      have hFb : m' % 4503599627370496 < 4503599627370496 := by omega
      clear hn hnm hj
      generalize hFd0 : m' % 4503599627370496 = F at *
      have hFd : Hidden (m' % 4503599627370496 = F) := hFd0
      clear hFd0
      have hP : Hidden (P1 = sl ++ [48, 120, 49]) := hP1
      have hV : Hidden (sl = [45]) := hslv
      clear hP1 hslv
      by_cases hF : F = 0
      · have hs0 : IntKind.u64.wrap ((m' : Int) * 4096) = 0 := by rw [hs12, hF]; rfl
        clear hs12
        have hFH : Hidden (F = 0) := hF
        clear hF
        go_wp2
        go_loop [3, 5] (fun sv mv => ∃ (k f' : Nat) (l : List UInt8), sv = .string ⟨l.toArray⟩ ∧ mv = .int .u64 ((f' : Int) * 4096) ∧ k ≤ 13 ∧ l.length = P1.length + 0 + k ∧ f' < 4503599627370496 ∧ f' % 16 ^ k = 0 ∧ l ++ hexF (13 - k) f' = P1 ++ fracL F)
          (fun sv _ => 100 - slen sv)
        case atStart =>
          have hF : F = 0 := hFH
          exact ⟨0, 0, P1, by rw [show P1 = _ from hP, show sl = _ from hV], by simp, by omega, by simp, by omega, by omega, by simp [fracL, hexF_zero, hF]⟩
        case round =>
          obtain ⟨k, f', l, rfl, rfl, hk, hll, hf', hmod, hl⟩ := hrel
          by_cases hz : f' = 0
          · subst hz
            rw [hexF_zero, List.append_nil] at hl
            have hlH : Hidden (l = P1 ++ fracL F) := hl
            clear hl
            have hz0 : ((0 : Nat) : Int) * 4096 = 0 := by omega
            rw [hz0]
            clear hmod hf' hA0
            -- the end: the exponent
            by_cases hneg : e - (j : Nat) + 52 < 0
            · have kd := decimal_any (e - (j : Nat) + 52).natAbs (by omega)
              rw [show (((e - (j : Nat) + 52).natAbs : Nat) : Int) = -(e - (j : Nat) + 52) by omega] at kd
              have hds := decDigits_len (e - (j : Nat) + 52).natAbs
              have hend : Hidden (sl ++ ([48, 120, 49] ++ fracL F ++ [112] ++ expL (e - (j : Nat) + 52)) = (l ++ [112, 45]) ++ Lib.decDigits (e - (j : Nat) + 52).natAbs) := by show _ = _; rw [show expL (e - (j : Nat) + 52) = 45 :: Lib.decDigits (e - (j : Nat) + 52).natAbs by simp [expL, hneg]]; exact fin_neg sl P1 l (fracL F) _ hP hlH
              generalize Lib.decDigits (e - (j : Nat) + 52).natAbs = ds at *
              have hD := fun W : World => run_string_add_lists (P := Tryd.prog) W l [112, 45] (by omega) (by simp)
              have hE := fun W : World => run_string_add_lists (P := Tryd.prog) W (l ++ [112, 45]) ds (by simp; omega) (by omega)
              generalize (l ++ ([112, 45] : List UInt8)) = l2 at *
              generalize l2 ++ ds = l3 at *
              go_wp2_with (go_at_call 51; refine (kd _).mono ?_; rintro e w' ⟨rfl, g⟩)
              go_ret
              exact ⟨congrArg (fun z : List UInt8 => Ending.returned (.string ⟨z.toArray⟩)) (ends_eq hFd hend), Kb.of_grown g⟩
            · have kd := decimal_any (e - (j : Nat) + 52).toNat (by omega)
              rw [show (((e - (j : Nat) + 52).toNat : Nat) : Int) = e - (j : Nat) + 52 by omega] at kd
              have hds := decDigits_len (e - (j : Nat) + 52).toNat
              have hend : Hidden (sl ++ ([48, 120, 49] ++ fracL F ++ [112] ++ expL (e - (j : Nat) + 52)) = (l ++ [112, 43]) ++ Lib.decDigits (e - (j : Nat) + 52).toNat) := by show _ = _; rw [show expL (e - (j : Nat) + 52) = 43 :: Lib.decDigits (e - (j : Nat) + 52).toNat by simp [expL, hneg]]; exact fin_pos sl P1 l (fracL F) _ hP hlH
              generalize Lib.decDigits (e - (j : Nat) + 52).toNat = ds at *
              have hD := fun W : World => run_string_add_lists (P := Tryd.prog) W l [112, 43] (by omega) (by simp)
              have hE := fun W : World => run_string_add_lists (P := Tryd.prog) W (l ++ [112, 43]) ds (by simp; omega) (by omega)
              generalize (l ++ ([112, 43] : List UInt8)) = l2 at *
              generalize l2 ++ ds = l3 at *
              go_wp2_with (go_at_call 51; refine (kd _).mono ?_; rintro e w' ⟨rfl, g⟩)
              go_ret
              exact ⟨congrArg (fun z : List UInt8 => Ending.returned (.string ⟨z.toArray⟩)) (ends_eq hFd hend), Kb.of_grown g⟩
          · have hk13 := pow16_13 k hk f' hf' hmod hz
            have hnz : ((f' : Int) * 4096 != 0) = true := by simp; omega
            have hd : f' / 281474976710656 < 16 := by omega
            have hsl := hex_slice (f' / 281474976710656) hd
            have ed : (f' : Int) * 4096 / 1152921504606846976 = ((f' / 281474976710656 : Nat) : Int) := by omega
            have es : IntKind.u64.wrap ((f' : Int) * 4096 * 16) = ((f' % 281474976710656 * 16 : Nat) : Int) * 4096 := by rw [IntKind.wrap_u64]; omega
            have hmod' := pow16 k hk13 f' hf' hmod
            have hl' : (l ++ [hexdig (f' / 281474976710656)]) ++ hexF (13 - (k + 1)) (f' % 281474976710656 * 16) = P1 ++ fracL F := by
              rw [← hl, show 13 - k = (13 - (k + 1)) + 1 by omega, hexF, if_neg hz, List.append_assoc]
              rfl
            have hC := fun W : World => run_string_add_lists (P := Tryd.prog) W l [hexdig (f' / 281474976710656)] (by omega) (by simp)
            have hfb : f' % 281474976710656 * 16 < 4503599627370496 := by omega
            generalize hexdig (f' / 281474976710656) = ch at *
            generalize f' % 281474976710656 * 16 = f2 at *
            generalize f' / 281474976710656 = d at *
            clear hl hmod hA0
            go_wp2
            go_round
            case rel => exact ⟨k + 1, f2, l ++ [ch], rfl, by go_num, by omega, by simp; omega, hfb, hmod', hl'⟩
            case measure => simp [slen, ByteArray.size]; omega
      · have hne : ((F : Int) * 4096 != 0) = true := by simp; omega
        have hB := fun W : World => run_string_add_lists (P := Tryd.prog) W P1 [46] (by omega) (by simp)
        go_wp2
        go_loop [3, 5] (fun sv mv => ∃ (k f' : Nat) (l : List UInt8), sv = .string ⟨l.toArray⟩ ∧ mv = .int .u64 ((f' : Int) * 4096) ∧ k ≤ 13 ∧ l.length = P1.length + 1 + k ∧ f' < 4503599627370496 ∧ f' % 16 ^ k = 0 ∧ l ++ hexF (13 - k) f' = P1 ++ fracL F)
          (fun sv _ => 100 - slen sv)
        case atStart => exact ⟨0, F, P1 ++ [46], by rw [show P1 = _ from hP, show sl = _ from hV], by simp, by omega, by simp, by omega, by omega, by simp [fracL, hexF_zero, hF]⟩
        case round =>
          obtain ⟨k, f', l, rfl, rfl, hk, hll, hf', hmod, hl⟩ := hrel
          by_cases hz : f' = 0
          · subst hz
            rw [hexF_zero, List.append_nil] at hl
            have hlH : Hidden (l = P1 ++ fracL F) := hl
            clear hl
            have hz0 : ((0 : Nat) : Int) * 4096 = 0 := by omega
            rw [hz0]
            clear hmod hf' hA0
            -- the end: the exponent
            by_cases hneg : e - (j : Nat) + 52 < 0
            · have kd := decimal_any (e - (j : Nat) + 52).natAbs (by omega)
              rw [show (((e - (j : Nat) + 52).natAbs : Nat) : Int) = -(e - (j : Nat) + 52) by omega] at kd
              have hds := decDigits_len (e - (j : Nat) + 52).natAbs
              have hend : Hidden (sl ++ ([48, 120, 49] ++ fracL F ++ [112] ++ expL (e - (j : Nat) + 52)) = (l ++ [112, 45]) ++ Lib.decDigits (e - (j : Nat) + 52).natAbs) := by show _ = _; rw [show expL (e - (j : Nat) + 52) = 45 :: Lib.decDigits (e - (j : Nat) + 52).natAbs by simp [expL, hneg]]; exact fin_neg sl P1 l (fracL F) _ hP hlH
              generalize Lib.decDigits (e - (j : Nat) + 52).natAbs = ds at *
              have hD := fun W : World => run_string_add_lists (P := Tryd.prog) W l [112, 45] (by omega) (by simp)
              have hE := fun W : World => run_string_add_lists (P := Tryd.prog) W (l ++ [112, 45]) ds (by simp; omega) (by omega)
              generalize (l ++ ([112, 45] : List UInt8)) = l2 at *
              generalize l2 ++ ds = l3 at *
              go_wp2_with (go_at_call 51; refine (kd _).mono ?_; rintro e w' ⟨rfl, g⟩)
              go_ret
              exact ⟨congrArg (fun z : List UInt8 => Ending.returned (.string ⟨z.toArray⟩)) (ends_eq hFd hend), Kb.of_grown g⟩
            · have kd := decimal_any (e - (j : Nat) + 52).toNat (by omega)
              rw [show (((e - (j : Nat) + 52).toNat : Nat) : Int) = e - (j : Nat) + 52 by omega] at kd
              have hds := decDigits_len (e - (j : Nat) + 52).toNat
              have hend : Hidden (sl ++ ([48, 120, 49] ++ fracL F ++ [112] ++ expL (e - (j : Nat) + 52)) = (l ++ [112, 43]) ++ Lib.decDigits (e - (j : Nat) + 52).toNat) := by show _ = _; rw [show expL (e - (j : Nat) + 52) = 43 :: Lib.decDigits (e - (j : Nat) + 52).toNat by simp [expL, hneg]]; exact fin_pos sl P1 l (fracL F) _ hP hlH
              generalize Lib.decDigits (e - (j : Nat) + 52).toNat = ds at *
              have hD := fun W : World => run_string_add_lists (P := Tryd.prog) W l [112, 43] (by omega) (by simp)
              have hE := fun W : World => run_string_add_lists (P := Tryd.prog) W (l ++ [112, 43]) ds (by simp; omega) (by omega)
              generalize (l ++ ([112, 43] : List UInt8)) = l2 at *
              generalize l2 ++ ds = l3 at *
              go_wp2_with (go_at_call 51; refine (kd _).mono ?_; rintro e w' ⟨rfl, g⟩)
              go_ret
              exact ⟨congrArg (fun z : List UInt8 => Ending.returned (.string ⟨z.toArray⟩)) (ends_eq hFd hend), Kb.of_grown g⟩
          · have hk13 := pow16_13 k hk f' hf' hmod hz
            have hnz : ((f' : Int) * 4096 != 0) = true := by simp; omega
            have hd : f' / 281474976710656 < 16 := by omega
            have hsl := hex_slice (f' / 281474976710656) hd
            have ed : (f' : Int) * 4096 / 1152921504606846976 = ((f' / 281474976710656 : Nat) : Int) := by omega
            have es : IntKind.u64.wrap ((f' : Int) * 4096 * 16) = ((f' % 281474976710656 * 16 : Nat) : Int) * 4096 := by rw [IntKind.wrap_u64]; omega
            have hmod' := pow16 k hk13 f' hf' hmod
            have hl' : (l ++ [hexdig (f' / 281474976710656)]) ++ hexF (13 - (k + 1)) (f' % 281474976710656 * 16) = P1 ++ fracL F := by
              rw [← hl, show 13 - k = (13 - (k + 1)) + 1 by omega, hexF, if_neg hz, List.append_assoc]
              rfl
            have hC := fun W : World => run_string_add_lists (P := Tryd.prog) W l [hexdig (f' / 281474976710656)] (by omega) (by simp)
            have hfb : f' % 281474976710656 * 16 < 4503599627370496 := by omega
            generalize hexdig (f' / 281474976710656) = ch at *
            generalize f' % 281474976710656 * 16 = f2 at *
            generalize f' / 281474976710656 = d at *
            clear hl hmod hA0
            go_wp2
            go_round
            case rel => exact ⟨k + 1, f2, l ++ [ch], rfl, by go_num, by omega, by simp; omega, hfb, hmod', hl'⟩
            case measure => simp [slen, ByteArray.size]; omega


theorem rtext_any (a : Int) (ha : U a) (w : World) :
    Calls Tryd.prog 22 #[.int .u64 a] w fun r w' => r = .returned (.string ⟨(textS a).toArray⟩) ∧ Kb w w' := by
  rcases class_parts a ha with h | h | h | ⟨h, h1, h2, h3, h4⟩
  · exact rtext_small a _ ha h (by omega) w
  · exact rtext_small a _ ha h (by omega) w
  · exact rtext_small a _ ha h (by omega) w
  · obtain ⟨b1, b2, b3, b4⟩ := nrm_bounds (partM a).toNat (by omega) (by omega)
    have hnm : Nm (nrm (partM a).toNat) (shf (partM a).toNat) 0 (partM a).toNat := ⟨Nat.zero_le _, rfl⟩
    have hS : shf (partM a).toNat ≤ 52 := by unfold shf; omega
    have hs := sign_bit a ha
    have hn : partN a = decide (9223372036854775808 ≤ a) := by
      unfold partN
      rw [if_neg (by omega)]
    have e1 : sizeL (classS a) (partM a).toNat (partE a) = [48, 120, 49] ++ fracL (nrm (partM a).toNat % 4503599627370496) ++ [112] ++ expL (partE a - shf (partM a).toNat + 52) := by
      unfold sizeL
      rw [if_neg (by omega), if_neg (by omega), if_neg (by omega)]
    unfold textS
    rw [e1]
    by_cases c : 9223372036854775808 ≤ a
    · rw [decide_eq_true c] at hs hn
      have := rtext_neg a _ _ _ _ _ [45] _ rfl rfl ha rfl h hs hn rfl rfl h1 h2 h3 h4 hS b3 b4 hnm w
      rw [hn]
      exact this
    · rw [decide_eq_false c] at hs hn
      have := rtext_pos a _ _ _ _ _ [] _ rfl rfl ha rfl h hs hn rfl rfl h1 h2 h3 h4 hS b3 b4 hnm w
      rw [hn]
      exact this
end Go.Proofs.YtfegnjpajflnkaaDoor
