/- What readFraction and readExponent answer, for any text. -/
import Derived.Test.YtfegnjpajflnkaaDoorStrs
import Derived.Test.YtfegnjpajflnkaaDoorRText
namespace Go.Proofs.YtfegnjpajflnkaaDoor
open Go.RowKit Fl
set_option linter.unusedSimpArgs false
set_option linter.unusedVariables false

def hexL : List UInt8 := [48, 49, 50, 51, 52, 53, 54, 55, 56, 57, 97, 98, 99, 100, 101, 102]
def hix (c : UInt8) : Int := Lib.indexByte hexL c
theorem hix_bounds (c : UInt8) : -1 ≤ hix c ∧ hix c < 16 := ⟨Lib.indexByte_ge _ _, indexByte_lt hexL c⟩
theorem hix_dig (d : Nat) (h : d < 16) : hix (hexdig d) = d := by
  have : d = 0 ∨ d = 1 ∨ d = 2 ∨ d = 3 ∨ d = 4 ∨ d = 5 ∨ d = 6 ∨ d = 7 ∨ d = 8 ∨ d = 9 ∨ d = 10 ∨ d = 11 ∨ d = 12 ∨ d = 13 ∨ d = 14 ∨ d = 15 := by omega
  rcases this with rfl | rfl | rfl | rfl | rfl | rfl | rfl | rfl | rfl | rfl | rfl | rfl | rfl | rfl | rfl | rfl <;> decide

def foldHex : List UInt8 → Nat → Option Nat
  | [], acc => some acc
  | c :: r, acc => if hix c < 0 then none else foldHex r (acc * 16 + (hix c).toNat)

theorem ib_any (c : UInt8) (w : World) :
    Calls Tryd.prog 78 #[.string ⟨#[48, 49, 50, 51, 52, 53, 54, 55, 56, 57, 97, 98, 99, 100, 101, 102]⟩, .int .u8 (c.toNat : Int)] w fun e w' => e = .returned (.int .i64 (hix c)) ∧ w = w' := by
  refine (Tryd.strings_IndexByte _ _ w).mono ?_
  rintro e w' ⟨rfl, rfl⟩
  refine ⟨?_, rfl⟩
  simp only [Int.toNat_natCast]
  rw [show c.toNat.toUInt8 = c by simp]
  rfl

theorem str_index (l : List UInt8) (k : Nat) (c : UInt8) (h : l[k]? = some c) (w : World) :
    (Instr.index 9 (.string ⟨l.toArray⟩) (.int .i64 (k : Int))).run Tryd.prog w = .ok (.int .u8 (c.toNat : Int)) w := by
  obtain ⟨hk, hc⟩ := List.getElem?_eq_some_iff.1 h
  have hs : k < (⟨l.toArray⟩ : ByteArray).size := by simpa [ByteArray.size] using hk
  rw [run_index_string _ _ _ _ _ Tryd.underlying9, dif_pos ⟨by omega, by omega⟩]
  have e : (⟨l.toArray⟩ : ByteArray)[k]'hs = c := by
    show l.toArray[k] = c
    simpa using hc
  simp only [Int.toNat_natCast]
  rw [e]

theorem or_digit (acc : Nat) (d : Nat) (ha : acc < 281474976710656) (hd : d < 16) : bits .or .u64 ((acc : Int) * 16) (d : Int) = ((acc * 16 + d : Nat) : Int) := by
  rw [u64_or _ _ (by omega) (by omega) (by omega) (by omega)]
  have e1 : ((acc : Int) * 16).toNat = acc * 16 := by omega
  have e2 : ((d : Int)).toNat = d := by omega
  rw [e1, e2, nat_join 4 (acc * 16) d (by omega) (by omega)]

def outF (r : Option Nat) (n : Nat) : Nat := match r with | some a => a * 16 ^ (13 - n) | none => 0

theorem rf_empty (w : World) : Calls Tryd.prog 70 #[.string ⟨#[]⟩] w fun e w' => e = .returned (.tuple #[.int .u64 0, .bool true]) ∧ w = w' := by
  go_enter Tryd.func70, Tryd.ntmps70
  go_wp2
  go_ret2
  exact ⟨rfl, rfl⟩
theorem rf_nopoint (l : List UInt8) (hl : l.isEmpty = false) (h : Lib.hasPrefix l [46] = false) (w : World) : Calls Tryd.prog 70 #[.string ⟨l.toArray⟩] w fun e w' => e = .returned (.tuple #[.int .u64 0, .bool false]) ∧ w = w' := by
  have k := cutp_any l [46] _ _ rfl h
  generalize Lib.trimPrefix l [46] = t at *
  go_enter Tryd.func70, Tryd.ntmps70
  go_wp2_with (go_at_call 57; refine (k _).mono ?_; rintro e w' ⟨rfl, rfl⟩)
  go_ret2
  exact ⟨rfl, rfl⟩
theorem rf_long (l ds : List UInt8) (hl : l.isEmpty = false) (h : Lib.hasPrefix l [46] = true) (ht : Lib.trimPrefix l [46] = ds) (hd : 13 < ds.length) (w : World) : Calls Tryd.prog 70 #[.string ⟨l.toArray⟩] w fun e w' => e = .returned (.tuple #[.int .u64 0, .bool false]) ∧ w = w' := by
  have k := cutp_any l [46] _ _ ht h
  have hs : (13 : Int) < ((⟨ds.toArray⟩ : ByteArray).size : Int) := by simp [ByteArray.size]; omega
  go_enter Tryd.func70, Tryd.ntmps70
  go_wp2_with (go_at_call 57; refine (k _).mono ?_; rintro e w' ⟨rfl, rfl⟩)
  go_ret2
  exact ⟨rfl, rfl⟩

set_option maxRecDepth 20000 in
theorem rf_point (l ds : List UInt8) (res : Option Nat) (hl : l.isEmpty = false) (h : Lib.hasPrefix l [46] = true) (ht : Lib.trimPrefix l [46] = ds) (hd : ds.length ≤ 13) (hres : foldHex ds 0 = res) (w : World) :
    Calls Tryd.prog 70 #[.string ⟨l.toArray⟩] w fun e w' => e = .returned (.tuple #[.int .u64 (outF res ds.length : Nat), .bool res.isSome]) ∧ w = w' := by
  have k := cutp_any l [46] _ _ ht h
  have hs : ((⟨ds.toArray⟩ : ByteArray).size : Int) = (ds.length : Int) := by simp [ByteArray.size]
  have hs2 : ds.toArray.size = ds.length := by simp
  clear h ht
  go_enter Tryd.func70, Tryd.ntmps70
  go_wp2_with (go_at_call 57; refine (k _).mono ?_; rintro e w' ⟨rfl, rfl⟩)
  go_loop [6, 25] (fun fv iv => ∃ j acc : Nat, fv = .int .u64 (acc : Int) ∧ iv = .int .i64 (j : Int) ∧ j ≤ ds.length ∧ acc < 16 ^ j ∧ foldHex (ds.drop j) acc = foldHex ds 0) (fun _ iv => ds.length - (intOf iv).toNat)
  case atStart => exact ⟨0, 0, rfl, rfl, by omega, by simp, rfl⟩
  case round =>
    obtain ⟨j, acc, rfl, rfl, hj, hacc, hf⟩ := hrel
    rw [hres] at hf
    by_cases hjl : j < ds.length
    · obtain ⟨c, hc⟩ : ∃ c, ds[j]? = some c := ⟨ds[j], List.getElem?_eq_getElem hjl⟩
      have hdr : ds.drop j = c :: ds.drop (j + 1) := by
        have := List.drop_eq_getElem_cons hjl
        rw [List.getElem?_eq_getElem hjl] at hc
        cases hc
        exact this
      rw [hdr, foldHex] at hf
      have hx := str_index ds j c hc
      have hib := ib_any c
      have hbd := hix_bounds c
      clear hdr hc
      by_cases hneg : hix c < 0
      · rw [if_pos hneg] at hf
        subst hf
        generalize hix c = d at *
        go_wp2_with (go_at_call 78; refine (hib _).mono ?_; rintro e w' ⟨rfl, rfl⟩)
        go_ret2
        exact ⟨rfl, rfl⟩
      · rw [if_neg hneg] at hf
        obtain ⟨d, hd0⟩ := Int.eq_ofNat_of_zero_le (show 0 ≤ hix c by omega)
        rw [hd0] at hf hib hbd
        rw [Int.toNat_natCast] at hf
        have hp : 16 ^ j ≤ 281474976710656 := by
          have := Nat.pow_le_pow_right (show 0 < 16 by decide) (show j ≤ 12 by omega)
          omega
        have hor := or_digit acc d (by omega) (by omega)
        have hp2 : Hidden (acc * 16 + d < 16 ^ (j + 1)) := by show _ < _; rw [Nat.pow_succ]; omega
        have hfH : Hidden (foldHex (List.drop (j + 1) ds) (acc * 16 + d) = res) := hf
        have hresH : Hidden (foldHex ds 0 = res) := hres
        have hda : d < 16 := by omega
        have haa : acc < 281474976710656 := by omega
        clear hd0 hneg hp hacc hf hres
        go_wp2_with (go_at_call 78; refine (hib _).mono ?_; rintro e w' ⟨rfl, rfl⟩)
        go_round
        case rel => exact ⟨j + 1, acc * 16 + d, by go_num, by go_num, by omega, hp2, by rw [show foldHex ds 0 = res from hresH]; exact hfH⟩
        case measure => simp [intOf]; omega
    · obtain rfl : j = ds.length := by omega
      rw [List.drop_length, foldHex] at hf
      subst hf
      have hsh : IntKind.u64.wrap ((acc : Int) * 2 ^ (4 * (13 - (ds.length : Int))).toNat) = ((outF (some acc) ds.length : Nat) : Int) := by
        change _ = ((acc * 16 ^ (13 - ds.length) : Nat) : Int)
        rw [show (4 * (13 - (ds.length : Int))).toNat = 4 * (13 - ds.length) by omega, IntKind.wrap_u64]
        have e16 : (16 : Nat) ^ (13 - ds.length) = 2 ^ (4 * (13 - ds.length)) := by rw [Nat.pow_mul]
        have hb : acc * 16 ^ (13 - ds.length) < 16 ^ 13 := by
          have : 16 ^ ds.length * 16 ^ (13 - ds.length) = 16 ^ 13 := by rw [← Nat.pow_add]; congr 1; omega
          rw [← this]
          exact Nat.mul_lt_mul_of_pos_right hacc (Nat.pow_pos (by decide))
        rw [e16] at hb ⊢
        have e3 : ((acc * 2 ^ (4 * (13 - ds.length)) : Nat) : Int) = (acc : Int) * 2 ^ (4 * (13 - ds.length)) := by rw [Int.natCast_mul, Int.natCast_pow]; rfl
        rw [← e3]
        generalize acc * 2 ^ (4 * (13 - ds.length)) = z at *
        omega
      go_wp2
      go_ret2
      exact ⟨by first | rfl | simp [hsh], rfl⟩

def isd (c : UInt8) : Bool := decide (48 ≤ c.toNat) && decide (c.toNat ≤ 57)
theorem isDigit_any (c : UInt8) (w : World) :
    Calls Tryd.prog 74 #[.int .u8 (c.toNat : Int)] w fun e w' => e = .returned (.bool (isd c)) ∧ w = w' := by
  unfold isd
  generalize c.toNat = n
  by_cases h1 : 48 ≤ n
  · have h1' : (48 : Int) ≤ (n : Int) := by omega
    by_cases h2 : n ≤ 57
    · have h2' : (n : Int) ≤ 57 := by omega
      rw [decide_eq_true h1, decide_eq_true h2]
      go_enter Tryd.func74, Tryd.ntmps74
      go_wp2
      go_ret
      exact ⟨by first | rfl | simp <;> omega, rfl⟩
    · have h2' : ¬ (n : Int) ≤ 57 := by omega
      rw [decide_eq_true h1, decide_eq_false h2]
      go_enter Tryd.func74, Tryd.ntmps74
      go_wp2
      go_ret
      exact ⟨by first | rfl | simp <;> omega, rfl⟩
  · have h1' : ¬ (48 : Int) ≤ (n : Int) := by omega
    rw [decide_eq_false h1]
    go_enter Tryd.func74, Tryd.ntmps74
    go_wp2
    go_ret
    exact ⟨by first | rfl | simp <;> omega, rfl⟩

def foldDec : List UInt8 → Nat → Option Nat
  | [], acc => some acc
  | c :: r, acc => if isd c then foldDec r (acc * 10 + (c.toNat - 48)) else none

theorem re_bad (l : List UInt8) (h : l.isEmpty = true ∨ (l.isEmpty = false ∧ 5 < l.length)) (w : World) :
    Calls Tryd.prog 71 #[.string ⟨l.toArray⟩] w fun e w' => e = .returned (.tuple #[.int .i64 0, .bool false]) ∧ w = w' := by
  rcases h with h | ⟨h, h2⟩
  · go_enter Tryd.func71, Tryd.ntmps71
    go_wp2
    go_ret2
    exact ⟨rfl, rfl⟩
  · have hs : (5 : Int) < ((⟨l.toArray⟩ : ByteArray).size : Int) := by simp [ByteArray.size]; omega
    go_enter Tryd.func71, Tryd.ntmps71
    go_wp2
    go_ret2
    exact ⟨rfl, rfl⟩

def expOf (x : UInt8) (r : Option Nat) : Int := match r with | none => 0 | some a => if x.toNat = 43 then (a : Int) else if x.toNat = 45 then -(a : Int) else 0
def expOk (x : UInt8) (r : Option Nat) : Bool := match r with | none => false | some a => if x.toNat = 43 then decide (-1074 ≤ (a : Int)) && decide ((a : Int) ≤ 1023) else if x.toNat = 45 then decide (-1074 ≤ -(a : Int)) && decide (-(a : Int) ≤ 1023) else false

theorem expOf_pos (x : UInt8) (a : Nat) (h : (x.toNat : Int) = 43) : expOf x (some a) = a ∧ expOk x (some a) = decide ((a : Int) ≤ 1023) := by
  have h' : x.toNat = 43 := by omega
  have h2 : decide (-1074 ≤ (a : Int)) = true := decide_eq_true (by omega)
  simp only [expOf, expOk, h', if_true, h2, Bool.true_and, and_self]
theorem expOf_neg (x : UInt8) (a : Nat) (h : (x.toNat : Int) = 45) : expOf x (some a) = -(a : Int) ∧ expOk x (some a) = decide (a ≤ 1074) := by
  have h' : x.toNat = 45 := by omega
  have h0 : ¬ x.toNat = 43 := by omega
  have h2 : decide (-(a : Int) ≤ 1023) = true := decide_eq_true (by omega)
  have h3 : decide (-1074 ≤ -(a : Int)) = decide (a ≤ 1074) := decide_eq_decide.2 (by omega)
  simp only [expOf, expOk]
  rw [if_neg h0, if_pos h', if_neg h0, if_pos h', h2, h3, Bool.and_true]
  exact ⟨rfl, rfl⟩
theorem expOf_other (x : UInt8) (a : Nat) (h : ¬ (x.toNat : Int) = 43) (h2 : ¬ (x.toNat : Int) = 45) : expOf x (some a) = 0 ∧ expOk x (some a) = false := by
  have h0 : ¬ x.toNat = 43 := by omega
  have h' : ¬ x.toNat = 45 := by omega
  simp only [expOf, expOk]
  rw [if_neg h0, if_neg h', if_neg h0, if_neg h']
  exact ⟨rfl, rfl⟩

set_option maxRecDepth 20000 in
set_option maxHeartbeats 1000000 in
theorem re_good (x : UInt8) (ds l : List UInt8) (res : Option Nat) (hl : l = x :: ds) (hd : ds.length ≤ 4) (hres : foldDec ds 0 = res) (w : World) :
    Calls Tryd.prog 71 #[.string ⟨l.toArray⟩] w fun e w' => e = .returned (.tuple #[.int .i64 (expOf x res), .bool (expOk x res)]) ∧ w = w' := by
  have hle : l.isEmpty = false := by rw [hl]; rfl
  have hlen : l.length = ds.length + 1 := by rw [hl]; rfl
  have hx0 : ∀ W : World, (Instr.index 9 (.string ⟨l.toArray⟩) (.int .i64 0)).run Tryd.prog W = .ok (.int .u8 (x.toNat : Int)) W := fun W => str_index l 0 x (by rw [hl]; rfl) W
  have hix2 : ∀ (j : Nat) (c : UInt8), ds[j]? = some c → ∀ W : World, (Instr.index 9 (.string ⟨l.toArray⟩) (.int .i64 ((j : Int) + 1))).run Tryd.prog W = .ok (.int .u8 (c.toNat : Int)) W := by
    intro j c hc W
    have := str_index l (j + 1) c (by rw [hl]; simpa using hc) W
    simpa using this
  clear hl
  go_enter Tryd.func71, Tryd.ntmps71
  go_wp2
  go_loop [4, 5] (fun ev iv => ∃ j acc : Nat, ev = .int .i64 (acc : Int) ∧ iv = .int .i64 ((j : Int) + 1) ∧ j ≤ ds.length ∧ acc < 10 ^ j ∧ foldDec (ds.drop j) acc = res) (fun _ iv => ds.length + 1 - (intOf iv).toNat)
  case atStart => exact ⟨0, 0, rfl, rfl, by omega, by simp, hres⟩
  case round =>
    obtain ⟨j, acc, rfl, rfl, hj, hacc, hf⟩ := hrel
    have hp : 10 ^ j ≤ 10000 := by
      have := Nat.pow_le_pow_right (show 0 < 10 by decide) (show j ≤ 4 by omega)
      omega
    by_cases hjl : j < ds.length
    · obtain ⟨c, hc⟩ : ∃ c, ds[j]? = some c := ⟨ds[j], List.getElem?_eq_getElem hjl⟩
      have hdr : ds.drop j = c :: ds.drop (j + 1) := by
        have := List.drop_eq_getElem_cons hjl
        rw [List.getElem?_eq_getElem hjl] at hc
        cases hc
        exact this
      rw [hdr, foldDec] at hf
      have hx := hix2 j c hc
      have kd := isDigit_any c
      clear hdr hc hx0 hix2
      cases hdg : isd c
      · rw [hdg] at hf kd
        simp only [Bool.false_eq_true, if_false] at hf
        subst hf
        clear hres hdg
        go_wp2_with (go_at_call 74; refine (kd _).mono ?_; rintro e w' ⟨rfl, rfl⟩)
        go_ret2
        exact ⟨rfl, rfl⟩
      · rw [hdg] at hf kd
        simp only [if_true] at hf
        have hcb : 48 ≤ c.toNat ∧ c.toNat ≤ 57 := by simpa [isd] using hdg
        obtain ⟨d, hd0⟩ : ∃ d, c.toNat = d + 48 := ⟨c.toNat - 48, by omega⟩
        rw [hd0] at hf hx kd hcb
        rw [Nat.add_sub_cancel] at hf
        have hp2 : Hidden (acc * 10 + d < 10 ^ (j + 1)) := by show _ < _; rw [Nat.pow_succ]; omega
        have hfH : Hidden (foldDec (List.drop (j + 1) ds) (acc * 10 + d) = res) := hf
        have hab : acc < 10000 := by omega
        have hdb : d ≤ 9 := by omega
        clear hres hdg hf hp hacc hd0 hcb
        go_wp2_with (go_at_call 74; refine (kd _).mono ?_; rintro e w' ⟨rfl, rfl⟩)
        go_round
        case rel => exact ⟨j + 1, acc * 10 + d, by go_num, by go_num, by omega, hp2, hfH⟩
        case measure => simp [intOf]; omega
    · obtain rfl : j = ds.length := by omega
      rw [List.drop_length, foldDec] at hf
      subst hf
      have hab : acc ≤ 10000 := by omega
      clear hres hix2 hp hacc hjl
      have hpos := expOf_pos x acc
      have hneg := expOf_neg x acc
      have hoth := expOf_other x acc
      generalize (x.toNat : Int) = n at *
      by_cases c1 : n = 43
      · subst c1
        have e1 : Hidden (expOf x (some acc) = (acc : Int)) := (hpos rfl).1
        have e2 : Hidden (expOk x (some acc) = decide ((acc : Int) ≤ 1023)) := (hpos rfl).2
        clear hpos hneg hoth
        go_wp2
        go_ret2
        exact ⟨by rw [show expOf x (some acc) = _ from e1, show expOk x (some acc) = _ from e2]; rfl, rfl⟩
      · have c1' : (n == 43) = false := by simpa using c1
        by_cases c2 : n = 45
        · subst c2
          by_cases c3 : acc ≤ 1074
          · have c3' : (-1074 : Int) ≤ -(acc : Int) := by omega
            have c4' : -(acc : Int) ≤ 1023 := by omega
            have e1 : Hidden (expOf x (some acc) = -(acc : Int)) := (hneg rfl).1
            have e2 : Hidden (expOk x (some acc) = true) := (hneg rfl).2.trans (decide_eq_true c3)
            clear hpos hneg hoth
            go_wp2
            go_ret2
            exact ⟨by rw [show expOf x (some acc) = _ from e1, show expOk x (some acc) = _ from e2]; first | rfl | simp [c4'], rfl⟩
          · have c3' : ¬ (-1074 : Int) ≤ -(acc : Int) := by omega
            have e1 : Hidden (expOf x (some acc) = -(acc : Int)) := (hneg rfl).1
            have e2 : Hidden (expOk x (some acc) = false) := (hneg rfl).2.trans (decide_eq_false c3)
            clear hpos hneg hoth
            go_wp2
            go_ret2
            exact ⟨by rw [show expOf x (some acc) = _ from e1, show expOk x (some acc) = _ from e2]; rfl, rfl⟩
        · have c2' : (n == 45) = false := by simpa using c2
          have e1 : Hidden (expOf x (some acc) = 0) := (hoth c1 c2).1
          have e2 : Hidden (expOk x (some acc) = false) := (hoth c1 c2).2
          clear hpos hneg hoth
          go_wp2
          go_ret2
          exact ⟨by rw [show expOf x (some acc) = _ from e1, show expOk x (some acc) = _ from e2]; rfl, rfl⟩
end Go.Proofs.YtfegnjpajflnkaaDoor
