/- What Literal answers, for any text. -/
import Derived.Test.YtfegnjpajflnkaaDoorRParse
import Derived.Test.YtfegnjpajflnkaaDoorIntsWalk
import Derived.Laws.RangeString
namespace Go.Proofs.YtfegnjpajflnkaaDoor
open Go.RowKit Fl
set_option linter.unusedSimpArgs false
set_option linter.unusedVariables false

theorem quo_some (m k : Nat) (hm : m ≤ 9007199254740992) (hk : k ≤ 9007199254740992) (hk0 : k ≠ 0) :
    ∃ r : Nat, floatBits .quo .f64 (floatOfInt .f64 (m : Int)) (floatOfInt .f64 (k : Int)) = some r ∧ nan (r : Int) = false := by
  obtain ⟨rm, h1⟩ := rep_of m hm
  obtain ⟨rk, h2⟩ := rep_of k hk
  have z : rk ≠ 0 := fun h => hk0 ((rep_zero k rk h2).1 h)
  rw [fi_word (m : Int) rm (by simpa using h1), fi_word (k : Int) rk (by simpa using h2)]
  change ∃ r : Nat, Ieee.double.div _ _ = some r ∧ _
  unfold Ieee.Format.div
  rw [read_word _ _ h1.1, read_word _ _ h2.1]
  simp only [Ieee.Datum.quotient]
  rw [if_neg (mag_pos rk z)]
  simp only [Option.map_some, Ieee.Format.write]
  refine ⟨_, rfl, ?_⟩
  rw [nearest_rung]
  exact (nan_word _ _ (rung_le _ _)).1

/-- The quotient of two small whole numbers. -/
def quoS (m k : Nat) : Nat := (floatBits .quo .f64 (floatOfInt .f64 (m : Int)) (floatOfInt .f64 (k : Int))).getD 0
theorem quoS_some (m k : Nat) (hm : m ≤ 9007199254740992) (hk : k ≤ 9007199254740992) (hk0 : k ≠ 0) :
    floatBits .quo .f64 (floatOfInt .f64 (m : Int)) (floatOfInt .f64 (k : Int)) = some (quoS m k) ∧ nan (quoS m k : Int) = false := by
  obtain ⟨r, h1, h2⟩ := quo_some m k hm hk hk0
  have : quoS m k = r := by unfold quoS; rw [h1]; rfl
  rw [this]
  exact ⟨h1, h2⟩

def allD (l : List UInt8) : Bool := l.all isd && !l.isEmpty
theorem allDigits_walk (l : List UInt8) (v : Bool) (hl : l.length ≤ 9223372036854775807) (hv : Hidden (l.all isd = v)) (w : World) :
    Calls Tryd.prog 61 #[.string ⟨l.toArray⟩] w fun e w' => e = .returned (.bool (v && !l.isEmpty)) ∧ w = w' := by
  have hs := str_len l
  go_enter Tryd.func61, Tryd.ntmps61
  go_wp2
  go_loopg [6] l.length (fun k iv wr => ∃ j : Nat, iv = .int .i64 (j : Int) ∧ j ≤ l.length ∧ (l.drop j).all isd = v ∧ k = l.length - j ∧ wr = w)
  case atStart => exact ⟨0, rfl, by omega, hv, rfl, rfl⟩
  case round =>
    obtain ⟨j, rfl, hj, hf, hgk, rfl⟩ := hrel
    have hgkH : Hidden (gk = l.length - j) := hgk
    clear hgk
    by_cases hjl : j < l.length
    · obtain ⟨c, hc⟩ : ∃ c, l[j]? = some c := ⟨l[j], List.getElem?_eq_getElem hjl⟩
      have hdr : l.drop j = c :: l.drop (j + 1) := by
        have := List.drop_eq_getElem_cons hjl
        rw [List.getElem?_eq_getElem hjl] at hc
        cases hc
        exact this
      rw [hdr, List.all_cons] at hf
      have hx := str_index l j c hc
      have kd := isDigit_any c
      clear hdr hc
      cases hdg : isd c
      · rw [hdg] at hf kd
        rw [Bool.false_and] at hf
        subst hf
        clear hdg
        go_wp2_with (go_at_call 74; refine (kd _).mono ?_; rintro e w' ⟨rfl, rfl⟩)
        go_ret
        exact ⟨rfl, rfl⟩
      · rw [hdg] at hf kd
        rw [Bool.true_and] at hf
        have hfH : Hidden ((l.drop (j + 1)).all isd = v) := hf
        clear hdg hf
        go_wp2_with (go_at_call 74; refine (kd _).mono ?_; rintro e w' ⟨rfl, rfl⟩)
        go_roundg (l.length - (j + 1))
        case measure =>
          have : gk = l.length - j := hgkH
          omega
        case rel => exact ⟨j + 1, by go_num, by omega, hfH, rfl, rfl⟩
    · obtain rfl : j = l.length := by omega
      rw [List.drop_length] at hf
      obtain rfl : true = v := hf
      clear hv
      go_wp2
      go_ret
      exact ⟨by simp, rfl⟩
theorem allDigits_is (l : List UInt8) (v : Bool) (hv : allD l = v) (hl : l.length ≤ 9223372036854775807) (w : World) :
    Calls Tryd.prog 61 #[.string ⟨l.toArray⟩] w fun e w' => e = .returned (.bool v) ∧ w = w' := by
  have := allDigits_walk l _ hl rfl w
  rw [← hv]
  exact this

def stepD (m : Nat) (c : UInt8) : Nat := m * 10 + (c.toNat - 48)
def numD (l : List UInt8) : Nat := l.foldl stepD 0
theorem isd_lt (c : UInt8) (h : isd c = true) : ∃ D, c.toNat = D + 48 ∧ D ≤ 9 := by
  have hcb : 48 ≤ c.toNat ∧ c.toNat ≤ 57 := by simpa [isd] using h
  exact ⟨c.toNat - 48, by omega, by omega⟩
theorem numD_lt (l : List UInt8) : ∀ (m k : Nat), l.all isd = true → m < 10 ^ k → l.foldl stepD m < 10 ^ (k + l.length) := by
  induction l with
  | nil => intro m k _ h; simpa using h
  | cons c l ih =>
    intro m k h hm
    rw [List.all_cons, Bool.and_eq_true] at h
    obtain ⟨D, hD, hD9⟩ := isd_lt c h.1
    rw [List.foldl_cons, List.length_cons, show k + (l.length + 1) = k + 1 + l.length by omega]
    refine ih _ _ h.2 ?_
    unfold stepD
    rw [Nat.pow_succ]
    omega

def litS (s : List UInt8) : Int × Int :=
  if (cut1 s 46).2.2 && allD (cut1 s 46).1 && allD (cut1 s 46).2.1 then
    if 15 < (cut1 s 46).1.length + (cut1 s 46).2.1.length then (0, 3) else ((quoS (numD ((cut1 s 46).1 ++ (cut1 s 46).2.1)) (10 ^ (cut1 s 46).2.1.length) : Nat), 0)
  else (0, 10)

theorem kb_iter (w : World) (s : ByteArray) (pos : Nat) : Kb w (w.iter s pos) := by
  refine ⟨⟨rfl, rfl, fun i hi => ?_⟩, by show w.heap.size ≤ (w.heap.push _).size; rw [Array.size_push]; omega⟩
  have e : (w.iter s pos).heap[i]? = w.heap[i]? := by
    show (w.heap.push _)[i]? = _
    rw [Array.getElem?_push_lt hi]
    exact (Array.getElem?_eq_getElem hi).symm
  rw [e]
  cases w.heap[i]? with
  | none => rfl
  | some o => cases o <;> simp

theorem pow10_le (k : Nat) (h : k ≤ 15) : 10 ^ k ≤ 1000000000000000 := Nat.pow_le_pow_right (by decide) h

theorem next_digit (w : World) (q : List UInt8) (j : Nat) (c : UInt8) (hc : q[j]? = some c) (h : c.toNat < 128) (ty : TypeId) :
    (Instr.next (.pointer (some ⟨w.heap.size, 0, none⟩)) true ty).run Tryd.prog (w.iter ⟨q.toArray⟩ j) = .ok (.tuple #[.bool true, .int .i64 (j : Int), .int .i32 (c.toNat : Int)]) (w.iter ⟨q.toArray⟩ (j + 1)) := by
  obtain ⟨hk, hcc⟩ := List.getElem?_eq_some_iff.1 hc
  have hs : j < (⟨q.toArray⟩ : ByteArray).size := by simpa [ByteArray.size] using hk
  have e : (⟨q.toArray⟩ : ByteArray)[j]'hs = c := by
    show q.toArray[j] = c
    simpa using hcc
  have := run_next_ascii (P := Tryd.prog) w ⟨q.toArray⟩ j ty hs (by rw [e]; exact h)
  rw [e] at this
  exact this

set_option maxRecDepth 20000 in
set_option maxHeartbeats 4000000 in
theorem lit_good (s b a q : List UInt8) (N : Nat) (hs : s.length ≤ 9223372036854775807) (hcut : Hidden (cut1 s 46 = (b, a, true))) (hA : Hidden (allD b = true)) (hB : Hidden (allD a = true)) (hq : Hidden (b ++ a = q)) (hL : b.length + a.length ≤ 15) (hN : Hidden (numD q = N)) (w : World) :
    Calls Tryd.prog 42 #[.string ⟨s.toArray⟩] w fun r w' => r = .returned (.tuple #[.int .u64 (quoS N (10 ^ a.length) : Nat), .int .i64 0]) ∧ Kb w w' := by
  have k1 := cut_any s 46 b a true hcut hs
  have hA2 : allD b = true := hA
  have hB2 : allD a = true := hB
  have hlb : b.length ≤ 9223372036854775807 := by omega
  have hla : a.length ≤ 9223372036854775807 := by omega
  have hb := str_len b
  have ha := str_len a
  have hcat := fun W : World => run_string_add_lists (P := Tryd.prog) W b a (by omega) (by omega)
  rw [show b ++ a = q from hq] at hcat
  have hql : q.length = b.length + a.length := by rw [← show b ++ a = q from hq]; simp
  have hqd : Hidden (q.all isd = true) := by
    have h1 : allD b = true := hA
    have h2 : allD a = true := hB
    unfold allD at h1 h2
    rw [Bool.and_eq_true] at h1 h2
    show _ = _
    rw [← show b ++ a = q from hq, List.all_append, h1.1, h2.1]
    rfl
  have hNb : N < 10 ^ q.length := by
    have := numD_lt q 0 0 hqd (by decide)
    rw [← show numD q = N from hN]
    rw [Nat.zero_add] at this
    exact this
  have hp15 : Hidden (10 ^ q.length ≤ 1000000000000000) := pow10_le q.length (by omega)
  have hpa := pow10_le a.length (by omega)
  have hpa0 : 10 ^ a.length ≠ 0 := by have := Nat.pow_pos (n := a.length) (show 0 < 10 by decide); omega
  obtain ⟨hq1, hq2⟩ := quoS_some N (10 ^ a.length) (by have : 10 ^ q.length ≤ 1000000000000000 := hp15; omega) (by omega) hpa0
  have kdv := div_exact (floatOfInt .f64 (N : Int) : Nat) (floatOfInt .f64 ((10 ^ a.length : Nat) : Int) : Nat) _ (by simpa using hq1) hq2
  generalize quoS N (10 ^ a.length) = V at *
  generalize hPP : 10 ^ a.length = PP at *
  generalize hX : ((floatOfInt .f64 (N : Int) : Nat) : Int) = X at *
  generalize hY : ((floatOfInt .f64 (PP : Int) : Nat) : Int) = Y at *
  have hPH : Hidden (10 ^ a.length = PP) := hPP
  have hNH : Hidden (N < 10 ^ q.length) := hNb
  have hq15 : q.length ≤ 15 := by omega
  clear hPP hq1 hq2 hpa0 hNb hql
  go_enter Tryd.func42, Tryd.ntmps42
  go_wp2_with (first
    | (go_at_call 60; refine (k1 _).mono ?_; rintro e W1 ⟨rfl, g⟩)
    | (go_at_call 61; refine (allDigits_is _ _ (by with_reducible assumption) (by with_reducible assumption) _).mono ?_; rintro e w' ⟨rfl, rfl⟩))
  go_loopg [7] q.length (fun k mv wr => ∃ j acc : Nat, mv = .int .i64 (acc : Int) ∧ j ≤ q.length ∧ acc < 10 ^ j ∧ (q.drop j).foldl stepD acc = N ∧ k = q.length - j ∧ wr = W1.iter ⟨q.toArray⟩ j)
  case atStart => exact ⟨0, 0, rfl, by omega, by simp, hN, rfl, rfl⟩
  case round =>
    obtain ⟨j, acc, rfl, hj, hacc, hf, hgk, rfl⟩ := hrel
    have hgkH : Hidden (gk = q.length - j) := hgk
    have haccH : Hidden (acc < 10 ^ j) := hacc
    have hab : acc < 1000000000000000 := Nat.lt_of_lt_of_le hacc (pow10_le j (by omega))
    clear hgk hacc
    by_cases hjl : j < q.length
    · obtain ⟨c, hc⟩ : ∃ c, q[j]? = some c := ⟨q[j], List.getElem?_eq_getElem hjl⟩
      have hdr : q.drop j = c :: q.drop (j + 1) := by
        have := List.drop_eq_getElem_cons hjl
        rw [List.getElem?_eq_getElem hjl] at hc
        cases hc
        exact this
      have hci : isd c = true := by
        have h1 : q.all isd = true := hqd
        rw [List.all_eq_true] at h1
        exact h1 c (List.mem_of_getElem? hc)
      obtain ⟨D, hD, hD9⟩ := isd_lt c hci
      rw [hdr, List.foldl_cons, stepD, hD, Nat.add_sub_cancel] at hf
      have hnx := next_digit W1 q j c hc (by omega)
      rw [show ((c.toNat : Nat) : Int) = (D : Int) + 48 by omega] at hnx
      have hfH : Hidden ((q.drop (j + 1)).foldl stepD (acc * 10 + D) = N) := hf
      have hp2 : Hidden (acc * 10 + D < 10 ^ (j + 1)) := by
        show _ < _
        have : acc < 10 ^ j := haccH
        rw [Nat.pow_succ]
        omega
      clear hdr hc hci hD hf
      go_wp2
      go_roundg (q.length - (j + 1))
      case measure =>
        have : gk = q.length - j := hgkH
        omega
      case rel => exact ⟨j + 1, acc * 10 + D, by go_num, by omega, hp2, hfH, rfl, rfl⟩
    · obtain rfl : j = q.length := by omega
      rw [List.drop_length, List.foldl_nil] at hf
      subst hf
      have hnx := fun ty => run_next_end (P := Tryd.prog) W1 ⟨q.toArray⟩ q.length ty (by simp [ByteArray.size])
      go_wp2
      go_loopg [8, 50] a.length (fun k pv iv wr => ∃ j p : Nat, pv = .int .i64 (p : Int) ∧ iv = .int .i64 (j : Int) ∧ p = 10 ^ j ∧ j ≤ a.length ∧ k = a.length - j ∧ wr = W1.iter ⟨q.toArray⟩ q.length)
      case atStart => exact ⟨0, 1, rfl, rfl, by simp, by omega, rfl, rfl⟩
      case round =>
        obtain ⟨i, p, rfl, rfl, hp, hi, hgk2, rfl⟩ := hrel
        have hgkH2 : Hidden (gk = a.length - i) := hgk2
        have hpb := pow10_le i (by omega)
        rw [← hp] at hpb
        have hpH : Hidden (p = 10 ^ i) := hp
        clear hp hgk2
        by_cases hia : i < a.length
        · have hpn : Hidden (p * 10 = 10 ^ (i + 1)) := by
            show _ = _
            rw [Nat.pow_succ, ← show p = 10 ^ i from hpH]
          go_wp2
          go_roundg (a.length - (i + 1))
          case measure =>
            have : gk = a.length - i := hgkH2
            omega
          case rel => exact ⟨i + 1, p * 10, by go_num, by go_num, hpn, by omega, rfl, rfl⟩
        · obtain rfl : i = a.length := by omega
          obtain rfl : p = PP := (show p = _ from hpH).trans hPH
          go_wp2_with (first
            | (go_at_call 44; refine (fromInt_is _ _ (by with_reducible assumption) _).mono ?_; rintro e w' ⟨rfl, rfl⟩)
            | (go_at_call 30; refine (kdv _).mono ?_; rintro e w' ⟨rfl, rfl⟩))
          go_ret2
          exact ⟨rfl, g.trans (kb_iter _ _ _)⟩

theorem lit_bad (s b a : List UInt8) (fd A B : Bool) (hs : s.length ≤ 9223372036854775807) (hcut : cut1 s 46 = (b, a, fd)) (hA : allD b = A) (hB : allD a = B) (hlb : b.length ≤ 9223372036854775807) (hla : a.length ≤ 9223372036854775807) (h : (fd && A && B) = false) (w : World) :
    Calls Tryd.prog 42 #[.string ⟨s.toArray⟩] w fun r w' => r = .returned (.tuple #[.int .u64 0, .int .i64 10]) ∧ Kb w w' := by
  have k1 := cut_any s 46 b a fd hcut hs
  clear hcut
  cases fd
  · clear h hA hB
    go_enter Tryd.func42, Tryd.ntmps42
    go_wp2_with (first
      | (go_at_call 60; refine (k1 _).mono ?_; rintro e W1 ⟨rfl, g⟩))
    go_ret2
    exact ⟨rfl, g⟩
  · cases A
    · clear h hB
      go_enter Tryd.func42, Tryd.ntmps42
      go_wp2_with (first
        | (go_at_call 60; refine (k1 _).mono ?_; rintro e W1 ⟨rfl, g⟩)
        | (go_at_call 61; refine (allDigits_is _ _ (by with_reducible assumption) (by with_reducible assumption) _).mono ?_; rintro e w' ⟨rfl, rfl⟩))
      go_ret2
      exact ⟨rfl, g⟩
    · cases B
      · clear h
        go_enter Tryd.func42, Tryd.ntmps42
        go_wp2_with (first
          | (go_at_call 60; refine (k1 _).mono ?_; rintro e W1 ⟨rfl, g⟩)
          | (go_at_call 61; refine (allDigits_is _ _ (by with_reducible assumption) (by with_reducible assumption) _).mono ?_; rintro e w' ⟨rfl, rfl⟩))
        go_ret2
        exact ⟨rfl, g⟩
      · cases h
theorem lit_big (s b a : List UInt8) (hs : s.length ≤ 9223372036854775807) (hcut : cut1 s 46 = (b, a, true)) (hA : allD b = true) (hB : allD a = true) (hlb : b.length ≤ 9223372036854775807) (hla : a.length ≤ 9223372036854775807) (hlab : b.length + a.length ≤ 9223372036854775807) (h : 15 < b.length + a.length) (w : World) :
    Calls Tryd.prog 42 #[.string ⟨s.toArray⟩] w fun r w' => r = .returned (.tuple #[.int .u64 0, .int .i64 3]) ∧ Kb w w' := by
  have k1 := cut_any s 46 b a true hcut hs
  have hb := str_len b
  have ha := str_len a
  clear hcut
  go_enter Tryd.func42, Tryd.ntmps42
  go_wp2_with (first
    | (go_at_call 60; refine (k1 _).mono ?_; rintro e W1 ⟨rfl, g⟩)
    | (go_at_call 61; refine (allDigits_is _ _ (by with_reducible assumption) (by with_reducible assumption) _).mono ?_; rintro e w' ⟨rfl, rfl⟩))
  go_ret2
  exact ⟨rfl, g⟩

theorem cut_lens (s b a : List UInt8) (c : UInt8) (fd : Bool) (h : cut1 s c = (b, a, fd)) : b.length + a.length ≤ s.length := by
  unfold cut1 at h
  have hb := indexByte_lt s c
  split at h
  · cases h
    simp
    omega
  · cases h
    simp
theorem lit_any (s : List UInt8) (v e : Int) (h : litS s = (v, e)) (hs : s.length ≤ 9223372036854775807) (w : World) :
    Calls Tryd.prog 42 #[.string ⟨s.toArray⟩] w fun r w' => r = .returned (.tuple #[.int .u64 v, .int .i64 e]) ∧ Kb w w' := by
  obtain ⟨b, a, fd, hcut⟩ : ∃ b a fd, cut1 s 46 = (b, a, fd) := ⟨_, _, _, rfl⟩
  have hlen := cut_lens s b a 46 fd hcut
  unfold litS at h
  rw [hcut] at h
  simp only at h
  cases hg : (fd && allD b && allD a)
  · rw [hg] at h
    cases h
    exact lit_bad s b a fd _ _ hs hcut rfl rfl (by omega) (by omega) hg w
  · rw [hg] at h
    simp only [if_true] at h
    rw [Bool.and_eq_true, Bool.and_eq_true] at hg
    obtain ⟨⟨g1, g2⟩, g3⟩ := hg
    subst g1
    by_cases c : 15 < b.length + a.length
    · rw [if_pos c] at h
      cases h
      exact lit_big s b a hs hcut g2 g3 (by omega) (by omega) (by omega) c w
    · rw [if_neg c] at h
      cases h
      exact lit_good s b a _ _ hs hcut g2 g3 rfl (by omega) rfl w
end Go.Proofs.YtfegnjpajflnkaaDoor
