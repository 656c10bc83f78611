/- What the document's Literal answers, for any text: the same. -/
import Derived.Test.YtfegnjpajflnkaaDoorLit
namespace Go.Proofs.YtfegnjpajflnkaaDoor
open Go.RowKit Fl
set_option linter.unusedSimpArgs false
set_option linter.unusedVariables false

/-- Byte by byte: the number so far, how many digits, how many behind the point, whether the point was there. -/
def litR : List UInt8 → Nat → Nat → Nat → Bool → Option (Nat × Nat × Nat)
  | [], m, n, b, _ => some (m, n, b)
  | c :: r, m, n, b, p =>
    if c = 46 ∧ p = false ∧ 0 < n then litR r m n b true
    else if isd c then litR r (if n + 1 ≤ 15 then stepD m c else m) (n + 1) (if p then b + 1 else b) p
    else none
def outR : Option (Nat × Nat × Nat) → Int × Int
  | none => (0, 10)
  | some (m, n, b) => if b = 0 then (0, 10) else if 15 < n then (0, 3) else ((quoS m (10 ^ b) : Nat), 0)

/-- The number, of the first 15 digits alone. -/
def capD : List UInt8 → Nat → Nat → Nat
  | [], m, _ => m
  | c :: r, m, n => capD r (if n + 1 ≤ 15 then stepD m c else m) (n + 1)
theorem capD_small (l : List UInt8) : ∀ (m n : Nat), n + l.length ≤ 15 → capD l m n = l.foldl stepD m := by
  induction l with
  | nil => intro m n _; rfl
  | cons c l ih =>
    intro m n h
    rw [List.length_cons] at h
    rw [capD, List.foldl_cons, if_pos (by omega), ih _ _ (by omega)]
theorem isd_point : isd 46 = false := by decide

theorem litR_behind (l : List UInt8) : ∀ (m n b : Nat), litR l m n b true = if l.all isd then some (capD l m n, n + l.length, b + l.length) else none := by
  induction l with
  | nil => intro m n b; rfl
  | cons c l ih =>
    intro m n b
    rw [litR, if_neg (by simp), List.all_cons, List.length_cons, capD]
    cases h : isd c
    · simp
    · simp only [if_true, Bool.true_and]
      rw [ih]
      split
      · congr 2
        congr 1 <;> omega
      · rfl

theorem cut_cons (c : UInt8) (l : List UInt8) (h : c ≠ 46) : cut1 (c :: l) 46 = (c :: (cut1 l 46).1, (cut1 l 46).2.1, (cut1 l 46).2.2) := by
  have hge := Lib.indexByte_ge l 46
  unfold cut1
  rw [ib_miss c 46 l h]
  by_cases h2 : Lib.indexByte l 46 = -1
  · rw [if_pos h2, h2, if_neg (by omega), if_neg (by omega)]
  · rw [if_neg h2, if_pos (by omega), if_pos (by omega)]
    obtain ⟨i, hi⟩ := Int.eq_ofNat_of_zero_le (show 0 ≤ Lib.indexByte l 46 by omega)
    rw [hi]
    have e : ((i : Int) + 1).toNat = i + 1 := by omega
    rw [e, Int.toNat_natCast]
    simp
theorem cut_hit (l : List UInt8) : cut1 (46 :: l) 46 = ([], l, true) := by
  unfold cut1
  rw [ib_hit]
  simp
theorem cut_nil : cut1 [] 46 = ([], [], false) := by decide

theorem litR_ahead (l : List UInt8) : ∀ (m n : Nat), litR l m n 0 false =
    if (cut1 l 46).1.all isd then
      if (cut1 l 46).2.2 then
        if 0 < n + (cut1 l 46).1.length ∧ (cut1 l 46).2.1.all isd = true then some (capD ((cut1 l 46).1 ++ (cut1 l 46).2.1) m n, n + (cut1 l 46).1.length + (cut1 l 46).2.1.length, (cut1 l 46).2.1.length) else none
      else some (capD (cut1 l 46).1 m n, n + (cut1 l 46).1.length, 0)
    else none := by
  induction l with
  | nil => intro m n; rw [cut_nil]; rfl
  | cons c l ih =>
    intro m n
    by_cases h : c = 46
    · subst h
      rw [cut_hit, litR]
      simp only [List.all_nil, if_true, List.length_nil, Nat.add_zero, List.nil_append]
      by_cases hn : 0 < n
      · rw [if_pos ⟨trivial, trivial, hn⟩, litR_behind]
        by_cases ha : l.all isd = true
        · rw [if_pos ha, if_pos ⟨hn, ha⟩, Nat.zero_add]
        · rw [if_neg ha, if_neg (fun g => ha g.2)]
      · rw [if_neg (fun g => hn g.2.2), isd_point, if_neg (show ¬ (false = true) by simp), if_neg (fun g => hn g.1)]
    · rw [cut_cons c l h, litR, if_neg (fun g => h g.1)]
      simp only [List.all_cons, List.length_cons, List.cons_append, capD, Bool.false_eq_true, if_false]
      cases hd : isd c
      · simp
      · simp only [if_true, Bool.true_and]
        rw [ih]
        have e1 : n + 1 + (cut1 l 46).1.length = n + ((cut1 l 46).1.length + 1) := by omega
        rw [e1]

theorem litR_litS (s : List UInt8) : outR (litR s 0 0 0 false) = litS s := by
  rw [litR_ahead]
  unfold litS allD
  generalize cut1 s 46 = q
  obtain ⟨b, a, fd⟩ := q
  simp only
  cases hb : b.all isd
  · simp [outR]
  · simp only [if_true, Bool.true_and]
    cases fd
    · simp [outR]
    · simp only [if_true, Bool.true_and]
      cases b with
      | nil => simp [outR]
      | cons c b =>
        cases ha : a.all isd
        · simp [outR]
        · cases a with
          | nil => simp [outR]
          | cons d a =>
            rw [if_pos ⟨by simp, rfl⟩]
            simp only [outR, List.isEmpty_cons, Bool.not_false, Bool.and_self, if_true]
            rw [if_neg (by simp), Nat.zero_add]
            by_cases hl : 15 < (c :: b).length + (d :: a).length
            · rw [if_pos hl, if_pos hl]
            · rw [if_neg hl, if_neg hl, capD_small _ _ _ (by rw [List.length_append]; omega)]
              rfl

def capPow (n : Nat) : Nat := 10 ^ (min n 15)
theorem cap_le (n : Nat) : capPow n ≤ 1000000000000000 := pow10_le _ (Nat.min_le_right _ _)
theorem cap_step (m n D : Nat) (h : m < capPow n) (hn : n + 1 ≤ 15) (hD : D ≤ 9) : m * 10 + D < capPow (n + 1) := by
  unfold capPow at *
  rw [Nat.min_eq_left (by omega)] at h
  rw [Nat.min_eq_left hn, Nat.pow_succ]
  omega
theorem cap_keep (m n : Nat) (h : m < capPow n) (hn : ¬ n + 1 ≤ 15) : m < capPow (n + 1) := by
  unfold capPow at *
  rw [Nat.min_eq_right (by omega)] at h ⊢
  exact h

set_option maxRecDepth 20000 in
set_option maxHeartbeats 8000000 in
theorem rlit_walk (s : List UInt8) (R : Option (Nat × Nat × Nat)) (hR : Hidden (litR s 0 0 0 false = R)) (hs : s.length ≤ 9223372036854775807) (w : World) :
    Calls Tryd.prog 43 #[.string ⟨s.toArray⟩] w fun r w' => r = .returned (.tuple #[.int .u64 (outR R).1, .int .i64 (outR R).2]) ∧ Kb w w' := by
  have hsl := str_len s
  go_enter Tryd.func43, Tryd.ntmps43
  go_wp2
  go_loopg [4, 5, 6, 7, 8] s.length (fun k mv nv bv pv iv wr => ∃ (j m n b : Nat) (p : Bool), mv = .int .i64 (m : Int) ∧ nv = .int .i64 (n : Int) ∧ bv = .int .i64 (b : Int) ∧ pv = .bool p ∧ iv = .int .i64 (j : Int) ∧ j ≤ s.length ∧ n ≤ j ∧ b ≤ n ∧ m < capPow n ∧ litR (s.drop j) m n b p = R ∧ k = s.length - j ∧ wr = w)
  case atStart => exact ⟨0, 0, 0, 0, false, rfl, rfl, rfl, rfl, rfl, by omega, by omega, by omega, by decide, hR, rfl, rfl⟩
  case round =>
    obtain ⟨j, m, n, b, p, rfl, rfl, rfl, rfl, rfl, hj, hn, hb, hm, hf, hgk, rfl⟩ := hrel
    have hgkH : Hidden (gk = s.length - j) := hgk
    have hmH : Hidden (m < capPow n) := hm
    have hm15 : m < 1000000000000000 := Nat.lt_of_lt_of_le hm (cap_le n)
    clear hgk hm
    by_cases hjl : j < s.length
    · obtain ⟨c, hc⟩ : ∃ c, s[j]? = some c := ⟨s[j], List.getElem?_eq_getElem hjl⟩
      have hdr : s.drop j = c :: s.drop (j + 1) := by
        have := List.drop_eq_getElem_cons hjl
        rw [List.getElem?_eq_getElem hjl] at hc
        cases hc
        exact this
      have hx := str_index s j c hc
      rw [hdr, litR] at hf
      clear hdr hc
      have kd := digit_any c
      by_cases c1 : c = 46
      · subst c1
        rw [show hix 46 = -1 by decide] at kd
        cases p
        · by_cases c2 : 0 < n
          · rw [if_pos ⟨rfl, rfl, c2⟩] at hf
            have hfH : Hidden (litR (s.drop (j + 1)) m n b true = R) := hf
            clear hf
            go_wp2_with (go_at_call 62; refine (kd _).mono ?_; rintro e w' ⟨rfl, rfl⟩)
            go_roundg (s.length - (j + 1))
            case measure =>
              have : gk = s.length - j := hgkH
              omega
            case rel => exact ⟨j + 1, m, n, b, true, rfl, rfl, rfl, rfl, by go_num, by omega, by omega, hb, hmH, hfH, rfl, rfl⟩
          · obtain rfl : n = 0 := by omega
            rw [if_neg (fun g => c2 g.2.2), isd_point, if_neg (show ¬ (false = true) by simp)] at hf
            subst hf
            go_wp2_with (go_at_call 62; refine (kd _).mono ?_; rintro e w' ⟨rfl, rfl⟩)
            go_ret2
            exact ⟨rfl, Kb.refl _⟩
        · rw [if_neg (by simp), isd_point, if_neg (show ¬ (false = true) by simp)] at hf
          subst hf
          go_wp2_with (go_at_call 62; refine (kd _).mono ?_; rintro e w' ⟨rfl, rfl⟩)
          go_ret2
          exact ⟨rfl, Kb.refl _⟩
      · rw [if_neg (fun g => c1 g.1)] at hf
        have c1' : ((c.toNat : Int) == 46) = false := by
          simp only [beq_eq_false_iff_ne, ne_eq]
          intro h
          exact c1 (UInt8.toNat_inj.1 (show c.toNat = 46 by omega))
        clear c1
        rcases hix_isd c with ⟨k1, k2⟩ | ⟨k1, k2⟩
        · rw [if_pos k1] at hf
          obtain ⟨D, hD, hD9⟩ := isd_lt c k1
          have hDi : hix c = (D : Int) := by omega
          rw [hDi] at kd
          have hst : stepD m c = m * 10 + D := by unfold stepD; rw [hD, Nat.add_sub_cancel]
          rw [hst] at hf
          clear hDi hst k1 k2 hD
          by_cases c2 : n + 1 ≤ 15
          · rw [if_pos c2] at hf
            have hp2 : Hidden (m * 10 + D < capPow (n + 1)) := cap_step m n D hmH c2 hD9
            cases p
            · have hfH : Hidden (litR (s.drop (j + 1)) (m * 10 + D) (n + 1) b false = R) := hf
              clear hf
              go_wp2_with (go_at_call 62; refine (kd _).mono ?_; rintro e w' ⟨rfl, rfl⟩)
              go_roundg (s.length - (j + 1))
              case measure =>
                have : gk = s.length - j := hgkH
                omega
              case rel => exact ⟨j + 1, m * 10 + D, n + 1, b, false, by go_num, by go_num, rfl, rfl, by go_num, by omega, by omega, by omega, hp2, hfH, rfl, rfl⟩
            · have hfH : Hidden (litR (s.drop (j + 1)) (m * 10 + D) (n + 1) (b + 1) true = R) := hf
              clear hf
              go_wp2_with (go_at_call 62; refine (kd _).mono ?_; rintro e w' ⟨rfl, rfl⟩)
              go_roundg (s.length - (j + 1))
              case measure =>
                have : gk = s.length - j := hgkH
                omega
              case rel => exact ⟨j + 1, m * 10 + D, n + 1, b + 1, true, by go_num, by go_num, by go_num, rfl, by go_num, by omega, by omega, by omega, hp2, hfH, rfl, rfl⟩
          · rw [if_neg c2] at hf
            have hp2 : Hidden (m < capPow (n + 1)) := cap_keep m n hmH c2
            cases p
            · have hfH : Hidden (litR (s.drop (j + 1)) m (n + 1) b false = R) := hf
              clear hf
              go_wp2_with (go_at_call 62; refine (kd _).mono ?_; rintro e w' ⟨rfl, rfl⟩)
              go_roundg (s.length - (j + 1))
              case measure =>
                have : gk = s.length - j := hgkH
                omega
              case rel => exact ⟨j + 1, m, n + 1, b, false, rfl, by go_num, rfl, rfl, by go_num, by omega, by omega, by omega, hp2, hfH, rfl, rfl⟩
            · have hfH : Hidden (litR (s.drop (j + 1)) m (n + 1) (b + 1) true = R) := hf
              clear hf
              go_wp2_with (go_at_call 62; refine (kd _).mono ?_; rintro e w' ⟨rfl, rfl⟩)
              go_roundg (s.length - (j + 1))
              case measure =>
                have : gk = s.length - j := hgkH
                omega
              case rel => exact ⟨j + 1, m, n + 1, b + 1, true, rfl, by go_num, by go_num, rfl, by go_num, by omega, by omega, by omega, hp2, hfH, rfl, rfl⟩
        · rw [k1, if_neg (show ¬ (false = true) by simp)] at hf
          subst hf
          clear k1
          rcases k2 with k2 | k2
          all_goals
            generalize hix c = D at *
            go_wp2_with (go_at_call 62; refine (kd _).mono ?_; rintro e w' ⟨rfl, rfl⟩)
            go_ret2
            exact ⟨rfl, Kb.refl _⟩
    · obtain rfl : j = s.length := by omega
      rw [List.drop_length, litR] at hf
      subst hf
      by_cases c1 : b = 0
      · subst c1
        go_wp2
        go_ret2
        exact ⟨rfl, Kb.refl _⟩
      · have c1' : ((b : Int) == 0) = false := by
          simp only [beq_eq_false_iff_ne, ne_eq]
          omega
        by_cases c2 : 15 < n
        · have e : Hidden (outR (some (m, n, b)) = (0, 3)) := by show _ = _; simp [outR, c1, c2]
          go_wp2
          go_ret2
          exact ⟨by rw [show outR (some (m, n, b)) = _ from e]; rfl, Kb.refl _⟩
        · have e : Hidden (outR (some (m, n, b)) = (((quoS m (10 ^ b) : Nat) : Int), 0)) := by show _ = _; simp [outR, c1, c2]
          have hpb := pow10_le b (by omega)
          have hpb0 : 10 ^ b ≠ 0 := by have := Nat.pow_pos (n := b) (show 0 < 10 by decide); omega
          obtain ⟨hq1, hq2⟩ := quoS_some m (10 ^ b) (by omega) (by omega) hpb0
          have hrun := run_float_arith (P := Tryd.prog) wr .quo 42 .f64 _ _ _ hq1
          have hbt := run_bits (quoS m (10 ^ b) : Nat) (U_of_bits hq1)
          simp only [Int.toNat_natCast] at hbt
          generalize quoS m (10 ^ b) = V at *
          generalize hPP : 10 ^ b = PP at *
          have hPH : Hidden (10 ^ b = PP) := hPP
          clear hPP hq1 hpb0 c1 hmH hgkH
          go_wp2
          go_loopg [10, 11] b (fun k kv iv wx => ∃ j p : Nat, kv = .int .i64 (p : Int) ∧ iv = .int .i64 (j : Int) ∧ p = 10 ^ j ∧ j ≤ b ∧ k = b - j ∧ wx = wr)
          case atStart => exact ⟨0, 1, rfl, rfl, by simp, by omega, rfl, rfl⟩
          case round =>
            obtain ⟨i, p, rfl, rfl, hp, hi, hgk2, rfl⟩ := hrel
            have hgkH2 : Hidden (gk = b - i) := hgk2
            have hpb := pow10_le i (by omega)
            rw [← hp] at hpb
            have hpH : Hidden (p = 10 ^ i) := hp
            clear hp hgk2
            by_cases hia : i < b
            · have hpn : Hidden (p * 10 = 10 ^ (i + 1)) := by
                show _ = _
                rw [Nat.pow_succ, ← show p = 10 ^ i from hpH]
              go_wp2
              go_roundg (b - (i + 1))
              case measure =>
                have : gk = b - i := hgkH2
                omega
              case rel => exact ⟨i + 1, p * 10, by go_num, by go_num, hpn, by omega, rfl, rfl⟩
            · obtain rfl : i = b := by omega
              obtain rfl : p = PP := (show p = _ from hpH).trans hPH
              go_wp2
              go_ret2
              exact ⟨by rw [show outR _ = _ from e]; rfl, Kb.refl _⟩
theorem rlit_any (s : List UInt8) (v e : Int) (h : litS s = (v, e)) (hs : s.length ≤ 9223372036854775807) (w : World) :
    Calls Tryd.prog 43 #[.string ⟨s.toArray⟩] w fun r w' => r = .returned (.tuple #[.int .u64 v, .int .i64 e]) ∧ Kb w w' := by
  have k := rlit_walk s _ rfl hs w
  rw [litR_litS, h] at k
  exact k
end Go.Proofs.YtfegnjpajflnkaaDoor
