/- What Parse answers, for any text. -/
import Derived.Test.YtfegnjpajflnkaaDoorParse
namespace Go.Proofs.YtfegnjpajflnkaaDoor
open Go.RowKit Fl
set_option linter.unusedSimpArgs false
set_option linter.unusedVariables false

def rsS (l : List UInt8) : Int × Bool :=
  if l == [110, 97, 110] then (9221120237041090561, true) else if l == [105, 110, 102] then (9218868437227405312, true) else if l == [48, 120, 48, 112, 43, 48] then (0, true)
  else if Lib.hasPrefix l [48, 120, 49] = false ∨ (cut1 (Lib.trimPrefix l [48, 120, 49]) 112).2.2 = false then (0, false)
  else if (rfS (cut1 (Lib.trimPrefix l [48, 120, 49]) 112).1).2 = false ∨ (reS (cut1 (Lib.trimPrefix l [48, 120, 49]) 112).2.1).2 = false then (0, false)
  else ((joinS (rfS (cut1 (Lib.trimPrefix l [48, 120, 49]) 112).1).1 (reS (cut1 (Lib.trimPrefix l [48, 120, 49]) 112).2.1).1 : Nat), true)

theorem rs_U (l : List UInt8) : U (rsS l).1 := by
  unfold rsS
  repeat' split
  · exact ⟨by simp, by simp⟩
  · exact ⟨by simp, by simp⟩
  · exact ⟨by simp, by simp⟩
  · exact ⟨by simp, by simp⟩
  · exact ⟨by simp, by simp⟩
  · rename_i h
    generalize cut1 (Lib.trimPrefix l [48, 120, 49]) 112 = q at *
    have h1 := rfS_lt q.1
    have h2 := reS_ok q.2.1 (by
      cases e : (reS q.2.1).2
      · exact absurd (Or.inr e) h
      · rfl)
    have := join_U _ _ h1 h2.1 h2.2
    exact ⟨by simp, by simp only; omega⟩

theorem trim_len (l p : List UInt8) : (Lib.trimPrefix l p).length ≤ l.length := by
  unfold Lib.trimPrefix
  split <;> simp

theorem rs_walk (l t b a : List UInt8) (c1 c2 c3 hp fd fok eok : Bool) (f : Nat) (e : Int) (hl : l.length ≤ 9223372036854775807)
    (h1 : (l == [110, 97, 110]) = false) (h2 : (l == [105, 110, 102]) = false) (h3 : (l == [48, 120, 48, 112, 43, 48]) = false)
    (hhp : Lib.hasPrefix l [48, 120, 49] = hp) (htr : Lib.trimPrefix l [48, 120, 49] = t) (hcut : cut1 t 112 = (b, a, fd)) (hrf : rfS b = (f, fok)) (hre : reS a = (e, eok)) (w : World) :
    Calls Tryd.prog 58 #[.string ⟨l.toArray⟩] w fun r w' => r = .returned (.tuple #[.int .u64 (rsS l).1, .bool (rsS l).2]) ∧ Kb w w' := by
  have htl : t.length ≤ 9223372036854775807 := by have := trim_len l [48, 120, 49]; rw [htr] at this; omega
  have k1 := cutp_any l [48, 120, 49] t hp htr hhp
  have k2 := cut_any t 112 b a fd hcut htl
  have k3 := rf_any b f fok hrf
  have k4 := re_any a e eok hre
  have hfl := rfS_lt b
  rw [hrf] at hfl
  have heo := reS_ok a
  rw [hre] at heo
  simp only at hfl heo
  have hrs : rsS l = if hp = false ∨ fd = false then ((0 : Int), false) else if fok = false ∨ eok = false then ((0 : Int), false) else (((joinS f e : Nat) : Int), true) := by
    unfold rsS
    rw [h1, h2, h3, hhp, htr, hcut, hrf, hre]
    rfl
  rw [hrs]
  clear hrs hhp htr hcut hrf hre
  cases hp
  · simp only [true_or, if_true]
    go_enter Tryd.func58, Tryd.ntmps58
    go_wp2_with (first
      | (go_at_call 57; refine (k1 _).mono ?_; rintro e w' ⟨rfl, rfl⟩)
      | (go_at_call 60; refine (k2 _).mono ?_; rintro e w' ⟨rfl, g⟩)
      | (go_at_call 70; refine (k3 _).mono ?_; rintro e w' ⟨rfl, rfl⟩)
      | (go_at_call 71; refine (k4 _).mono ?_; rintro e w' ⟨rfl, rfl⟩))
    go_ret2
    exact ⟨rfl, g⟩
  · cases fd
    · simp only [or_true, if_true]
      go_enter Tryd.func58, Tryd.ntmps58
      go_wp2_with (first
        | (go_at_call 57; refine (k1 _).mono ?_; rintro e w' ⟨rfl, rfl⟩)
        | (go_at_call 60; refine (k2 _).mono ?_; rintro e w' ⟨rfl, g⟩)
        | (go_at_call 70; refine (k3 _).mono ?_; rintro e w' ⟨rfl, rfl⟩)
        | (go_at_call 71; refine (k4 _).mono ?_; rintro e w' ⟨rfl, rfl⟩))
      go_ret2
      exact ⟨rfl, g⟩
    · cases fok
      · simp only [Bool.true_eq_false, or_self, if_false, true_or, if_true]
        go_enter Tryd.func58, Tryd.ntmps58
        go_wp2_with (first
          | (go_at_call 57; refine (k1 _).mono ?_; rintro e w' ⟨rfl, rfl⟩)
          | (go_at_call 60; refine (k2 _).mono ?_; rintro e w' ⟨rfl, g⟩)
          | (go_at_call 70; refine (k3 _).mono ?_; rintro e w' ⟨rfl, rfl⟩)
          | (go_at_call 71; refine (k4 _).mono ?_; rintro e w' ⟨rfl, rfl⟩))
        go_ret2
        exact ⟨rfl, g⟩
      · cases eok
        · simp only [Bool.true_eq_false, or_self, if_false, or_true, if_true]
          go_enter Tryd.func58, Tryd.ntmps58
          go_wp2_with (first
            | (go_at_call 57; refine (k1 _).mono ?_; rintro e w' ⟨rfl, rfl⟩)
            | (go_at_call 60; refine (k2 _).mono ?_; rintro e w' ⟨rfl, g⟩)
            | (go_at_call 70; refine (k3 _).mono ?_; rintro e w' ⟨rfl, rfl⟩)
            | (go_at_call 71; refine (k4 _).mono ?_; rintro e w' ⟨rfl, rfl⟩))
          go_ret2
          exact ⟨rfl, g⟩
        · have kj := join_any f e hfl (heo rfl).1 (heo rfl).2
          simp only [Bool.true_eq_false, or_self, if_false]
          go_enter Tryd.func58, Tryd.ntmps58
          go_wp2_with (first
            | (go_at_call 57; refine (k1 _).mono ?_; rintro e w' ⟨rfl, rfl⟩)
            | (go_at_call 60; refine (k2 _).mono ?_; rintro e w' ⟨rfl, g⟩)
            | (go_at_call 70; refine (k3 _).mono ?_; rintro e w' ⟨rfl, rfl⟩)
            | (go_at_call 71; refine (k4 _).mono ?_; rintro e w' ⟨rfl, rfl⟩)
            | (go_at_call 72; refine (kj _).mono ?_; rintro e w' ⟨rfl, rfl⟩))
          go_ret2
          exact ⟨rfl, g⟩

theorem rs_any (l : List UInt8) (hl : l.length ≤ 9223372036854775807) (w : World) :
    Calls Tryd.prog 58 #[.string ⟨l.toArray⟩] w fun r w' => r = .returned (.tuple #[.int .u64 (rsS l).1, .bool (rsS l).2]) ∧ Kb w w' := by
  by_cases h1 : l = [110, 97, 110]
  · subst h1
    go_enter Tryd.func58, Tryd.ntmps58
    go_wp2
    go_ret2
    exact ⟨rfl, Kb.refl _⟩
  by_cases h2 : l = [105, 110, 102]
  · subst h2
    go_enter Tryd.func58, Tryd.ntmps58
    go_wp2
    go_ret2
    exact ⟨rfl, Kb.refl _⟩
  by_cases h3 : l = [48, 120, 48, 112, 43, 48]
  · subst h3
    go_enter Tryd.func58, Tryd.ntmps58
    go_wp2
    go_ret2
    exact ⟨rfl, Kb.refl _⟩
  exact rs_walk l _ _ _ true true true _ _ _ _ _ _ hl (by simpa using h1) (by simpa using h2) (by simpa using h3) rfl rfl rfl rfl rfl w

def signed_ (n : Bool) (a : Int) : Int := if n then negS a else a
def parseS (s : List UInt8) : Int × Int :=
  if (rsS (Lib.trimPrefix s [45])).2 && (textS (signed_ (Lib.hasPrefix s [45]) (rsS (Lib.trimPrefix s [45])).1) == s) then (signed_ (Lib.hasPrefix s [45]) (rsS (Lib.trimPrefix s [45])).1, 0) else (0, 10)

theorem parse_walk (s t T : List UInt8) (n ok eq : Bool) (a a2 : Int) (hs : s.length ≤ 9223372036854775807) (hn : Lib.hasPrefix s [45] = n) (ht : Lib.trimPrefix s [45] = t) (hr : rsS t = (a, ok)) (ha : U a) (ha2 : signed_ n a = a2) (hT : textS a2 = T) (heq : (T == s) = eq) (w : World) (htab : Tab w) :
    Calls Tryd.prog 40 #[.string ⟨s.toArray⟩] w fun r w' => r = .returned (.tuple #[.int .u64 (if ok && eq then a2 else 0), .int .i64 (if ok && eq then 0 else 10)]) ∧ Kb w w' := by
  have htl : t.length ≤ 9223372036854775807 := by have := trim_len s [45]; rw [ht] at this; omega
  have k1 := cutp_any s [45] t n ht hn
  have k2 := rs_any t htl
  rw [hr] at k2
  simp only at k2
  have kn := neg_any a ha
  have hu2 : U a2 := by
    rw [← ha2]
    unfold signed_
    split
    · exact neg_U a ha
    · exact ha
  have kt := text_any a2 hu2
  rw [hT] at kt
  have hne : (T != s) = !eq := by rw [← heq]; rfl
  clear hn ht hr hT
  cases n
  · have e : a = a2 := by rw [← ha2]; rfl
    rw [← e] at kt ⊢
    clear ha2 e kn
    cases ok
    · simp only [Bool.false_and, Bool.false_eq_true, if_false]
      go_enter Tryd.func40, Tryd.ntmps40
      go_wp2_with (first
        | (go_at_call 57; refine (k1 _).mono ?_; rintro e w' ⟨rfl, rfl⟩)
        | (go_at_call 58; refine (k2 _).mono ?_; rintro e w' ⟨rfl, g⟩; have ht1 := tab_kb htab g))
      go_ret2
      exact ⟨rfl, g⟩
    · cases eq
      all_goals
        simp only [Bool.true_and, Bool.false_eq_true, if_false, if_true]
        go_enter Tryd.func40, Tryd.ntmps40
        go_wp2_with (first
          | (go_at_call 57; refine (k1 _).mono ?_; rintro e w' ⟨rfl, rfl⟩)
          | (go_at_call 58; refine (k2 _).mono ?_; rintro e w' ⟨rfl, g⟩; have ht1 := tab_kb htab g)
          | (go_at_call 21; refine (kt _ (by with_reducible assumption)).mono ?_; rintro e w' ⟨rfl, g2⟩))
        go_ret2
        exact ⟨rfl, g.trans g2⟩
  · have e : negS a = a2 := by rw [← ha2]; rfl
    rw [e] at kn
    clear ha2 e
    cases ok
    · simp only [Bool.false_and, Bool.false_eq_true, if_false]
      go_enter Tryd.func40, Tryd.ntmps40
      go_wp2_with (first
        | (go_at_call 57; refine (k1 _).mono ?_; rintro e w' ⟨rfl, rfl⟩)
        | (go_at_call 17; refine (kn _).mono ?_; rintro e w' ⟨rfl, rfl⟩)
        | (go_at_call 58; refine (k2 _).mono ?_; rintro e w' ⟨rfl, g⟩; have ht1 := tab_kb htab g))
      go_ret2
      exact ⟨rfl, g⟩
    · cases eq
      all_goals
        simp only [Bool.true_and, Bool.false_eq_true, if_false, if_true]
        go_enter Tryd.func40, Tryd.ntmps40
        go_wp2_with (first
          | (go_at_call 57; refine (k1 _).mono ?_; rintro e w' ⟨rfl, rfl⟩)
          | (go_at_call 17; refine (kn _).mono ?_; rintro e w' ⟨rfl, rfl⟩)
          | (go_at_call 58; refine (k2 _).mono ?_; rintro e w' ⟨rfl, g⟩; have ht1 := tab_kb htab g)
          | (go_at_call 21; refine (kt _ (by with_reducible assumption)).mono ?_; rintro e w' ⟨rfl, g2⟩))
        go_ret2
        exact ⟨rfl, g.trans g2⟩

theorem parse_any (s : List UInt8) (a e : Int) (h : parseS s = (a, e)) (hs : s.length ≤ 9223372036854775807) (w : World) (htab : Tab w) :
    Calls Tryd.prog 40 #[.string ⟨s.toArray⟩] w fun r w' => r = .returned (.tuple #[.int .u64 a, .int .i64 e]) ∧ Kb w w' := by
  have k := parse_walk s (Lib.trimPrefix s [45]) (textS (signed_ (Lib.hasPrefix s [45]) (rsS (Lib.trimPrefix s [45])).1)) (Lib.hasPrefix s [45]) (rsS (Lib.trimPrefix s [45])).2 (textS (signed_ (Lib.hasPrefix s [45]) (rsS (Lib.trimPrefix s [45])).1) == s) (rsS (Lib.trimPrefix s [45])).1 (signed_ (Lib.hasPrefix s [45]) (rsS (Lib.trimPrefix s [45])).1) hs rfl rfl rfl (rs_U _) rfl rfl rfl w htab
  unfold parseS at h
  split at h
  · rename_i hc
    cases h
    rw [hc] at k
    exact k
  · rename_i hc
    cases h
    have hc' := Bool.eq_false_iff.2 hc
    rw [hc'] at k
    exact k
end Go.Proofs.YtfegnjpajflnkaaDoor
