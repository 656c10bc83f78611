/- slices.BinarySearch in a set. -/
import Derived.Test.YtlbcneoebamjiaaNmCmp
import Derived.Test.YtlbcneoebamjiaaNmApp
namespace Go.Proofs.Ytlbcneoebamjiaa
open Go.RowKit Go.Sort
set_option linter.unusedSimpArgs false
set_option linter.unusedVariables false

theorem less_any (x y : Str) (r : Bool) (hr : decide (x < y) = r) (w : World) : Calls Try.prog 57 #[.string ⟨x.toArray⟩, .string ⟨y.toArray⟩] w fun e w' => e = .returned (.bool r) ∧ w' = w := by
  have kn := isnan_any
  have h1 : Op.bytesLess x y = r := by rw [bytesLess_eq, hr]
  clear hr
  go_enter Try.func57, Try.ntmps57
  go_wp2_with (go_at_call 54; refine (kn _ _).mono ?_; rintro e w' ⟨rfl, rfl⟩)
  go_ret
  exact ⟨by simp [h1], rfl⟩
theorem snan_any (x : Str) (w : World) : Calls Try.prog 58 #[.string ⟨x.toArray⟩] w fun e w' => e = .returned (.bool false) ∧ w' = w := by
  go_enter Try.func58, Try.ntmps58
  go_wp2
  go_ret
  exact ⟨by simp, rfl⟩

theorem SS.get {l : List Str} (h : SS l) {i j : Nat} {x y : Str} (hx : l[i]? = some x) (hy : l[j]? = some y) (hij : i < j) : x < y := by
  obtain ⟨hi, rfl⟩ := List.getElem?_eq_some_iff.1 hx
  obtain ⟨hj, rfl⟩ := List.getElem?_eq_some_iff.1 hy
  exact List.pairwise_iff_getElem.1 h i j hi hj hij

set_option maxHeartbeats 1000000 in
theorem bin_walk (ao : Option Addr) (n cap : Nat) (l : List Str) (x : Str) (w : World) (hn : Hidden (l.length = n)) (h1 : n ≤ cap) (h2 : cap ≤ 9223372036854775807) (hbig : n < 4611686018427387904) (hss : Hidden (SS l))
    (ha : Hidden (l = [] ∨ ∃ b off, ao = some ⟨b, off, none⟩ ∧ ∀ (i : Nat) (x : Str), l[i]? = some x → w.cell? ⟨b, off + i, none⟩ = some (encStr x))) (r : Bool) (hr : Hidden (decide (x ∈ l) = r)) :
    Calls Try.prog 51 #[.slice ao n cap, .string ⟨x.toArray⟩] w fun e w' => (∃ i : Int, e = .returned (.tuple #[.int .i64 i, .bool r])) ∧ w' = w := by
  have kl := fun y r hr => less_any y x r hr
  have ks := snan_any
  go_enter Try.func51, Try.ntmps51
  go_wp2
  go_loopg [7, 8] n (fun g s7 s8 wr => ∃ lo hi : Nat, s7 = .int .i64 lo ∧ s8 = .int .i64 hi ∧ lo ≤ hi ∧ hi ≤ n ∧ hi - lo ≤ g ∧ wr = w ∧ (∀ t y, l[t]? = some y → t < lo → y < x) ∧ (∀ t y, l[t]? = some y → hi ≤ t → ¬ y < x))
  case atStart => exact ⟨0, n, rfl, rfl, by omega, by omega, by omega, rfl, fun _ _ _ h => absurd h (by omega), fun t y hy ht => by
    have := (List.getElem?_eq_some_iff.1 hy).1
    have hn' : l.length = n := hn
    omega⟩
  case round =>
    obtain ⟨lo, hi, rfl, rfl, hlh, hin, hg, rfl, hA, hB⟩ := hrel
    have hAH : Hidden (∀ t y, l[t]? = some y → t < lo → y < x) := hA
    have hBH : Hidden (∀ t y, l[t]? = some y → hi ≤ t → ¬ y < x) := hB
    have hn' : l.length = n := hn
    clear hA hB
    by_cases hlt : lo < hi
    · obtain ⟨y, hy⟩ : ∃ y, l[(lo + hi) / 2]? = some y := ⟨l[(lo + hi) / 2]'(by omega), List.getElem?_eq_getElem _⟩
      rcases (show l = [] ∨ _ from ha) with h0 | ⟨b, off, rfl, hc⟩
      · rw [h0] at hy; simp at hy
      have cm := hc _ y hy
      have hyH : Hidden (l[(lo + hi) / 2]? = some y) := hy
      clear hc hy hn'
      by_cases hyx : y < x
      · have k1 := kl y true (decide_eq_true hyx)
        have hyxH : Hidden (y < x) := hyx
        clear hyx kl
        go_wp2_with (first | (go_at_call 57; refine (k1 _).mono ?_; rintro e w' ⟨rfl, rfl⟩) | (go_at_call 58; refine (ks _ _).mono ?_; rintro e w' ⟨rfl, rfl⟩))
        go_roundg (hi - ((lo + hi) / 2 + 1))
        case measure => omega
        case rel =>
          refine ⟨(lo + hi) / 2 + 1, hi, by rw [show ((lo : Int) + (hi : Int)) / 2 + 1 = (((lo + hi) / 2 + 1 : Nat) : Int) by omega], rfl, by omega, hin, Nat.le_refl _, rfl, fun t z hz ht => ?_, hBH⟩
          by_cases e : t = (lo + hi) / 2
          · subst e
            have := (show l[(lo + hi) / 2]? = some y from hyH)
            rw [hz] at this
            obtain rfl := Option.some.inj this
            exact hyxH
          · exact Std.lt_trans ((show SS l from hss).get hz hyH (by omega)) (show y < x from hyxH)
      · have k1 := kl y false (decide_eq_false hyx)
        have hyxH : Hidden (¬ y < x) := hyx
        clear hyx kl
        go_wp2_with (first | (go_at_call 57; refine (k1 _).mono ?_; rintro e w' ⟨rfl, rfl⟩) | (go_at_call 58; refine (ks _ _).mono ?_; rintro e w' ⟨rfl, rfl⟩))
        go_roundg ((lo + hi) / 2 - lo)
        case measure => omega
        case rel =>
          refine ⟨lo, (lo + hi) / 2, rfl, by rw [show ((lo : Int) + (hi : Int)) / 2 = (((lo + hi) / 2 : Nat) : Int) by omega], by omega, by omega, Nat.le_refl _, rfl, hAH, fun t z hz ht hzx => ?_⟩
          by_cases e : t = (lo + hi) / 2
          · subst e
            have := (show l[(lo + hi) / 2]? = some y from hyH)
            rw [hz] at this
            obtain rfl := Option.some.inj this
            exact (show ¬ z < x from hyxH) hzx
          · exact (show ¬ y < x from hyxH) (Std.lt_trans ((show SS l from hss).get hyH hz (by omega)) hzx)
    · obtain rfl : hi = lo := by omega
      clear kl
      by_cases hln : hi < n
      · obtain ⟨y, hy⟩ : ∃ y, l[hi]? = some y := ⟨l[hi], List.getElem?_eq_getElem (by omega)⟩
        rcases (show l = [] ∨ _ from ha) with h0 | ⟨b, off, rfl, hc⟩
        · rw [h0] at hy; simp at hy
        have cm := hc _ y hy
        have hyH : Hidden (l[hi]? = some y) := hy
        clear hc hy hn'
        by_cases hyx : y = x
        · subst hyx
          have hrr : Hidden (r = true) := by
            show r = true
            rw [← (show decide (y ∈ l) = r from hr), decide_eq_true (List.mem_of_getElem? (show l[hi]? = some y from hyH))]
          go_wp2_with (first | (go_at_call 58; refine (ks _ _).mono ?_; rintro e w' ⟨rfl, rfl⟩))
          go_ret2
          exact ⟨⟨hi, by rw [show r = true from hrr]; rfl⟩, rfl⟩
        · have hne : (y == x) = false := beq_eq_false_iff_ne.2 hyx
          have hrr : Hidden (r = false) := by
            show r = false
            rw [← (show decide (x ∈ l) = r from hr), decide_eq_false]
            intro hx
            obtain ⟨t, ht⟩ := List.getElem?_of_mem hx
            rcases Nat.lt_trichotomy t hi with g | g | g
            · exact Std.lt_irrefl ((show ∀ t y, l[t]? = some y → t < hi → y < x from hAH) t x ht g)
            · subst g
              rw [show l[t]? = some y from hyH] at ht
              exact hyx (Option.some.inj ht)
            · exact (show ∀ t y, l[t]? = some y → hi ≤ t → ¬ y < x from hBH) hi y hyH (Nat.le_refl _) ((show SS l from hss).get hyH ht g)
          clear hyx
          go_wp2_with (first | (go_at_call 58; refine (ks _ _).mono ?_; rintro e w' ⟨rfl, rfl⟩))
          go_ret2
          exact ⟨⟨hi, by rw [show r = false from hrr]; rfl⟩, rfl⟩
      · have hrr : Hidden (r = false) := by
          show r = false
          rw [← (show decide (x ∈ l) = r from hr), decide_eq_false]
          intro hx
          obtain ⟨t, ht⟩ := List.getElem?_of_mem hx
          have htl := (List.getElem?_eq_some_iff.1 ht).1
          exact Std.lt_irrefl ((show ∀ t y, l[t]? = some y → t < hi → y < x from hAH) t x ht (by omega))
        clear hn'
        go_wp2_with (first | (go_at_call 58; refine (ks _ _).mono ?_; rintro e w' ⟨rfl, rfl⟩))
        go_ret2
        exact ⟨⟨hi, by rw [show r = false from hrr]; rfl⟩, rfl⟩
theorem bin_any (v : Value) (l : List Str) (x : Str) (w : World) (h : Tl w v l) (hss : SS l) (hl : l.length < 4611686018427387904) (r : Bool) (hr : decide (x ∈ l) = r) :
    Calls Try.prog 51 #[v, .string ⟨x.toArray⟩] w fun e w' => (∃ i : Int, e = .returned (.tuple #[.int .i64 i, .bool r])) ∧ w' = w := by
  obtain ⟨ao, cap, rfl, h1, h2, h3, h4⟩ := h
  exact bin_walk ao _ cap l x w rfl h1 h2 hl hss h4 r hr
end Go.Proofs.Ytlbcneoebamjiaa
