/- Texts of ours, in one. -/
import Derived.Test.YtnmcehpdiopaiaaGreatDoorCdVAll
import Derived.Test.YtnmcehpdiopaiaaGreatDoorCdFm
import Derived.Test.YtnmcehpdiopaiaaGreatDoorCdRr
import Derived.Test.YtnmcehpdiopaiaaGreatDoorTyD
import Derived.Test.YtnmcehpdiopaiaaGreatDoorCdAq
import Derived.Deep.RegionHeld3
import Derived.Test.YtnmcehpdiopaiaaGreatDoorTrG
namespace Go.Proofs.YtnmcehpdiopaiaaGreatDoor.Cd
open Go.RowKit Ty
set_option linter.unusedSimpArgs false
set_option linter.unusedVariables false

theorem wrapI_eq {z y : Int} (h : z = y) (h1 : -9223372036854775808 ≤ z) (h2 : z ≤ 9223372036854775807) : IntKind.i64.wrap z = y := by rw [IntKind.wrap_i64]; omega
theorem wrap64_eq {z y : Int} (h : z = y) (h1 : -9223372036854775808 ≤ z) (h2 : z ≤ 9223372036854775807) : wrap64 z = y := by unfold wrap64; omega
theorem wrap_sub {a b c : Nat} (h : a = c + b) (ha : a ≤ 9223372036854775807) : wrap64 ((a : Int) - (b : Int)) = (c : Int) ∧ IntKind.i64.wrap ((a : Int) - (b : Int)) = (c : Int) := by
  subst h
  exact ⟨wrap64_eq (by omega) (by omega) (by omega), wrapI_eq (by omega) (by omega) (by omega)⟩
theorem wrap_neg {a b : Nat} (h : a < b) (hb : b ≤ 9223372036854775807) : wrap64 ((a : Int) - (b : Int)) = (a : Int) - (b : Int) ∧ IntKind.i64.wrap ((a : Int) - (b : Int)) = (a : Int) - (b : Int) :=
  ⟨wrap64_eq rfl (by omega) (by omega), wrapI_eq rfl (by omega) (by omega)⟩
theorem wrap_pred {a b : Nat} (h : a = b + 1) (ha : a ≤ 9223372036854775807) : wrap64 ((a : Int) - 1) = (b : Int) ∧ IntKind.i64.wrap ((a : Int) - 1) = (b : Int) := by
  subst h
  exact ⟨wrap64_eq (by omega) (by omega) (by omega), wrapI_eq (by omega) (by omega) (by omega)⟩
theorem wrap_succ {a : Nat} (ha : a < 9223372036854775807) : wrap64 ((a : Int) + 1) = ((a + 1 : Nat) : Int) ∧ IntKind.i64.wrap ((a : Int) + 1) = ((a + 1 : Nat) : Int) :=
  ⟨wrap64_eq (by omega) (by omega) (by omega), wrapI_eq (by omega) (by omega) (by omega)⟩
theorem size_int1 (u : World) : (sizeOf 3).run Tryz.prog u = .ok 1 u := by
  simp [sizeOf, go_sem]
  rfl
theorem slice_to (so : Option Addr) (n m sc : Nat) (h : m ≤ sc) (w : World) : (Instr.slice 22 (.slice so n sc) none (some (.int .i64 (m : Int))) none).run Tryz.prog w = .ok (.slice so m sc) w := by
  have he : Tryz.prog.elem 22 = 3 := by kernel_rfl
  rw [run_slice_h w _ _ _ _ (by rw [he]; exact Tryz.underlying22) .i64 (m : Int) (by omega) (by omega), he, size_int1 w]
  simp only [Result.andThen, sliced, Int.toNat_natCast, Nat.sub_zero, Nat.zero_mul]
  cases so with
  | none => simp
  | some a => simp [Addr.add]
/-- Where a row begins that is cut ahead. -/
def dropA (so : Option Addr) (k sc : Nat) : Option Addr := if sc = k then so else so.map (·.add k)
theorem slice_from (so : Option Addr) (n k sc : Nat) (h : k ≤ n) (w : World) : (Instr.slice 22 (.slice so n sc) (some (.int .i64 (k : Int))) none none).run Tryz.prog w = .ok (.slice (dropA so k sc) (n - k) (sc - k)) w := by
  have he : Tryz.prog.elem 22 = 3 := by kernel_rfl
  rw [run_slice_l w _ _ _ _ (by rw [he]; exact Tryz.underlying22) .i64 (k : Int) (by omega) (by omega), he, size_int1 w]
  simp only [Result.andThen, sliced, Int.toNat_natCast, Nat.mul_one]
  rfl
theorem InL.take {w : World} {ao : Option Addr} {cap : Nat} {l : List Int} (h : InL w ao cap l) (m : Nat) : InL w ao cap (l.take m) := by
  obtain ⟨h1, h2, h3, h4⟩ := h
  refine ⟨Nat.le_trans (by rw [List.length_take]; omega) h1, h2, h3, ?_⟩
  rcases h4 with rfl | ⟨b, off, rfl, h4⟩
  · exact Or.inl (by simp)
  · refine Or.inr ⟨b, off, rfl, fun i x hx => ?_⟩
    rw [List.getElem?_take] at hx
    split at hx
    · exact h4 i x hx
    · cases hx
theorem InL.drop {w : World} {ao : Option Addr} {cap : Nat} {l : List Int} (h : InL w ao cap l) (k : Nat) (hk : k ≤ l.length) : InL w (dropA ao k cap) (cap - k) (l.drop k) := by
  obtain ⟨h1, h2, h3, h4⟩ := h
  unfold dropA
  refine ⟨by rw [List.length_drop]; omega, by omega, ?_, ?_⟩
  · intro e
    split at e
    · omega
    · cases ao with
      | none => have := h3 rfl; omega
      | some a => cases e
  · rcases h4 with rfl | ⟨b, off, rfl, h4⟩
    · exact Or.inl (by simp)
    · by_cases hc : cap = k
      · left
        exact List.eq_nil_of_length_eq_zero (by rw [List.length_drop]; omega)
      · rw [if_neg hc]
        refine Or.inr ⟨b, off + k, by simp [Addr.add], fun i x hx => ?_⟩
        rw [List.getElem?_drop] at hx
        have := h4 (k + i) x hx
        rw [show off + k + i = off + (k + i) by omega]
        exact this
/-- A row of a stack in a world from a block on. -/
def InB (w : World) (B : Nat) (ao : Option Addr) (cap : Nat) (l : List Int) : Prop := InL w ao cap l ∧ ∀ a, ao = some a → B ≤ a.block
theorem InB.keep {S : Nat → Prop} {w w' : World} {B : Nat} {ao : Option Addr} {cap : Nat} {l : List Int} (h : InB w B ao cap l) (f : Fr S w w') (hS : ∀ k, B ≤ k → ¬ S k) : InB w' B ao cap l := by
  obtain ⟨⟨h1, h2, h3, h4⟩, h5⟩ := h
  refine ⟨⟨h1, h2, h3, ?_⟩, h5⟩
  rcases h4 with rfl | ⟨b, off, rfl, h4⟩
  · exact Or.inl rfl
  · exact Or.inr ⟨b, off, rfl, fun i x hx => f.cell (h4 i x hx) (hS b (h5 _ rfl))⟩
theorem InB.take {w : World} {B : Nat} {ao : Option Addr} {cap : Nat} {l : List Int} (h : InB w B ao cap l) (m : Nat) : InB w B ao cap (l.take m) := ⟨InL.take h.1 m, h.2⟩
theorem OwI.inB {w : World} {B : Nat} {v : Value} {l : List Int} (h : OwI w B v l) : ∃ ao cap, v = .slice ao l.length cap ∧ InB w B ao cap l := by
  obtain ⟨ao, cap, rfl, h1⟩ := OwI.inl h
  refine ⟨ao, cap, rfl, h1, fun a e => ?_⟩
  subst e
  exact (own_block h a.block rfl).1
set_option maxRecDepth 20000 in
set_option maxHeartbeats 2000000 in
theorem put_any (so : Option Addr) (n sc : Nat) (l : List Int) (t : Int) (w : World) (hn : l.length = n) (h : InL w so sc l) (hl : n ≤ 10000) :
    Calls Tryz.prog 43 #[.slice so n sc, ci t] w fun e w' => ∃ v, e = .returned v ∧ OwI w' w.heap.size v (l ++ [t]) ∧ Fr (fun _ => False) w w' := by
  have hH : Hidden (InL w so sc l) := h
  have hnH : Hidden (l.length = n) := hn
  clear h hn
  go_enter Tryz.func43, Tryz.ntmps43
  go_wp2_with (first
    | (at_builtin
       refine wpl_app rfl _ _ 22 3 _ 1 8 Tryz.underlying22 info_ii rfl (by decide) rfl w.heap.size (.slice none 0 0) 0 [] so n sc (l.map ci) rfl (own_nil _ _ _ _) rfl ?c1 ?c2 ?c3 ?c4 ?c5 ?c6 ?c7 ?_
       case c1 => rw [List.length_map, show l.length = n from hnH, Nat.mul_one]
       case c2 => intro e; have := (show InL w so sc l from hH).2.2.1 e; have := (show InL w so sc l from hH).1; have : l.length = n := hnH; omega
       case c3 =>
         intro ad e j u hu
         rw [List.getElem?_map] at hu
         cases hx : l[j]? with
         | none => rw [hx] at hu; cases hu
         | some x =>
           rw [hx] at hu
           obtain rfl := Option.some.inj hu
           rcases (show InL w so sc l from hH).2.2.2 with e0 | ⟨b, off, e1, hc⟩
           · rw [e0] at hx; simp at hx
           · rw [e] at e1
             obtain rfl := Option.some.inj e1
             rw [Addr.add_lit]
             exact hc j x hx
       case c4 => intro u hu; obtain ⟨x, _, rfl⟩ := List.mem_map.1 hu; rfl
       case c5 => simp only [maxLen]; omega
       case c6 => omega
       case c7 => exact Nat.le_refl _
       intro v1 w1 h1 f1 _
       have h1H : Hidden (OwI w1 w.heap.size v1 l) := by
         show w1.ownsRow _ _ 1 v1 l.length (l.map ci)
         rw [show l.length = n from hnH]
         simpa using h1
       have f1H : Hidden (Fr (fun _ => False) w w1) := f1.mono (fun k _ e => by cases e)
       clear h1 f1)
    | (at_builtin
       refine wpl_int rfl _ _ rfl w.heap.size v1 l t w1.heap.size rfl ?e0 rfl ?e1 ?e2 ?e3 ?_
       case e0 => exact own_keep (show OwI w1 w.heap.size v1 l from h1H) (Fr.alloc (fun _ => False) _ _) (fun _ _ f => f)
       case e1 => exact cell_of_row _ _ 0 _ _ _ (alloc_new _ _)
       case e2 => have : l.length = n := hnH; omega
       case e3 => have := (show Fr (fun _ => False) w w1 from f1H).size; simp; omega
       intro v2 w2 h2 a2
       have h2H : Hidden (OwI w2 w.heap.size v2 (l ++ [t])) := h2
       have f2H : Hidden (Fr (fun _ => False) w w2) := (show Fr (fun _ => False) w w1 from f1H).over ((Fr.alloc (fun k => v1.ownBlock = some k) _ _).same a2.fr) (fun k e => (own_block (show OwI w1 w.heap.size v1 l from h1H) k e).1)
       clear h2 a2))
  go_ret
  exact ⟨_, rfl, h2H, f2H⟩
/-- What taken hands back. -/
def tkV (so : Option Addr) (sc : Nat) : Option (List Int) → Value
  | none => .slice none 0 0
  | some r => .slice so r.length sc
set_option maxRecDepth 20000 in
set_option maxHeartbeats 2000000 in
theorem rtaken_any (so lo : Option Addr) (n m sc lc : Nat) (st l : List Int) (w : World) (hn : st.length = n) (hm : l.length = m) (h : InL w so sc st) (h' : InL w lo lc l) :
    Calls Tryz.prog 44 #[.slice so n sc, .slice lo m lc] w fun e w' => e = .returned (.tuple #[tkV so sc (tk st l), .bool (tk st l).isSome]) ∧ Fr (fun _ => False) w w' := by
  have hcap : sc ≤ 9223372036854775807 := by have := h.2.1; simpa [maxLen] using this
  have hcap2 : lc ≤ 9223372036854775807 := by have := h'.2.1; simpa [maxLen] using this
  have hns : n ≤ sc := by rw [← hn]; exact h.1
  have hml : m ≤ lc := by rw [← hm]; exact h'.1
  obtain ⟨R, hR⟩ : ∃ R, R = tk st l := ⟨_, rfl⟩
  rw [← hR]
  by_cases hlt : n < m
  · have e : Hidden (R = none) := by show _ = _; rw [hR]; unfold tk; rw [if_neg (by rw [hn, hm]; omega)]
    obtain ⟨hw1, hw2⟩ := wrap_neg hlt (by omega)
    have hneg : decide ((n : Int) - (m : Int) < 0) = true := by simp; omega
    have hneg2 : decide ((n : Int) < (m : Int)) = true := by simp; omega
    have hneg3 : decide (n < m) = true := by simpa using hlt
    have hneg4 : (n : Int) < (m : Int) := by omega
    have hneg5 : (n : Int) - (m : Int) < 0 := by omega
    clear hlt hR h h' hn hm hcap hcap2 hns hml
    go_enter Tryz.func44, Tryz.ntmps44
    go_wp2_with fail
    go_ret2
    rw [show R = none from e]
    exact ⟨rfl, Fr.refl _ _⟩
  · obtain ⟨q, hq⟩ : ∃ q, n = q + m := ⟨n - m, by omega⟩
    obtain ⟨hw1, hw2⟩ := wrap_sub hq (by omega)
    have hqn : q ≤ n := by omega
    have hsl := fun W => slice_from so n q sc hqn W
    have hst := fun W => slice_to so n q sc (by omega) W
    have hki := rints_is (dropA so q sc) lo (sc - q) lc (st.drop q) l w (InL.drop h q (by omega)) h'
    rw [show (st.drop q).length = n - q by rw [List.length_drop, hn], hm] at hki
    obtain ⟨D, hD⟩ : ∃ D, D = decide (st.drop q = l) := ⟨_, rfl⟩
    rw [← hD] at hki
    have hRD : Hidden (R = if D = true then some (st.take q) else none) := by
      show _ = _
      rw [hR]
      unfold tk
      have e1 : st.length - l.length = q := by rw [hn, hm]; omega
      rw [e1, hn, hm, hD]
      by_cases hd : st.drop q = l
      · rw [if_pos ⟨by omega, hd⟩, decide_eq_true hd, if_pos rfl]
      · rw [if_neg (fun e => hd e.2), decide_eq_false hd, if_neg (by decide)]
    have hlen : Hidden ((st.take q).length = q) := by show _ = _; rw [List.length_take]; omega
    clear hlt hR h h' hn hm hcap hcap2 hns hml hD hq hqn
    go_enter Tryz.func44, Tryz.ntmps44
    cases hd : D
    · subst hd
      go_wp2_with (first
        | (go_at_call 12; refine hki.mono ?_; rintro e w1 ⟨rfl, f1⟩
           have f1H : Hidden (Fr (fun _ => False) w w1) := f1
           clear f1 hki))
      go_ret2
      rw [show R = none from hRD]
      exact ⟨rfl, f1H⟩
    · subst hd
      go_wp2_with (first
        | (go_at_call 12; refine hki.mono ?_; rintro e w1 ⟨rfl, f1⟩
           have f1H : Hidden (Fr (fun _ => False) w w1) := f1
           clear f1 hki))
      go_ret2
      rw [show R = some (st.take q) from hRD]
      simp only [tkV]
      rw [show (st.take q).length = q from hlen]
      exact ⟨rfl, f1H⟩
/-- What top hands back. -/
def tpV (so : Option Addr) (sc : Nat) : Option (List Int × Int) → Value
  | none => .tuple #[.slice none 0 0, ci 0, .bool false]
  | some (r, t) => .tuple #[.slice so r.length sc, ci t, .bool true]
set_option maxRecDepth 20000 in
set_option maxHeartbeats 2000000 in
theorem rtop_any (so : Option Addr) (n sc : Nat) (st : List Int) (w : World) (hn : st.length = n) (h : InL w so sc st) :
    Calls Tryz.prog 45 #[.slice so n sc] w fun e w' => e = .returned (tpV so sc (tp st)) ∧ Fr (fun _ => False) w w' := by
  have hcap : sc ≤ 9223372036854775807 := by have := h.2.1; simpa [maxLen] using this
  have hns : n ≤ sc := by rw [← hn]; exact h.1
  rcases List.eq_nil_or_concat st with rfl | ⟨r, t, rfl⟩
  · obtain rfl : n = 0 := by simpa using hn.symm
    have hw1 : wrap64 (((0 : Nat) : Int) - 1) = -1 := wrap64_eq (by simp) (by simp) (by simp)
    have hw2 : IntKind.i64.wrap (((0 : Nat) : Int) - 1) = -1 := wrapI_eq (by simp) (by simp) (by simp)
    clear h hn hcap hns
    go_enter Tryz.func45, Tryz.ntmps45
    go_wp2_with fail
    go_ret3
    exact ⟨rfl, Fr.refl _ _⟩
  · rw [List.concat_eq_append] at *
    obtain ⟨m, hm⟩ : ∃ m, m = r.length := ⟨_, rfl⟩
    have hn' : n = m + 1 := by rw [← hn, hm]; simp
    obtain ⟨hw1, hw2⟩ := wrap_pred hn' (by omega)
    obtain ⟨b, off, rfl, hc⟩ := h.2.2.2.resolve_left (by simp)
    have e0 := hc m t (by rw [hm]; simp)
    have hsl := fun W => slice_to (some ⟨b, off, none⟩) n m sc (by omega) W
    have hmn : (m : Int) < (n : Int) := by omega
    have hm0 : (0 : Int) ≤ (m : Int) := by omega
    have hneg : decide ((m : Int) < 0) = false := by simp
    have htp : Hidden (tpV (some ⟨b, off, none⟩) sc (tp (r ++ [t])) = .tuple #[.slice (some ⟨b, off, none⟩) m sc, ci t, .bool true]) := by
      show _ = _
      have : tp (r ++ [t]) = some (r, t) := by unfold tp; simp
      rw [this, hm]
      rfl
    generalize tpV (some ⟨b, off, none⟩) sc (tp (r ++ [t])) = R at *
    clear h hn hcap hns hc hm hn'
    go_enter Tryz.func45, Tryz.ntmps45
    go_upto_region 4 with fail
    go_region_held3 (fun w' => w'.cell? ⟨b, off + m, none⟩ = some (ci t)) (first | (with_reducible assumption) | go_keep) (fail)
    all_goals
      go_wp2_with fail
      go_ret3
      rw [show R = _ from htp]
      exact ⟨rfl, by first | exact Fr.drew _ _ | exact Fr.refl _ _⟩
set_option maxRecDepth 20000 in
set_option maxHeartbeats 2000000 in
theorem rvalueds_any (so : Option Addr) (n sc : Nat) (l : List Int) (w : World) (hn : l.length = n) (h : InL w so sc l) :
    Calls Tryz.prog 41 #[.slice so n sc] w fun e w' => e = .returned (.bool (l.all valued)) ∧ Fr (fun _ => False) w w' := by
  have hcap : sc ≤ 9223372036854775807 := by have := h.2.1; simpa [maxLen] using this
  have hns : n ≤ sc := by rw [← hn]; exact h.1
  have kv := fun t W => rvalued_any t W
  obtain ⟨R, hR⟩ : ∃ R, R = l.all valued := ⟨_, rfl⟩
  rw [← hR]
  have hRH : Hidden (R = l.all valued) := hR
  have hH : Hidden (InL w so sc l) := h
  have hnH : Hidden (l.length = n) := hn
  clear hR h hn
  go_enter Tryz.func41, Tryz.ntmps41
  go_wp2_with fail
  go_loopg [3] n (fun k iv wr => ∃ j : Nat, iv = .int .i64 (j : Int) ∧ j ≤ n ∧ k = n - j ∧ (l.take j).all valued = true ∧ Fr (fun _ => False) w wr)
  case atStart => exact ⟨0, rfl, by omega, rfl, by simp, Fr.refl _ _⟩
  case round =>
    obtain ⟨j, rfl, hj, hk, ht, hf⟩ := hrel
    have hkH : Hidden (gk = n - j) := hk
    have htH : Hidden ((l.take j).all valued = true) := ht
    have hfH : Hidden (Fr (fun _ => False) w wr) := hf
    clear hk ht
    by_cases hjl : j < n
    · obtain ⟨x, hx⟩ : ∃ x, l[j]? = some x := ⟨_, List.getElem?_eq_getElem (by have : l.length = n := hnH; omega)⟩
      obtain ⟨b, off, rfl, hc⟩ := (show InL w so sc l from hH).2.2.2.resolve_left (by rintro rfl; simp at hx)
      have e0 := hf.cellN (hc j x hx)
      have hjn : (j : Int) < (n : Int) := by omega
      have hj0 : (0 : Int) ≤ (j : Int) := by omega
      have hxH : Hidden (l[j]? = some x) := hx
      have kvx := kv x wr
      cases hv : valued x
      · rw [hv] at kvx
        have hRf : Hidden (R = false) := by
          show _ = _
          rw [show R = _ from hRH, Bool.eq_false_iff]
          intro h
          have := List.all_eq_true.1 h x (List.mem_of_getElem? hx)
          rw [hv] at this
          cases this
        clear hc hx hf hv kv
        go_wp2_with (first
          | (go_at_call 65; refine kvx.mono ?_; rintro e w1 ⟨rfl, rfl⟩))
        go_ret
        rw [show R = false from hRf]
        exact ⟨rfl, hfH⟩
      · rw [hv] at kvx
        have hnx : Hidden ((l.take (j + 1)).all valued = true) := by
          show _ = true
          rw [List.take_add_one, hx, List.all_append, htH]
          simp [hv]
        obtain ⟨hw1, hw2⟩ := wrap_succ (a := j) (by omega)
        clear hc hx hf hv kv
        go_wp2_with (first
          | (go_at_call 65; refine kvx.mono ?_; rintro e w1 ⟨rfl, rfl⟩))
        go_roundg (n - (j + 1))
        case measure => have : gk = n - j := hkH; omega
        case rel => exact ⟨j + 1, by first | rfl | (rw [hw1]), by omega, rfl, hnx, hfH⟩
    · obtain rfl : j = n := by omega
      have hRt : Hidden (R = true) := by
        show _ = _
        rw [show R = _ from hRH, ← show (l.take j).all valued = true from htH, List.take_of_length_le (by have : l.length = j := hnH; omega)]
      have hjn : decide ((j : Int) < (j : Int)) = false := by simp
      clear hjl hf kv
      go_wp2_with fail
      go_ret
      rw [show R = true from hRt]
      exact ⟨rfl, hfH⟩
end Go.Proofs.YtnmcehpdiopaiaaGreatDoor.Cd

namespace Go.Proofs.YtnmcehpdiopaiaaGreatDoor.Cd
open Go.RowKit Ty
set_option linter.unusedSimpArgs false
set_option linter.unusedVariables false

/-- Open tries in memory, from a block on. -/
def TrB (w : World) (B : Nat) (to' : Option Addr) (tc : Nat) (tr : List (Int × List Int)) : Prop :=
  tr.length ≤ tc ∧ tc ≤ maxLen ∧ (to' = none → tc = 0) ∧ (∀ a, to' = some a → B ≤ a.block) ∧ (tr = [] ∨ ∃ b off, to' = some ⟨b, off, none⟩ ∧ ∀ (i : Nat) (x : Int × List Int), tr[i]? = some x → ∃ ap cp, InB w B ap cp x.2 ∧ w.cell? ⟨b, off + i * 2, none⟩ = some (ci x.1) ∧ w.cell? ⟨b, off + i * 2 + 1, none⟩ = some (.slice ap x.2.length cp))
theorem TrB.keep {S : Nat → Prop} {w w' : World} {B : Nat} {ao : Option Addr} {cap : Nat} {l : List (Int × List Int)} (h : TrB w B ao cap l) (f : Fr S w w') (hS : ∀ k, B ≤ k → ¬ S k) : TrB w' B ao cap l := by
  obtain ⟨h1, h2, h3, h5, h4⟩ := h
  refine ⟨h1, h2, h3, h5, ?_⟩
  rcases h4 with rfl | ⟨b, off, rfl, h4⟩
  · exact Or.inl rfl
  · refine Or.inr ⟨b, off, rfl, fun i x hx => ?_⟩
    obtain ⟨ap, cp, i1, i2, i3⟩ := h4 i x hx
    exact ⟨ap, cp, i1.keep f hS, f.cell i2 (hS b (h5 _ rfl)), f.cell i3 (hS b (h5 _ rfl))⟩
theorem TrB.take {w : World} {B : Nat} {ao : Option Addr} {cap : Nat} {l : List (Int × List Int)} (h : TrB w B ao cap l) (m : Nat) : TrB w B ao cap (l.take m) := by
  obtain ⟨h1, h2, h3, h5, h4⟩ := h
  refine ⟨Nat.le_trans (by rw [List.length_take]; omega) h1, h2, h3, h5, ?_⟩
  rcases h4 with rfl | ⟨b, off, rfl, h4⟩
  · exact Or.inl (by simp)
  · refine Or.inr ⟨b, off, rfl, fun i x hx => ?_⟩
    rw [List.getElem?_take] at hx
    split at hx
    · exact h4 i x hx
    · cases hx
/-- A shape in memory. -/
def ShB (w : World) (B : Nat) (v : Value) (s : Sp) : Prop := ∃ so sc to' tc, v = .agg #[.slice so s.st.length sc, .slice to' s.tr.length tc] ∧ InB w B so sc s.st ∧ TrB w B to' tc s.tr
theorem ShB.keep {S : Nat → Prop} {w w' : World} {B : Nat} {v : Value} {s : Sp} (h : ShB w B v s) (f : Fr S w w') (hS : ∀ k, B ≤ k → ¬ S k) : ShB w' B v s := by
  obtain ⟨so, sc, to', tc, e, h1, h2⟩ := h
  exact ⟨so, sc, to', tc, e, h1.keep f hS, h2.keep f hS⟩
set_option maxRecDepth 20000 in
set_option maxHeartbeats 1000000 in
theorem over_any (so to' : Option Addr) (n sc m tc : Nat) (w : World) :
    Calls Tryz.prog 28 #[.agg #[.slice so n sc, .slice to' m tc]] w fun e w' => e = .returned (.bool (decide (512 < n) || decide (32 < m))) ∧ Fr (fun _ => False) w w' := by
  obtain ⟨R, hR⟩ : ∃ R, R = (decide (512 < n) || decide (32 < m)) := ⟨_, rfl⟩
  rw [← hR]
  by_cases h1 : 512 < n
  · have e1 : decide ((512 : Int) < (n : Int)) = true := by simp; omega
    have e2 : decide (512 < n) = true := by simpa using h1
    have hRt : Hidden (R = true) := by show _ = _; rw [hR, e2]; rfl
    clear h1 hR
    go_enter Tryz.func28, Tryz.ntmps28
    go_wp2_with fail
    go_ret
    rw [show R = true from hRt]
    exact ⟨rfl, Fr.alloc _ _ _⟩
  · have e1 : decide ((512 : Int) < (n : Int)) = false := by simp; omega
    have e2 : decide (512 < n) = false := by simpa using h1
    obtain ⟨D, hD⟩ : ∃ D, D = decide (32 < m) := ⟨_, rfl⟩
    have hRt : Hidden (R = D) := by show _ = _; rw [hR, e2, hD]; rfl
    have e3 : decide ((32 : Int) < (m : Int)) = D := by
      rw [hD]
      by_cases h : 32 < m
      · rw [decide_eq_true h, decide_eq_true (by omega)]
      · rw [decide_eq_false h, decide_eq_false (by omega)]
    have e4 : decide (32 < m) = D := hD.symm
    clear h1 hR hD
    go_enter Tryz.func28, Tryz.ntmps28
    go_wp2_with fail
    go_ret
    rw [show R = D from hRt]
    exact ⟨rfl, Fr.alloc _ _ _⟩
set_option maxRecDepth 20000 in
set_option maxHeartbeats 1000000 in
theorem dsig_any (ao : Option Addr) (n cap : Nat) (s : Sg) (w : World) (hn : s.ps.length = n) (h : InL w ao cap s.ps) :
    Calls Tryz.prog 40 #[.agg #[.slice ao n cap, ci s.res]] w fun e w' => e = .returned (.bool (sgS s)) ∧ Fr (fun _ => False) w w' := by
  have hk := rvalueds_any ao n cap s.ps _ hn (InL.keep h (Fr.alloc (fun _ => False) w (.cells #[.slice ao n cap, ci s.res] 24 (0, 0))))
  have hv := fun W => rvalued_any s.res W
  obtain ⟨R, hR⟩ : ∃ R, R = sgS s := ⟨_, rfl⟩
  rw [← hR]
  have hRH : Hidden (R = (s.ps.all valued && (s.res == 0 || valued s.res))) := hR
  have b0 : (w.alloc (.cells #[.slice ao n cap, ci s.res] 24 (0, 0))).cell? ⟨w.heap.size, 0, none⟩ = some (.slice ao n cap) := cell_of_row _ _ 0 _ _ _ (alloc_new _ _)
  have b1 : (w.alloc (.cells #[.slice ao n cap, ci s.res] 24 (0, 0))).cell? ⟨w.heap.size, 1, none⟩ = some (ci s.res) := cell_of_row _ _ 1 _ _ _ (alloc_new _ _)
  obtain ⟨V, hV⟩ : ∃ V, V = w.alloc (.cells #[.slice ao n cap, ci s.res] 24 (0, 0)) := ⟨_, rfl⟩
  rw [← hV] at hk b0 b1
  have hVH : Hidden (V = _) := hV
  have fVH : Hidden (Fr (fun _ => False) w V) := by rw [hV]; exact Fr.alloc _ _ _
  generalize s.ps.all valued = A at *
  generalize s.res = rs at *
  clear hR hV hn h
  go_enter Tryz.func40, Tryz.ntmps40
  go_upto_region 1 with fail
  rw [← (show V = _ from hVH)]
  clear hVH
  cases hA : A
  · subst hA
    go_wp2_with (first
      | (go_at_call 41; refine hk.mono ?_; rintro e w1 ⟨rfl, f1⟩
         have f1H : Hidden (Fr (fun _ => False) w w1) := (show Fr (fun _ => False) w V from fVH).same f1
         clear f1 hk))
    go_ret
    rw [show R = _ from hRH]
    exact ⟨rfl, f1H⟩
  · subst hA
    by_cases h0 : rs = 0
    · subst h0
      go_wp2_with (first
        | (go_at_call 41; refine hk.mono ?_; rintro e w1 ⟨rfl, f1⟩
           replace b1 := f1.cellN b1
           have f1H : Hidden (Fr (fun _ => False) w w1) := (show Fr (fun _ => False) w V from fVH).same f1
           clear f1 hk))
      go_ret
      rw [show R = _ from hRH]
      exact ⟨rfl, f1H⟩
    · have h1 : (rs == 0) = false := by simpa using h0
      obtain ⟨D, hD⟩ : ∃ D, D = valued rs := ⟨_, rfl⟩
      rw [← hD] at hv
      have hRD : Hidden (R = D) := by show _ = _; rw [show R = _ from hRH, h1, ← hD]; simp
      clear h0 hD
      go_wp2_with (first
        | (go_at_call 41; refine hk.mono ?_; rintro e w1 ⟨rfl, f1⟩
           replace b1 := f1.cellN b1
           have f1H : Hidden (Fr (fun _ => False) w w1) := (show Fr (fun _ => False) w V from fVH).same f1
           clear f1 hk)
        | (go_at_call 65; refine (hv _).mono ?_; rintro e w2 ⟨rfl, rfl⟩))
      go_ret
      rw [show R = D from hRD]
      exact ⟨rfl, f1H⟩
theorem tr_snoc {l r : List (Int × List Int)} {j : Nat} {x y : Int × List Int} (h : l.take j = r.take j) (hx : l[j]? = some x) (hy : r[j]? = some y) (e : x = y) : l.take (j + 1) = r.take (j + 1) := by
  rw [List.take_add_one, List.take_add_one, h, hx, hy, e]
set_option maxRecDepth 20000 in
set_option maxHeartbeats 4000000 in
theorem same_shape (a b : Sp) (n m n' m' : Nat) (hn : a.st.length = n) (hm : a.tr.length = m) (hn' : b.st.length = n') (hm' : b.tr.length = m') (so to' po qo : Option Addr) (sc tc pc qc B : Nat) (w : World) (h1 : InB w B so sc a.st) (h2 : TrB w B to' tc a.tr) (h3 : InB w B po pc b.st) (h4 : TrB w B qo qc b.tr) :
    Calls Tryz.prog 49 #[.agg #[.slice so n sc, .slice to' m tc], .agg #[.slice po n' pc, .slice qo m' qc]] w fun e w' => e = .returned (.bool (decide (a = b))) ∧ Fr (fun _ => False) w w' := by
  obtain ⟨R, hR⟩ : ∃ R, R = decide (a = b) := ⟨_, rfl⟩
  rw [← hR]
  have hRH : Hidden (R = decide (a = b)) := hR
  obtain ⟨V, hV⟩ : ∃ V, V = (w.alloc (.cells #[.slice so n sc, .slice to' m tc] 80 (0, 0))).alloc (.cells #[.slice po n' pc, .slice qo m' qc] 80 (0, 0)) := ⟨_, rfl⟩
  have fV : Fr (fun _ => False) w V := by rw [hV]; exact (Fr.alloc _ _ _).same (Fr.alloc _ _ _)
  have r0 : V.heap[w.heap.size]? = some (.cells #[.slice so n sc, .slice to' m tc] 80 (0, 0)) := by rw [hV]; exact heap_alloc2_old _ _ _
  have r1 : V.heap[w.heap.size + 1]? = some (.cells #[.slice po n' pc, .slice qo m' qc] 80 (0, 0)) := by rw [hV]; exact heap_alloc2_new _ _ _
  have x0 : V.cell? ⟨w.heap.size, 0, none⟩ = some (.slice so n sc) := cell_of_row _ _ 0 _ _ _ r0
  have x1 : V.cell? ⟨w.heap.size, 1, none⟩ = some (.slice to' m tc) := cell_of_row _ _ 1 _ _ _ r0
  have y0 : V.cell? ⟨w.heap.size + 1, 0, none⟩ = some (.slice po n' pc) := cell_of_row _ _ 0 _ _ _ r1
  have y1 : V.cell? ⟨w.heap.size + 1, 1, none⟩ = some (.slice qo m' qc) := cell_of_row _ _ 1 _ _ _ r1
  have kI := rints_is so po sc pc a.st b.st V (InL.keep h1.1 fV) (InL.keep h3.1 fV)
  rw [hn, hn'] at kI
  have r0H : Hidden (V.heap[w.heap.size]? = some (.cells #[.slice so n sc, .slice to' m tc] 80 (0, 0))) := r0
  have r1H : Hidden (V.heap[w.heap.size + 1]? = some (.cells #[.slice po n' pc, .slice qo m' qc] 80 (0, 0))) := r1
  have fVH : Hidden (Fr (fun _ => False) w V) := fV
  have hVH : Hidden (V = _) := hV
  have h2H : Hidden (TrB w B to' tc a.tr) := h2
  have h4H : Hidden (TrB w B qo qc b.tr) := h4
  have hmH : Hidden (a.tr.length = m) := hm
  have hmH' : Hidden (b.tr.length = m') := hm'
  have hb2 : tc ≤ 9223372036854775807 := by have := h2.2.1; simpa [maxLen] using this
  have hb1 : m ≤ tc := by rw [← hm]; exact h2.1
  obtain ⟨D, hD⟩ : ∃ D, D = decide (a.st = b.st) := ⟨_, rfl⟩
  rw [← hD] at kI
  have hDH : Hidden (D = decide (a.st = b.st)) := hD
  clear hR hV fV r0 r1 h1 h2 h3 h4 hn hn' hm hm' hD
  go_enter Tryz.func49, Tryz.ntmps49
  go_upto_region 1 with fail
  rw [← (show V = _ from hVH)]
  clear hVH
  cases hd : D
  · subst hd
    have hRf : Hidden (R = false) := by
      show _ = _
      rw [show R = _ from hRH, decide_eq_false]
      intro e
      have := (show false = _ from hDH)
      rw [e, decide_eq_true rfl] at this
      cases this
    go_wp2_with (first
      | (go_at_call 12; refine kI.mono ?_; rintro e w1 ⟨rfl, f1⟩
         have f1H : Hidden (Fr (fun _ => False) w w1) := (show Fr (fun _ => False) w V from fVH).same f1
         clear f1 kI))
    go_ret
    rw [show R = false from hRf]
    exact ⟨rfl, f1H⟩
  subst hd
  have hst : Hidden (a.st = b.st) := of_decide_eq_true (p := a.st = b.st) (show true = decide _ from hDH).symm
  by_cases hmm : m = m'
  case neg =>
    have hRf : Hidden (R = false) := by
      show _ = _
      rw [show R = _ from hRH, decide_eq_false]
      intro e
      exact hmm (by rw [← show a.tr.length = m from hmH, ← show b.tr.length = m' from hmH', e])
    have hne : ((m : Int) != (m' : Int)) = true := by simp; omega
    clear hmm
    go_wp2_with (first
      | (go_at_call 12; refine kI.mono ?_; rintro e w1 ⟨rfl, f1⟩
         replace x1 := f1.cellN x1; replace y1 := f1.cellN y1
         have f1H : Hidden (Fr (fun _ => False) w w1) := (show Fr (fun _ => False) w V from fVH).same f1
         clear f1 kI))
    go_ret
    rw [show R = false from hRf]
    exact ⟨rfl, f1H⟩
  subst hmm
  have hne : ((m : Int) != (m : Int)) = false := by simp
  go_upto_region 3 with (first
    | (go_at_call 12; refine kI.mono ?_; rintro e w1 ⟨rfl, f1⟩
       replace x1 := f1.cellN x1; replace y1 := f1.cellN y1
       have f1H : Hidden (Fr (fun _ => False) w w1) := (show Fr (fun _ => False) w V from fVH).same f1
       have g1H : Hidden (Fr (fun _ => False) V w1) := f1
       clear f1 kI x0 y0))
  clear x1 y1 hne
  go_wp2_with fail
  go_loopg [5] m (fun gk iv wr => ∃ j : Nat, iv = .int .i64 (j : Int) ∧ j ≤ m ∧ gk = m - j ∧ a.tr.take j = b.tr.take j ∧ Fr (fun _ => False) V wr)
  case atStart => exact ⟨0, rfl, by omega, rfl, by simp, g1H⟩
  case round =>
    obtain ⟨j, rfl, hj, hk, ht, hf⟩ := hrel
    have hkH : Hidden (gk = m - j) := hk
    have htH : Hidden (a.tr.take j = b.tr.take j) := ht
    have hfH : Hidden (Fr (fun _ => False) V wr) := hf
    have x1 : wr.cell? ⟨w.heap.size, 1, none⟩ = some (.slice to' m tc) := cell_of_row _ _ 1 _ _ _ (hf.heap r0H (fun f => f))
    have y1 : wr.cell? ⟨w.heap.size + 1, 1, none⟩ = some (.slice qo m qc) := cell_of_row _ _ 1 _ _ _ (hf.heap r1H (fun f => f))
    clear hk ht
    by_cases hjl : j < m
    · obtain ⟨x, hx⟩ : ∃ x, a.tr[j]? = some x := ⟨_, List.getElem?_eq_getElem (by have : a.tr.length = m := hmH; omega)⟩
      obtain ⟨y, hy⟩ : ∃ y, b.tr[j]? = some y := ⟨_, List.getElem?_eq_getElem (by have : b.tr.length = m := hmH'; omega)⟩
      obtain ⟨ba, oa, rfl, ca⟩ := (show TrB w B to' tc a.tr from h2H).2.2.2.2.resolve_left (by intro e; rw [e] at hx; simp at hx)
      obtain ⟨bb, ob, rfl, cb⟩ := (show TrB w B qo qc b.tr from h4H).2.2.2.2.resolve_left (by intro e; rw [e] at hy; simp at hy)
      obtain ⟨ap, cp, iA, e0, e1⟩ := ca j x hx
      obtain ⟨bp, dp, iB, e2, e3⟩ := cb j y hy
      have hwr : Fr (fun _ => False) w wr := (show Fr (fun _ => False) w V from fVH).same hf
      have o0 := hwr.cellN e0
      have o1 := hwr.cellN e1
      have p0 := hwr.cellN e2
      have p1 := hwr.cellN e3
      have kI := fun W (hW : Fr (fun _ => False) wr W) => rints_is ap bp cp dp x.2 y.2 W (InL.keep (InL.keep iA.1 hwr) hW) (InL.keep (InL.keep iB.1 hwr) hW)
      have hjn : (j : Int) < (m : Int) := by omega
      have hj0 : (0 : Int) ≤ (j : Int) := by omega
      obtain ⟨hw1, hw2⟩ := wrap_succ (a := j) (by omega)
      obtain ⟨x1', x2'⟩ := x
      obtain ⟨y1', y2'⟩ := y
      simp only [] at o0 o1 p0 p1 kI
      have hxH : Hidden (a.tr[j]? = some (x1', x2')) := hx
      have hyH : Hidden (b.tr[j]? = some (y1', y2')) := hy
      have hend : ∀ W, Fr (fun _ => False) wr W → Fr (fun _ => False) w W := fun W hW => hwr.same hW
      have hendH : Hidden _ := hend
      have hRneq : Hidden ((x1', x2') ≠ (y1', y2') → R = false) := fun hne => by
        rw [show R = _ from hRH, decide_eq_false]
        intro e
        rw [e] at hx
        exact hne (Option.some.inj (hx.symm.trans hy))
      clear ca cb iA iB e0 e1 e2 e3 hwr hx hy hf hend
      by_cases hxy : x1' = y1'
      case neg =>
        have hb1 : (x1' != y1') = true := by simpa using hxy
        have hRf : Hidden (R = false) := (show _ → R = false from hRneq) (fun e => hxy (Prod.mk.inj e).1)
        clear hxy
        go_upto_region 6 with fail
        refine wp_region_grow (by kernel_rfl) (by kernel_rfl) ?_
        (repeat (first | (refine grow_op (v := ?_) ?_ ?_ ?_; rotate_left; (focus (first | exact wanted_none rfl | (go_simp; done))); (focus (intro w' hw'; have x1 := hw'.cellN x1; have y1 := hw'.cellN y1; have o0 := hw'.cellN o0; have o1 := hw'.cellN o1; have p0 := hw'.cellN p0; have p1 := hw'.cellN p1; (go_simp; first | with_reducible rfl | (go_at_call 12; refine calls_grow hw' ?_; first | (have q := kI w' hw'; with_reducible exact q))))); (intro a' ha; simp only [Act.put, List.setIfInBounds_toArray, List.set_cons_zero, List.set_cons_succ] at ha; subst ha)) | (refine grow_no ?_ ?_; (focus (first | (go_simp; done) | rfl)); (intro a' ha; simp only [Act.put, List.setIfInBounds_toArray, List.set_cons_zero, List.set_cons_succ] at ha; subst ha)))); refine grow_nil ?_; intro w1 k1
        go_wp2_with fail
        go_ret
        rw [show R = false from hRf]
        exact ⟨rfl, (show ∀ W, Fr (fun _ => False) wr W → Fr (fun _ => False) w W from hendH) _ k1⟩
      subst hxy
      have hb1 : (x1' != x1') = false := by simp
      obtain ⟨E, hE⟩ : ∃ E, E = decide (x2' = y2') := ⟨_, rfl⟩
      rw [← hE] at kI
      have hEH : Hidden (E = decide (x2' = y2')) := hE
      clear hE
      cases he : E
      · subst he
        have hRf : Hidden (R = false) := (show _ → R = false from hRneq) (fun e => by
          have := (show false = _ from hEH)
          rw [(Prod.mk.inj e).2, decide_eq_true rfl] at this
          cases this)
        go_upto_region 6 with fail
        refine wp_region_grow (by kernel_rfl) (by kernel_rfl) ?_
        (repeat (first | (refine grow_op (v := ?_) ?_ ?_ ?_; rotate_left; (focus (first | exact wanted_none rfl | (go_simp; done))); (focus (intro w' hw'; have x1 := hw'.cellN x1; have y1 := hw'.cellN y1; have o0 := hw'.cellN o0; have o1 := hw'.cellN o1; have p0 := hw'.cellN p0; have p1 := hw'.cellN p1; (go_simp; first | with_reducible rfl | (go_at_call 12; refine calls_grow hw' ?_; first | (have q := kI w' hw'; with_reducible exact q))))); (intro a' ha; simp only [Act.put, List.setIfInBounds_toArray, List.set_cons_zero, List.set_cons_succ] at ha; subst ha)) | (refine grow_no ?_ ?_; (focus (first | (go_simp; done) | rfl)); (intro a' ha; simp only [Act.put, List.setIfInBounds_toArray, List.set_cons_zero, List.set_cons_succ] at ha; subst ha)))); refine grow_nil ?_; intro w1 k1
        go_wp2_with fail
        go_ret
        rw [show R = false from hRf]
        exact ⟨rfl, (show ∀ W, Fr (fun _ => False) wr W → Fr (fun _ => False) w W from hendH) _ k1⟩
      · subst he
        have hnx : Hidden (a.tr.take (j + 1) = b.tr.take (j + 1)) := tr_snoc htH hxH hyH (by rw [of_decide_eq_true (p := x2' = y2') (show true = decide _ from hEH).symm])
        go_upto_region 6 with fail
        refine wp_region_grow (by kernel_rfl) (by kernel_rfl) ?_
        (repeat (first | (refine grow_op (v := ?_) ?_ ?_ ?_; rotate_left; (focus (first | exact wanted_none rfl | (go_simp; done))); (focus (intro w' hw'; have x1 := hw'.cellN x1; have y1 := hw'.cellN y1; have o0 := hw'.cellN o0; have o1 := hw'.cellN o1; have p0 := hw'.cellN p0; have p1 := hw'.cellN p1; (go_simp; first | with_reducible rfl | (go_at_call 12; refine calls_grow hw' ?_; first | (have q := kI w' hw'; with_reducible exact q))))); (intro a' ha; simp only [Act.put, List.setIfInBounds_toArray, List.set_cons_zero, List.set_cons_succ] at ha; subst ha)) | (refine grow_no ?_ ?_; (focus (first | (go_simp; done) | rfl)); (intro a' ha; simp only [Act.put, List.setIfInBounds_toArray, List.set_cons_zero, List.set_cons_succ] at ha; subst ha)))); refine grow_nil ?_; intro w1 k1
        go_wp2_with fail
        go_roundg (m - (j + 1))
        case measure => have : gk = m - j := hkH; omega
        case rel => exact ⟨j + 1, by first | rfl | (rw [hw1]), by omega, rfl, hnx, (show Fr (fun _ => False) V wr from hfH).same k1⟩
    · obtain rfl : j = m := by omega
      have hRt : Hidden (R = true) := by
        have h3 : a.tr.take j = b.tr.take j := htH
        rw [List.take_of_length_le (by have : a.tr.length = j := hmH; omega), List.take_of_length_le (by have : b.tr.length = j := hmH'; omega)] at h3
        show _ = _
        rw [show R = _ from hRH, decide_eq_true]
        obtain ⟨s1, t1⟩ := a
        obtain ⟨s2, t2⟩ := b
        have h4 : s1 = s2 := hst
        simp only [] at h3
        rw [h3, h4]
      have hjn : decide ((j : Int) < (j : Int)) = false := by simp
      clear hjl hf
      go_wp2_with fail
      go_ret
      rw [show R = true from hRt]
      exact ⟨rfl, (show Fr (fun _ => False) w V from fVH).same hfH⟩
end Go.Proofs.YtnmcehpdiopaiaaGreatDoor.Cd

namespace Go.Proofs.YtnmcehpdiopaiaaGreatDoor.Cd
open Go.RowKit Ty
set_option linter.unusedSimpArgs false
set_option linter.unusedVariables false

set_option maxRecDepth 20000 in
set_option maxHeartbeats 2000000 in
/-- At a place that was met: are the shapes alike? -/
theorem noted_old (gm gs n k B : Nat) (x y : Sp) (p0 p1 q0 q1 : Value) (w : World) (hk : k < n) (hn : n ≤ 9223372036854775807) (e0 : w.cell? ⟨gm, k, none⟩ = some (.bool true)) (e1 : w.cell? ⟨gs, k * 2, none⟩ = some p0) (e2 : w.cell? ⟨gs, k * 2 + 1, none⟩ = some p1) (hx : ShB w B (.agg #[p0, p1]) x) (hy : ShB w B (.agg #[q0, q1]) y) :
    Calls Tryz.prog 29 #[.slice (some ⟨gm, 0, none⟩) n n, .slice (some ⟨gs, 0, none⟩) n n, ci (k : Int), .agg #[q0, q1]] w fun e w' => e = .returned (.bool (decide (x = y))) ∧ Fr (fun _ => False) w w' := by
  obtain ⟨so, sc, to', tc, e3, h1, h2⟩ := hx
  obtain ⟨po, pc, qo, qc, e4, h3, h4⟩ := hy
  simp only [Value.agg.injEq, Array.mk.injEq, List.cons.injEq, and_true] at e3 e4
  obtain ⟨rfl, rfl⟩ := e3
  obtain ⟨rfl, rfl⟩ := e4
  obtain ⟨V, hV⟩ : ∃ V, V = w.alloc (.cells #[.slice po y.st.length pc, .slice qo y.tr.length qc] 80 (0, 0)) := ⟨_, rfl⟩
  have fV : Fr (fun _ => False) w V := by rw [hV]; exact Fr.alloc _ _ _
  have r0 : V.heap[w.heap.size]? = some (.cells #[.slice po y.st.length pc, .slice qo y.tr.length qc] 80 (0, 0)) := by rw [hV]; exact alloc_new _ _
  have b0 : V.cell? ⟨w.heap.size, 0, none⟩ = some (.slice po y.st.length pc) := cell_of_row _ _ 0 _ _ _ r0
  have b1 : V.cell? ⟨w.heap.size, 1, none⟩ = some (.slice qo y.tr.length qc) := cell_of_row _ _ 1 _ _ _ r0
  replace e0 := fV.cellN e0
  replace e1 := fV.cellN e1
  replace e2 := fV.cellN e2
  have kS := fun W (hW : Fr (fun _ => False) V W) => same_shape x y _ _ _ _ rfl rfl rfl rfl so to' po qo sc tc pc qc B W (h1.keep (fV.same hW) (fun _ _ f => f)) (h2.keep (fV.same hW) (fun _ _ f => f)) (h3.keep (fV.same hW) (fun _ _ f => f)) (h4.keep (fV.same hW) (fun _ _ f => f))
  have hkn : (k : Int) < (n : Int) := by omega
  have hk0 : (0 : Int) ≤ (k : Int) := by omega
  have fVH : Hidden (Fr (fun _ => False) w V) := fV
  have hVH : Hidden (V = _) := hV
  generalize decide (x = y) = R at *
  clear hV fV r0 h1 h2 h3 h4 hk
  go_enter Tryz.func29, Tryz.ntmps29
  go_upto_region 1 with fail
  rw [← (show V = _ from hVH)]
  clear hVH
  go_upto_region 2 with fail
  refine wp_region_grow (by kernel_rfl) (by kernel_rfl) ?_
  (repeat (first | (refine grow_op (v := ?_) ?_ ?_ ?_; rotate_left; (focus (first | exact wanted_none rfl | (go_simp; done))); (focus (intro w' hw'; have b0 := hw'.cellN b0; have b1 := hw'.cellN b1; have e1 := hw'.cellN e1; have e2 := hw'.cellN e2; (go_simp; first | with_reducible rfl | (go_at_call 49; refine calls_grow hw' ?_; first | (have q := kS w' hw'; with_reducible exact q))))); (intro a' ha; simp only [Act.put, List.setIfInBounds_toArray, List.set_cons_zero, List.set_cons_succ] at ha; subst ha)) | (refine grow_no ?_ ?_; (focus (first | (go_simp; done) | rfl)); (intro a' ha; simp only [Act.put, List.setIfInBounds_toArray, List.set_cons_zero, List.set_cons_succ] at ha; subst ha)))); refine grow_nil ?_; intro w1 k1
  go_wp2_with fail
  go_ret
  exact ⟨rfl, (show Fr (fun _ => False) w V from fVH).same k1⟩
set_option maxRecDepth 20000 in
set_option maxHeartbeats 2000000 in
/-- At a place that was not met: it is noted. -/
theorem noted_new (gm gs n k : Nat) (cm cs : Array Value) (p0 p1 : Value) (po qo : Option Addr) (ny pc my qc : Nat) (w : World) (hk : k < n) (hn : n ≤ 9223372036854775807) (hgm : w.heap[gm]? = some (.cells cm 4 (0, 0))) (hgs : w.heap[gs]? = some (.cells cs 80 (0, 0))) (e0 : cm[k]? = some (.bool false)) (e1 : cs[k * 2]? = some p0) (e2 : cs[k * 2 + 1]? = some p1) :
    Calls Tryz.prog 29 #[.slice (some ⟨gm, 0, none⟩) n n, .slice (some ⟨gs, 0, none⟩) n n, ci (k : Int), .agg #[(.slice po ny pc), (.slice qo my qc)]] w fun e w' => e = .returned (.bool true) ∧ Fr (fun j => j = gm ∨ j = gs) w w' ∧ w'.heap[gm]? = some (.cells (cm.setIfInBounds k (.bool true)) 4 (0, 0)) ∧ w'.heap[gs]? = some (.cells ((cs.setIfInBounds (k * 2) (.slice po ny pc)).setIfInBounds (k * 2 + 1) (.slice qo my qc)) 80 (0, 0)) := by
  have hne : gm ≠ gs := by
    rintro rfl
    rw [hgm] at hgs
    simp only [Option.some.injEq, Obj.cells.injEq] at hgs
    exact absurd hgs.2.1 (by decide)
  obtain ⟨V, hV⟩ : ∃ V, V = w.alloc (.cells #[(.slice po ny pc), (.slice qo my qc)] 80 (0, 0)) := ⟨_, rfl⟩
  have fV : Fr (fun _ => False) w V := by rw [hV]; exact Fr.alloc _ _ _
  have r0 : V.heap[w.heap.size]? = some (.cells #[(.slice po ny pc), (.slice qo my qc)] 80 (0, 0)) := by rw [hV]; exact alloc_new _ _
  have b0 : V.cell? ⟨w.heap.size, 0, none⟩ = some (.slice po ny pc) := cell_of_row _ _ 0 _ _ _ r0
  have b1 : V.cell? ⟨w.heap.size, 1, none⟩ = some (.slice qo my qc) := cell_of_row _ _ 1 _ _ _ r0
  have m0 := fV.heap hgm (fun f => f)
  have s0 := fV.heap hgs (fun f => f)
  have hlm := lt_of_heap hgm
  have hls := lt_of_heap hgs
  have n1 : w.heap.size ≠ gm := by omega
  have n2 : w.heap.size ≠ gs := by omega
  have c0 : V.cell? ⟨gm, k, none⟩ = some (.bool false) := by rw [cell_of_row V gm k cm _ (0, 0) m0]; exact e0
  have c1 : V.cell? ⟨gs, k * 2, none⟩ = some p0 := by rw [cell_of_row V gs _ cs _ (0, 0) s0]; exact e1
  have c2 : V.cell? ⟨gs, k * 2 + 1, none⟩ = some p1 := by rw [cell_of_row V gs _ cs _ (0, 0) s0]; exact e2
  have z0 := fz_row m0 k
  have z1 := fz_row s0 (k * 2)
  have z2 := fz_row s0 (k * 2 + 1)
  have hkn : (k : Int) < (n : Int) := by omega
  have hk0 : (0 : Int) ≤ (k : Int) := by omega
  have hne2 : gs ≠ gm := fun e => hne e.symm
  have fVH : Hidden (Fr (fun _ => False) w V) := fV
  have hVH : Hidden (V = _) := hV
  have m0H : Hidden (V.heap[gm]? = some (.cells cm 4 (0, 0))) := m0
  have s0H : Hidden (V.heap[gs]? = some (.cells cs 80 (0, 0))) := s0
  clear hV fV r0 hgm hgs e0 e1 e2 m0 s0 hlm hls hk
  go_enter Tryz.func29, Tryz.ntmps29
  go_upto_region 1 with fail
  rw [← (show V = _ from hVH)]
  clear hVH
  go_wp2_with fail
  go_ret
  have h1 := heap_setCell_same V gm k cm _ (.bool true) m0H
  have h2 : (V.setCell ⟨gm, k, none⟩ (.bool true)).heap[gs]? = some (.cells cs 80 (0, 0)) := (Fr.setCell V ⟨gm, k, none⟩ (.bool true)).heap s0H hne2
  have h3 := heap_setCell_same _ gs (k * 2) cs _ (.slice po ny pc) h2
  have h4 := heap_setCell_same _ gs (k * 2 + 1) _ _ (.slice qo my qc) h3
  have t1 := Fr.setCell V ⟨gm, k, none⟩ (.bool true)
  have t2 := Fr.setCell (V.setCell ⟨gm, k, none⟩ (.bool true)) ⟨gs, k * 2, none⟩ (.slice po ny pc)
  have t3 := Fr.setCell ((V.setCell ⟨gm, k, none⟩ (.bool true)).setCell ⟨gs, k * 2, none⟩ (.slice po ny pc)) ⟨gs, k * 2 + 1, none⟩ (.slice qo my qc)
  refine ⟨rfl, ((((show Fr (fun _ => False) w V from fVH).mono (fun _ _ f => f.elim)).same (t1.mono fun j _ e => Or.inl e)).same (t2.mono fun j _ e => Or.inr e)).same (t3.mono fun j _ e => Or.inr e), ?_, h4⟩
  exact t3.heap (t2.heap h1 hne) hne
end Go.Proofs.YtnmcehpdiopaiaaGreatDoor.Cd

namespace Go.Proofs.YtnmcehpdiopaiaaGreatDoor.Cd
open Go.RowKit Ty
set_option linter.unusedSimpArgs false
set_option linter.unusedVariables false

/-- What is kept of each place: met, done, its shape; the stacks lie from a block on. -/
structure Dk (w : World) (B gm gd gs n : Nat) (L : Cs) : Prop where
  len : L.length = n
  hm : ∃ cm : Array Value, w.heap[gm]? = some (.cells cm 4 (0, 0)) ∧ ∀ (i : Nat) x, L[i]? = some x → cm[i]? = some (.bool x.isSome)
  hd : ∃ cd : Array Value, w.heap[gd]? = some (.cells cd 4 (0, 0)) ∧ ∀ (i : Nat) x, L[i]? = some x → cd[i]? = some (.bool (gone x))
  hs : ∃ cs : Array Value, w.heap[gs]? = some (.cells cs 80 (0, 0)) ∧ ∀ (i : Nat) x, L[i]? = some x → ∃ p0 p1, cs[i * 2]? = some p0 ∧ cs[i * 2 + 1]? = some p1 ∧ ∀ y, x = some y → ShB w B (.agg #[p0, p1]) y.2
  ne : gm ≠ gd
  b1 : gm < B
  b2 : gd < B
  b3 : gs < B
theorem bool_ne : (4 : TypeId) ≠ 80 := by decide
theorem Dk.ne2 {w : World} {B gm gd gs n : Nat} {L : Cs} (h : Dk w B gm gd gs n L) : gm ≠ gs := by
  rintro rfl
  obtain ⟨cm, h1, _⟩ := h.hm
  obtain ⟨cs, h2, _⟩ := h.hs
  rw [h1] at h2
  simp only [Option.some.injEq, Obj.cells.injEq] at h2
  exact bool_ne h2.2.1
theorem Dk.ne3 {w : World} {B gm gd gs n : Nat} {L : Cs} (h : Dk w B gm gd gs n L) : gd ≠ gs := by
  rintro rfl
  obtain ⟨cm, h1, _⟩ := h.hd
  obtain ⟨cs, h2, _⟩ := h.hs
  rw [h1] at h2
  simp only [Option.some.injEq, Obj.cells.injEq] at h2
  exact bool_ne h2.2.1
theorem Dk.keep {w w' : World} {B gm gd gs n : Nat} {L : Cs} (h : Dk w B gm gd gs n L) (f : Fr (fun _ => False) w w') : Dk w' B gm gd gs n L := by
  obtain ⟨h1, ⟨cm, h2, h2'⟩, ⟨cd, h3, h3'⟩, ⟨cs, h4, h4'⟩, h5, h6, h7, h8⟩ := h
  refine ⟨h1, ⟨cm, f.heap h2 (fun f => f), h2'⟩, ⟨cd, f.heap h3 (fun f => f), h3'⟩, ⟨cs, f.heap h4 (fun f => f), fun i x hx => ?_⟩, h5, h6, h7, h8⟩
  obtain ⟨p0, p1, q0, q1, q2⟩ := h4' i x hx
  exact ⟨p0, p1, q0, q1, fun y hy => (q2 y hy).keep f (fun _ _ f => f)⟩
theorem Dk.met {w : World} {B gm gd gs n i : Nat} {L : Cs} {x : Option (Bool × Sp)} (h : Dk w B gm gd gs n L) (hx : L[i]? = some x) : w.cell? ⟨gm, i, none⟩ = some (.bool x.isSome) := by
  obtain ⟨cm, h1, h2⟩ := h.hm
  rw [cell_of_row w gm i cm _ (0, 0) h1]
  exact h2 i x hx
theorem Dk.gone {w : World} {B gm gd gs n i : Nat} {L : Cs} {x : Option (Bool × Sp)} (h : Dk w B gm gd gs n L) (hx : L[i]? = some x) : w.cell? ⟨gd, i, none⟩ = some (.bool (Cd.gone x)) := by
  obtain ⟨cm, h1, h2⟩ := h.hd
  rw [cell_of_row w gd i cm _ (0, 0) h1]
  exact h2 i x hx
theorem Dk.shape {w : World} {B gm gd gs n i : Nat} {L : Cs} {g : Bool} {s : Sp} (h : Dk w B gm gd gs n L) (hx : L[i]? = some (some (g, s))) : ∃ so sc to' tc, InB w B so sc s.st ∧ TrB w B to' tc s.tr ∧ w.cell? ⟨gs, i * 2, none⟩ = some (.slice so s.st.length sc) ∧ w.cell? ⟨gs, i * 2 + 1, none⟩ = some (.slice to' s.tr.length tc) := by
  obtain ⟨cs, h1, h2⟩ := h.hs
  obtain ⟨p0, p1, q0, q1, q2⟩ := h2 i _ hx
  obtain ⟨so, sc, to', tc, e, i1, i2⟩ := q2 _ rfl
  simp only [Value.agg.injEq, Array.mk.injEq, List.cons.injEq, and_true] at e
  obtain ⟨rfl, rfl⟩ := e
  exact ⟨so, sc, to', tc, i1, i2, by rw [cell_of_row w gs _ cs _ (0, 0) h1]; exact q0, by rw [cell_of_row w gs _ cs _ (0, 0) h1]; exact q1⟩
theorem Dk.frz {w : World} {B gm gd gs n : Nat} {L : Cs} (h : Dk w B gm gd gs n L) (i : Nat) : w.frozen? ⟨gd, i, none⟩ = false := by
  obtain ⟨cm, h1, h2⟩ := h.hd
  exact fz_row h1 i
/-- A place is gone through. -/
theorem Dk.done {w : World} {B gm gd gs n k : Nat} {L : Cs} {s : Sp} (h : Dk w B gm gd gs n L) (hk : L[k]? = some (some (false, s))) : Dk (w.setCell ⟨gd, k, none⟩ (.bool true)) B gm gd gs n (L.set k (some (true, s))) := by
  have n2 := h.ne2
  have n3 := h.ne3
  obtain ⟨h1, ⟨cm, h2, h2'⟩, ⟨cd, h3, h3'⟩, ⟨cs, h4, h4'⟩, h5, h6, h7, h8⟩ := h
  have f := Fr.setCell w ⟨gd, k, none⟩ (.bool true)
  have hkl : k < L.length := (List.getElem?_eq_some_iff.1 hk).1
  refine ⟨by simpa using h1, ⟨cm, f.heap h2 (fun e => h5 e), fun i x hx => ?_⟩, ⟨cd.setIfInBounds k (.bool true), heap_setCell_same w gd k _ _ _ h3, fun i x hx => ?_⟩, ⟨cs, f.heap h4 (fun e => n3 e.symm), fun i x hx => ?_⟩, h5, h6, h7, h8⟩
  · rw [List.getElem?_set] at hx
    by_cases e : k = i
    · subst e
      rw [if_pos rfl, if_pos hkl] at hx
      obtain rfl := Option.some.inj hx
      exact h2' k (some (false, s)) hk
    · rw [if_neg e] at hx
      exact h2' i x hx
  · rw [List.getElem?_set] at hx
    rw [Array.getElem?_setIfInBounds]
    by_cases e : k = i
    · subst e
      rw [if_pos rfl, if_pos hkl] at hx
      obtain rfl := Option.some.inj hx
      have : k < cd.size := (Array.getElem?_eq_some_iff.1 (h3' k _ hk)).1
      rw [if_pos rfl, if_pos this]
      rfl
    · rw [if_neg e] at hx
      rw [if_neg e]
      exact h3' i x hx
  · have hS : ∀ j, B ≤ j → ¬ (j = gd) := fun j hj e => by omega
    rw [List.getElem?_set] at hx
    by_cases e : k = i
    · subst e
      rw [if_pos rfl, if_pos hkl] at hx
      obtain rfl := Option.some.inj hx
      obtain ⟨p0, p1, q0, q1, q2⟩ := h4' k _ hk
      refine ⟨p0, p1, q0, q1, fun y hy => ?_⟩
      cases hy
      exact (q2 (false, s) rfl).keep f hS
    · rw [if_neg e] at hx
      obtain ⟨p0, p1, q0, q1, q2⟩ := h4' i x hx
      exact ⟨p0, p1, q0, q1, fun y hy => (q2 y hy).keep f hS⟩
theorem note_none {L : Cs} {k : Nat} {y : Sp} (h : L[k]? = some none) : noteS L k y = some (L.set k (some (false, y))) := by unfold noteS; rw [h]
theorem note_some {L : Cs} {k : Nat} {g : Bool} {s y : Sp} (h : L[k]? = some (some (g, s))) : noteS L k y = if s = y then some L else none := by unfold noteS; rw [h]
theorem noted_any (B gm gd gs n k : Nat) (L : Cs) (y : Sp) (q0 q1 : Value) (w : World) (h : Dk w B gm gd gs n L) (hk : k < n) (hn : n ≤ 9223372036854775807) (hy : ShB w B (.agg #[q0, q1]) y) :
    Calls Tryz.prog 29 #[.slice (some ⟨gm, 0, none⟩) n n, .slice (some ⟨gs, 0, none⟩) n n, ci (k : Int), .agg #[q0, q1]] w fun e w' => e = .returned (.bool (noteS L k y).isSome) ∧ Fr (fun j => j = gm ∨ j = gs) w w' ∧ ∀ L', noteS L k y = some L' → Dk w' B gm gd gs n L' := by
  obtain ⟨x, hx⟩ : ∃ x, L[k]? = some x := ⟨_, List.getElem?_eq_getElem (by rw [h.len]; exact hk)⟩
  have n2 := h.ne2
  have n3 := h.ne3
  have h0 := h
  obtain ⟨h1, ⟨cm, h2, h2'⟩, ⟨cd, h3, h3'⟩, ⟨cs, h4, h4'⟩, h5, h6, h7, h8⟩ := h
  obtain ⟨p0, p1, r0, r1, r2⟩ := h4' k x hx
  cases x with
  | none =>
    rw [note_none hx]
    obtain ⟨so, sc, to', tc, e, i1, i2⟩ := hy
    simp only [Value.agg.injEq, Array.mk.injEq, List.cons.injEq, and_true] at e
    obtain ⟨rfl, rfl⟩ := e
    refine (noted_new gm gs n k cm cs p0 p1 so to' _ sc _ tc w hk hn h2 h4 (h2' k _ hx) r0 r1).mono ?_
    rintro e w' ⟨rfl, f, g1, g2⟩
    refine ⟨rfl, f, fun L' hL => ?_⟩
    obtain rfl := Option.some.inj hL
    have hkl : k < L.length := by rw [h1]; exact hk
    have hS : ∀ j, B ≤ j → ¬ (j = gm ∨ j = gs) := fun j hj e => by omega
    refine ⟨by simpa using h1, ⟨_, g1, fun i x hx' => ?_⟩, ⟨cd, f.heap h3 (by omega), fun i x hx' => ?_⟩, ⟨_, g2, fun i x hx' => ?_⟩, h5, h6, h7, h8⟩
    · rw [List.getElem?_set] at hx'
      rw [Array.getElem?_setIfInBounds]
      by_cases e : k = i
      · subst e
        rw [if_pos rfl, if_pos hkl] at hx'
        obtain rfl := Option.some.inj hx'
        have : k < cm.size := (Array.getElem?_eq_some_iff.1 (h2' k _ hx)).1
        rw [if_pos rfl, if_pos this]
        rfl
      · rw [if_neg e] at hx'
        rw [if_neg e]
        exact h2' i x hx'
    · rw [List.getElem?_set] at hx'
      by_cases e : k = i
      · subst e
        rw [if_pos rfl, if_pos hkl] at hx'
        obtain rfl := Option.some.inj hx'
        exact h3' k none hx
      · rw [if_neg e] at hx'
        exact h3' i x hx'
    · rw [List.getElem?_set] at hx'
      have z0 : k * 2 < cs.size := (Array.getElem?_eq_some_iff.1 r0).1
      have z1 : k * 2 + 1 < cs.size := (Array.getElem?_eq_some_iff.1 r1).1
      by_cases e : k = i
      · subst e
        rw [if_pos rfl, if_pos hkl] at hx'
        obtain rfl := Option.some.inj hx'
        refine ⟨.slice so y.st.length sc, .slice to' y.tr.length tc, ?_, ?_, fun z hz => ?_⟩
        · rw [Array.getElem?_setIfInBounds, if_neg (by omega), Array.getElem?_setIfInBounds, if_pos rfl, if_pos z0]
        · rw [Array.getElem?_setIfInBounds, if_pos rfl, if_pos (by simpa using z1)]
        · cases hz
          exact ⟨so, sc, to', tc, rfl, i1.keep f hS, i2.keep f hS⟩
      · rw [if_neg e] at hx'
        obtain ⟨u0, u1, v0, v1, v2⟩ := h4' i x hx'
        refine ⟨u0, u1, ?_, ?_, fun z hz => (v2 z hz).keep f hS⟩
        · rw [Array.getElem?_setIfInBounds, if_neg (by omega), Array.getElem?_setIfInBounds, if_neg (by omega)]; exact v0
        · rw [Array.getElem?_setIfInBounds, if_neg (by omega), Array.getElem?_setIfInBounds, if_neg (by omega)]; exact v1
  | some z =>
    obtain ⟨g, s⟩ := z
    rw [note_some hx]
    have hc0 : w.cell? ⟨gs, k * 2, none⟩ = some p0 := by rw [cell_of_row w gs _ cs _ (0, 0) h4]; exact r0
    have hc1 : w.cell? ⟨gs, k * 2 + 1, none⟩ = some p1 := by rw [cell_of_row w gs _ cs _ (0, 0) h4]; exact r1
    refine (noted_old gm gs n k B s y p0 p1 q0 q1 w hk hn (h0.met hx) hc0 hc1 (r2 (g, s) rfl) hy).mono ?_
    rintro e w' ⟨rfl, f⟩
    refine ⟨by by_cases e : s = y <;> simp [e], f.mono (fun _ _ e => e.elim), fun L' hL => ?_⟩
    by_cases e : s = y
    · rw [if_pos e] at hL
      obtain rfl := Option.some.inj hL
      exact h0.keep f
    · rw [if_neg e] at hL
      cases hL
end Go.Proofs.YtnmcehpdiopaiaaGreatDoor.Cd

namespace Go.Proofs.YtnmcehpdiopaiaaGreatDoor.Cd
open Go.RowKit Ty
set_option linter.unusedSimpArgs false
set_option linter.unusedVariables false

/-- What is asked of a function by itself: the place and the error. -/
def headS (f : Fu) (p : Fm) : Int × Int := if outS f p ≠ 0 then (0, outS f p) else if 0 ≤ badI f then (badI f, 51) else (0, 0)
theorem idxP_at {α : Type} (p : α → Bool) : ∀ (l : List α) (i j : Nat) (x : α), (∀ y ∈ l.take j, p y = false) → l[j]? = some x → p x = true → idxP p l i = ((i + j : Nat) : Int)
  | [], i, j, x, _, h, _ => by simp at h
  | a :: r, i, 0, x, _, h, hp => by
    obtain rfl : a = x := by simpa using h
    unfold idxP
    rw [if_pos hp]
    rfl
  | a :: r, i, j + 1, x, h1, h, hp => by
    unfold idxP
    have ha : p a = false := h1 a (by simp)
    rw [if_neg (by rw [ha]; decide), idxP_at p r (i + 1) j x (fun y hy => h1 y (by rw [List.take_succ_cons]; exact List.mem_cons_of_mem _ hy)) (by simpa using h) hp]
    congr 1
    omega
theorem head_3 {f : Fu} {p : Fm} (h : 8 < f.sg.ps.length ∨ 64 < f.loc.length ∨ 4096 < f.cd.length) : headS f p = (0, 3) := by
  have : outS f p = 3 := by unfold outS; rw [if_pos h]
  unfold headS
  rw [this, if_pos (by decide)]
theorem head_51 {f : Fu} {p : Fm} (h : ¬ (8 < f.sg.ps.length ∨ 64 < f.loc.length ∨ 4096 < f.cd.length)) (h2 : f.cd = [] ∨ f.loc.length < f.sg.ps.length ∨ f.loc.take f.sg.ps.length ≠ f.sg.ps ∨ f.loc.all valued = false ∨ sgS f.sg = false ∨ p.vars.all valued = false ∨ p.fns.all sgS = false) : headS f p = (0, 51) := by
  have : outS f p = 51 := by unfold outS; rw [if_neg h, if_pos h2]
  unfold headS
  rw [this, if_pos (by decide)]
theorem head_0 {f : Fu} {p : Fm} (h : ¬ (8 < f.sg.ps.length ∨ 64 < f.loc.length ∨ 4096 < f.cd.length)) (h2 : ¬ (f.cd = [] ∨ f.loc.length < f.sg.ps.length ∨ f.loc.take f.sg.ps.length ≠ f.sg.ps ∨ f.loc.all valued = false ∨ sgS f.sg = false ∨ p.vars.all valued = false ∨ p.fns.all sgS = false)) : headS f p = if 0 ≤ badI f then (badI f, 51) else (0, 0) := by
  have : outS f p = 0 := by unfold outS; rw [if_neg h, if_neg h2]
  unfold headS
  rw [this, if_neg (by decide)]
theorem all_right_no {f : Fu} (h : ∀ i ∈ f.cd, rightS i = true) : ¬ 0 ≤ badI f := by
  unfold badI
  rcases idxP_spec (fun i => !rightS i) f.cd 0 with ⟨_, h2, _⟩ | ⟨k, x, h1, h2, _⟩
  · rw [h2]; decide
  · have := h x (List.mem_of_getElem? h1)
    simp [this] at h2
set_option maxRecDepth 20000 in
set_option maxHeartbeats 8000000 in
theorem head_any (f : Fu) (p : Fm) (a0 a2 a3 a4 a5 : Option Addr) (c0 c2 c3 c4 c5 np nl n nf nv : Nat) (hnp : f.sg.ps.length = np) (hnl : f.loc.length = nl) (hn : f.cd.length = n) (hnf : p.fns.length = nf) (hnv : p.vars.length = nv) (w : World) (h : Fi w f p a0 a2 a3 a4 a5 c0 c2 c3 c4 c5) :
    Calls Tryz.prog 26 #[.agg #[.slice a0 np c0, ci f.sg.res, .slice a2 nl c2, .slice a3 n c3], .agg #[.slice a4 nf c4, .slice a5 nv c5]] w fun e w' => e = .returned (.tuple #[ci (headS f p).1, ci (headS f p).2]) ∧ Fr (fun _ => False) w w' := by
  obtain ⟨R, hR⟩ : ∃ R, R = headS f p := ⟨_, rfl⟩
  rw [← hR]
  have hRH : Hidden (R = headS f p) := hR
  obtain ⟨V, hV⟩ : ∃ V, V = (w.alloc (.cells #[.slice a0 np c0, ci f.sg.res, .slice a2 nl c2, .slice a3 n c3] 27 (0, 0))).alloc (.cells #[.slice a4 nf c4, .slice a5 nv c5] 30 (0, 0)) := ⟨_, rfl⟩
  have fV : Fr (fun _ => False) w V := by rw [hV]; exact (Fr.alloc _ _ _).same (Fr.alloc _ _ _)
  have r0 : V.heap[w.heap.size]? = some (.cells #[.slice a0 np c0, ci f.sg.res, .slice a2 nl c2, .slice a3 n c3] 27 (0, 0)) := by rw [hV]; exact heap_alloc2_old _ _ _
  have r1 : V.heap[w.heap.size + 1]? = some (.cells #[.slice a4 nf c4, .slice a5 nv c5] 30 (0, 0)) := by rw [hV]; exact heap_alloc2_new _ _ _
  obtain ⟨y0, y1, y2, y3⟩ := box4 r0
  have z0 : V.cell? ⟨w.heap.size + 1, 0, none⟩ = some (.slice a4 nf c4) := cell_of_row _ _ 0 _ _ _ r1
  have z1 : V.cell? ⟨w.heap.size + 1, 1, none⟩ = some (.slice a5 nv c5) := cell_of_row _ _ 1 _ _ _ r1
  have hV2 : Fi V f p a0 a2 a3 a4 a5 c0 c2 c3 c4 c5 := h.keep fV
  have kS := fun W (hW : Fr (fun _ => False) V W) => dsig_any a0 np c0 f.sg W hnp (hV2.keep hW).ps
  have kL := fun W (hW : Fr (fun _ => False) V W) => rvalueds_any a2 nl c2 f.loc W hnl (hV2.keep hW).loc
  have kV := fun W (hW : Fr (fun _ => False) V W) => rvalueds_any a5 nv c5 p.vars W hnv (hV2.keep hW).vars
  have hVH : Hidden (V = _) := hV
  have fVH : Hidden (Fr (fun _ => False) w V) := fV
  have hFH : Hidden (Fi V f p a0 a2 a3 a4 a5 c0 c2 c3 c4 c5) := hV2
  have r0H : Hidden (V.heap[w.heap.size]? = some (.cells #[.slice a0 np c0, ci f.sg.res, .slice a2 nl c2, .slice a3 n c3] 27 (0, 0))) := r0
  have r1H : Hidden (V.heap[w.heap.size + 1]? = some (.cells #[.slice a4 nf c4, .slice a5 nv c5] 30 (0, 0))) := r1
  have hnH : Hidden (f.cd.length = n) := hn
  have hnfH : Hidden (p.fns.length = nf) := hnf
  have hnc : nl ≤ c2 := by rw [← hnl]; exact hV2.loc.1
  have kI0 : np ≤ nl → ∀ W, Fr (fun _ => False) V W → Calls Tryz.prog 12 #[.slice a2 np c2, .slice a0 np c0] W fun e w' => e = .returned (.bool (decide (f.loc.take np = f.sg.ps))) ∧ Fr (fun _ => False) W w' := fun hle W hW => by
    have := rints_is a2 a0 c2 c0 (f.loc.take np) f.sg.ps W (InL.take (hV2.keep hW).loc np) (hV2.keep hW).ps
    rw [show (f.loc.take np).length = np by rw [List.length_take]; omega, hnp] at this
    exact this
  by_cases hbig : 8 < f.sg.ps.length ∨ 64 < f.loc.length ∨ 4096 < f.cd.length
  · have hR3 : Hidden (R = (0, 3)) := by show _ = _; rw [hR]; exact head_3 hbig
    rw [hnp, hnl, hn] at hbig
    clear hR hV fV r0 r1 h hV2 kS kL kV kI0 hnp hnl hn hnf hnv
    by_cases h1 : 8 < np
    · have e1 : decide ((8 : Int) < (np : Int)) = true := by simp; omega
      have e2 : decide (8 < np) = true := by simpa using h1
      clear hbig h1
      go_enter Tryz.func26, Tryz.ntmps26
      go_upto_region 1 with fail
      rw [← (show V = _ from hVH)]
      clear hVH
      go_wp2_with fail
      go_ret2
      rw [show R = (0, 3) from hR3]
      exact ⟨rfl, fVH⟩
    have e1 : decide ((8 : Int) < (np : Int)) = false := by simp; omega
    have e2 : decide (8 < np) = false := by simpa using h1
    by_cases h2 : 64 < nl
    · have e3 : decide ((64 : Int) < (nl : Int)) = true := by simp; omega
      have e4 : decide (64 < nl) = true := by simpa using h2
      clear hbig h1 h2
      go_enter Tryz.func26, Tryz.ntmps26
      go_upto_region 1 with fail
      rw [← (show V = _ from hVH)]
      clear hVH
      go_wp2_with fail
      go_ret2
      rw [show R = (0, 3) from hR3]
      exact ⟨rfl, fVH⟩
    have e3 : decide ((64 : Int) < (nl : Int)) = false := by simp; omega
    have e4 : decide (64 < nl) = false := by simpa using h2
    have h3 : 4096 < n := by omega
    have e5 : decide ((4096 : Int) < (n : Int)) = true := by simp; omega
    have e6 : decide (4096 < n) = true := by simpa using h3
    clear hbig h1 h2 h3
    go_enter Tryz.func26, Tryz.ntmps26
    go_upto_region 1 with fail
    rw [← (show V = _ from hVH)]
    clear hVH
    go_wp2_with fail
    go_ret2
    rw [show R = (0, 3) from hR3]
    exact ⟨rfl, fVH⟩
  have hb := hbig
  rw [hnp, hnl, hn] at hb
  have e1 : decide ((8 : Int) < (np : Int)) = false := by simp; omega
  have e2 : decide (8 < np) = false := by simp; omega
  have e3 : decide ((64 : Int) < (nl : Int)) = false := by simp; omega
  have e4 : decide (64 < nl) = false := by simp; omega
  have e5 : decide ((4096 : Int) < (n : Int)) = false := by simp; omega
  have e6 : decide (4096 < n) = false := by simp; omega
  have hbigH : Hidden (¬ (8 < f.sg.ps.length ∨ 64 < f.loc.length ∨ 4096 < f.cd.length)) := hbig
  obtain ⟨D2, hD2⟩ : ∃ D, D = sgS f.sg := ⟨_, rfl⟩
  obtain ⟨D3, hD3⟩ : ∃ D, D = f.loc.all valued := ⟨_, rfl⟩
  obtain ⟨D5, hD5⟩ : ∃ D, D = decide (f.loc.take np = f.sg.ps) := ⟨_, rfl⟩
  obtain ⟨D6, hD6⟩ : ∃ D, D = p.vars.all valued := ⟨_, rfl⟩
  rw [← hD2] at kS
  rw [← hD3] at kL
  rw [← hD5] at kI0
  rw [← hD6] at kV
  have hD2H : Hidden (D2 = sgS f.sg) := hD2
  have hD3H : Hidden (D3 = f.loc.all valued) := hD3
  have hD5H : Hidden (D5 = decide (f.loc.take np = f.sg.ps)) := hD5
  have hD6H : Hidden (D6 = p.vars.all valued) := hD6
  have hnpH : Hidden (f.sg.ps.length = np) := hnp
  have hnlH : Hidden (f.loc.length = nl) := hnl
  generalize f.sg.res = rs at *
  clear hR hV fV r0 r1 h hV2 hnp hnl hn hnf hnv hbig hb hD2 hD3 hD5 hD6
  go_enter Tryz.func26, Tryz.ntmps26
  go_upto_region 1 with fail
  rw [← (show V = _ from hVH)]
  clear hVH
  go_upto_region 3 with fail
  by_cases hn0 : n = 0
  · subst hn0
    have hR51 : Hidden (R = (0, 51)) := by show _ = _; rw [show R = _ from hRH]; exact head_51 hbigH (Or.inl (List.length_eq_zero_iff.1 hnH))
    refine wp_region_grow (by kernel_rfl) (by kernel_rfl) ?_
    (repeat (first | (refine grow_op (v := ?_) ?_ ?_ ?_; rotate_left; (focus (first | exact wanted_none rfl | (go_simp; done))); (focus (intro w' hw'; have y0 := hw'.cellN y0; have y1 := hw'.cellN y1; have y2 := hw'.cellN y2; have y3 := hw'.cellN y3; have z1 := hw'.cellN z1; (go_simp; first | with_reducible rfl | (go_at_call 40; refine calls_grow hw' ?_; first | (have q := kS w' hw'; with_reducible exact q)) | (go_at_call 41; refine calls_grow hw' ?_; first | (have q := kL w' hw'; with_reducible exact q) | (have q := kV w' hw'; with_reducible exact q)) | (go_at_call 12; refine calls_grow hw' ?_; first | (have q := kI w' hw'; with_reducible exact q))))); (intro a' ha; simp only [Act.put, List.setIfInBounds_toArray, List.set_cons_zero, List.set_cons_succ] at ha; subst ha)) | (refine grow_no ?_ ?_; (focus (first | (go_simp; done) | rfl)); (intro a' ha; simp only [Act.put, List.setIfInBounds_toArray, List.set_cons_zero, List.set_cons_succ] at ha; subst ha)))); refine grow_nil ?_; intro w1 k1
    go_wp2_with fail
    go_ret2
    rw [show R = (0, 51) from hR51]
    exact ⟨rfl, (show Fr (fun _ => False) w V from fVH).same k1⟩
  have g1 : ((n : Int) == 0) = false := by rw [beq_eq_false_iff_ne]; omega
  have g2 : decide ((n : Int) = 0) = false := decide_eq_false (by omega)
  have g3 : decide (n = 0) = false := decide_eq_false hn0
  have g4 : ¬ n = 0 := hn0
  have hn0H : Hidden (¬ n = 0) := hn0
  clear hn0
  cases h2 : D2
  · subst h2
    have hR51 : Hidden (R = (0, 51)) := by show _ = _; rw [show R = _ from hRH]; exact head_51 hbigH (Or.inr (Or.inr (Or.inr (Or.inr (Or.inl (show false = _ from hD2H).symm)))))
    refine wp_region_grow (by kernel_rfl) (by kernel_rfl) ?_
    (repeat (first | (refine grow_op (v := ?_) ?_ ?_ ?_; rotate_left; (focus (first | exact wanted_none rfl | (go_simp; done))); (focus (intro w' hw'; have y0 := hw'.cellN y0; have y1 := hw'.cellN y1; have y2 := hw'.cellN y2; have y3 := hw'.cellN y3; have z1 := hw'.cellN z1; (go_simp; first | with_reducible rfl | (go_at_call 40; refine calls_grow hw' ?_; first | (have q := kS w' hw'; with_reducible exact q)) | (go_at_call 41; refine calls_grow hw' ?_; first | (have q := kL w' hw'; with_reducible exact q) | (have q := kV w' hw'; with_reducible exact q)) | (go_at_call 12; refine calls_grow hw' ?_; first | (have q := kI w' hw'; with_reducible exact q))))); (intro a' ha; simp only [Act.put, List.setIfInBounds_toArray, List.set_cons_zero, List.set_cons_succ] at ha; subst ha)) | (refine grow_no ?_ ?_; (focus (first | (go_simp; done) | rfl)); (intro a' ha; simp only [Act.put, List.setIfInBounds_toArray, List.set_cons_zero, List.set_cons_succ] at ha; subst ha)))); refine grow_nil ?_; intro w1 k1
    go_wp2_with fail
    go_ret2
    rw [show R = (0, 51) from hR51]
    exact ⟨rfl, (show Fr (fun _ => False) w V from fVH).same k1⟩
  subst h2
  cases h3 : D3
  · subst h3
    have hR51 : Hidden (R = (0, 51)) := by show _ = _; rw [show R = _ from hRH]; exact head_51 hbigH (Or.inr (Or.inr (Or.inr (Or.inl (show false = _ from hD3H).symm))))
    refine wp_region_grow (by kernel_rfl) (by kernel_rfl) ?_
    (repeat (first | (refine grow_op (v := ?_) ?_ ?_ ?_; rotate_left; (focus (first | exact wanted_none rfl | (go_simp; done))); (focus (intro w' hw'; have y0 := hw'.cellN y0; have y1 := hw'.cellN y1; have y2 := hw'.cellN y2; have y3 := hw'.cellN y3; have z1 := hw'.cellN z1; (go_simp; first | with_reducible rfl | (go_at_call 40; refine calls_grow hw' ?_; first | (have q := kS w' hw'; with_reducible exact q)) | (go_at_call 41; refine calls_grow hw' ?_; first | (have q := kL w' hw'; with_reducible exact q) | (have q := kV w' hw'; with_reducible exact q)) | (go_at_call 12; refine calls_grow hw' ?_; first | (have q := kI w' hw'; with_reducible exact q))))); (intro a' ha; simp only [Act.put, List.setIfInBounds_toArray, List.set_cons_zero, List.set_cons_succ] at ha; subst ha)) | (refine grow_no ?_ ?_; (focus (first | (go_simp; done) | rfl)); (intro a' ha; simp only [Act.put, List.setIfInBounds_toArray, List.set_cons_zero, List.set_cons_succ] at ha; subst ha)))); refine grow_nil ?_; intro w1 k1
    go_wp2_with fail
    go_ret2
    rw [show R = (0, 51) from hR51]
    exact ⟨rfl, (show Fr (fun _ => False) w V from fVH).same k1⟩
  subst h3
  by_cases hlp : nl < np
  · have g5 : decide ((nl : Int) < (np : Int)) = true := by simp; omega
    have g6 : decide (nl < np) = true := by simpa using hlp
    have hR51 : Hidden (R = (0, 51)) := by show _ = _; rw [show R = _ from hRH]; exact head_51 hbigH (Or.inr (Or.inl (by rw [show f.sg.ps.length = np from hnpH, show f.loc.length = nl from hnlH]; exact hlp)))
    clear hlp
    refine wp_region_grow (by kernel_rfl) (by kernel_rfl) ?_
    (repeat (first | (refine grow_op (v := ?_) ?_ ?_ ?_; rotate_left; (focus (first | exact wanted_none rfl | (go_simp; done))); (focus (intro w' hw'; have y0 := hw'.cellN y0; have y1 := hw'.cellN y1; have y2 := hw'.cellN y2; have y3 := hw'.cellN y3; have z1 := hw'.cellN z1; (go_simp; first | with_reducible rfl | (go_at_call 40; refine calls_grow hw' ?_; first | (have q := kS w' hw'; with_reducible exact q)) | (go_at_call 41; refine calls_grow hw' ?_; first | (have q := kL w' hw'; with_reducible exact q) | (have q := kV w' hw'; with_reducible exact q)) | (go_at_call 12; refine calls_grow hw' ?_; first | (have q := kI w' hw'; with_reducible exact q))))); (intro a' ha; simp only [Act.put, List.setIfInBounds_toArray, List.set_cons_zero, List.set_cons_succ] at ha; subst ha)) | (refine grow_no ?_ ?_; (focus (first | (go_simp; done) | rfl)); (intro a' ha; simp only [Act.put, List.setIfInBounds_toArray, List.set_cons_zero, List.set_cons_succ] at ha; subst ha)))); refine grow_nil ?_; intro w1 k1
    go_wp2_with fail
    go_ret2
    rw [show R = (0, 51) from hR51]
    exact ⟨rfl, (show Fr (fun _ => False) w V from fVH).same k1⟩
  have g5 : decide ((nl : Int) < (np : Int)) = false := by simp; omega
  have g6 : decide (nl < np) = false := by simp; omega
  have hlpH : Hidden (¬ nl < np) := hlp
  have kI := kI0 (by omega)
  have hsl := fun W => slice_to a2 nl np c2 (by omega) W
  clear kI0 hlp hnc
  cases h5 : D5
  · subst h5
    have hR51 : Hidden (R = (0, 51)) := by
      show _ = _; rw [show R = _ from hRH]
      exact head_51 hbigH (Or.inr (Or.inr (Or.inl (by rw [show f.sg.ps.length = np from hnpH]; intro e; have := (show false = _ from hD5H); rw [decide_eq_true e] at this; cases this))))
    refine wp_region_grow (by kernel_rfl) (by kernel_rfl) ?_
    (repeat (first | (refine grow_op (v := ?_) ?_ ?_ ?_; rotate_left; (focus (first | exact wanted_none rfl | (go_simp; done))); (focus (intro w' hw'; have y0 := hw'.cellN y0; have y1 := hw'.cellN y1; have y2 := hw'.cellN y2; have y3 := hw'.cellN y3; have z1 := hw'.cellN z1; (go_simp; first | with_reducible rfl | (go_at_call 40; refine calls_grow hw' ?_; first | (have q := kS w' hw'; with_reducible exact q)) | (go_at_call 41; refine calls_grow hw' ?_; first | (have q := kL w' hw'; with_reducible exact q) | (have q := kV w' hw'; with_reducible exact q)) | (go_at_call 12; refine calls_grow hw' ?_; first | (have q := kI w' hw'; with_reducible exact q))))); (intro a' ha; simp only [Act.put, List.setIfInBounds_toArray, List.set_cons_zero, List.set_cons_succ] at ha; subst ha)) | (refine grow_no ?_ ?_; (focus (first | (go_simp; done) | rfl)); (intro a' ha; simp only [Act.put, List.setIfInBounds_toArray, List.set_cons_zero, List.set_cons_succ] at ha; subst ha)))); refine grow_nil ?_; intro w1 k1
    go_wp2_with fail
    go_ret2
    rw [show R = (0, 51) from hR51]
    exact ⟨rfl, (show Fr (fun _ => False) w V from fVH).same k1⟩
  subst h5
  cases h6 : D6
  · subst h6
    have hR51 : Hidden (R = (0, 51)) := by show _ = _; rw [show R = _ from hRH]; exact head_51 hbigH (Or.inr (Or.inr (Or.inr (Or.inr (Or.inr (Or.inl (show false = _ from hD6H).symm))))))
    refine wp_region_grow (by kernel_rfl) (by kernel_rfl) ?_
    (repeat (first | (refine grow_op (v := ?_) ?_ ?_ ?_; rotate_left; (focus (first | exact wanted_none rfl | (go_simp; done))); (focus (intro w' hw'; have y0 := hw'.cellN y0; have y1 := hw'.cellN y1; have y2 := hw'.cellN y2; have y3 := hw'.cellN y3; have z1 := hw'.cellN z1; (go_simp; first | with_reducible rfl | (go_at_call 40; refine calls_grow hw' ?_; first | (have q := kS w' hw'; with_reducible exact q)) | (go_at_call 41; refine calls_grow hw' ?_; first | (have q := kL w' hw'; with_reducible exact q) | (have q := kV w' hw'; with_reducible exact q)) | (go_at_call 12; refine calls_grow hw' ?_; first | (have q := kI w' hw'; with_reducible exact q))))); (intro a' ha; simp only [Act.put, List.setIfInBounds_toArray, List.set_cons_zero, List.set_cons_succ] at ha; subst ha)) | (refine grow_no ?_ ?_; (focus (first | (go_simp; done) | rfl)); (intro a' ha; simp only [Act.put, List.setIfInBounds_toArray, List.set_cons_zero, List.set_cons_succ] at ha; subst ha)))); refine grow_nil ?_; intro w1 k1
    go_wp2_with fail
    go_ret2
    rw [show R = (0, 51) from hR51]
    exact ⟨rfl, (show Fr (fun _ => False) w V from fVH).same k1⟩
  subst h6
  refine wp_region_grow (by kernel_rfl) (by kernel_rfl) ?_
  (repeat (first | (refine grow_op (v := ?_) ?_ ?_ ?_; rotate_left; (focus (first | exact wanted_none rfl | (go_simp; done))); (focus (intro w' hw'; have y0 := hw'.cellN y0; have y1 := hw'.cellN y1; have y2 := hw'.cellN y2; have y3 := hw'.cellN y3; have z1 := hw'.cellN z1; (go_simp; first | with_reducible rfl | (go_at_call 40; refine calls_grow hw' ?_; first | (have q := kS w' hw'; with_reducible exact q)) | (go_at_call 41; refine calls_grow hw' ?_; first | (have q := kL w' hw'; with_reducible exact q) | (have q := kV w' hw'; with_reducible exact q)) | (go_at_call 12; refine calls_grow hw' ?_; first | (have q := kI w' hw'; with_reducible exact q))))); (intro a' ha; simp only [Act.put, List.setIfInBounds_toArray, List.set_cons_zero, List.set_cons_succ] at ha; subst ha)) | (refine grow_no ?_ ?_; (focus (first | (go_simp; done) | rfl)); (intro a' ha; simp only [Act.put, List.setIfInBounds_toArray, List.set_cons_zero, List.set_cons_succ] at ha; subst ha)))); refine grow_nil ?_; intro w1 k1
  have k1H : Hidden (Fr (fun _ => False) V w1) := k1
  clear kS kL kV kI hsl k1 y0 y1 y2 y3 z0 z1
  go_wp2_with fail
  go_loopg [6] nf (fun gk iv wr => ∃ j : Nat, iv = .int .i64 (j : Int) ∧ j ≤ nf ∧ gk = nf - j ∧ (p.fns.take j).all sgS = true ∧ Fr (fun _ => False) V wr)
  case atStart => exact ⟨0, rfl, by omega, rfl, by simp, k1H⟩
  case round =>
    obtain ⟨j, rfl, hj, hk, ht, hf⟩ := hrel
    have hkH : Hidden (gk = nf - j) := hk
    have htH : Hidden ((p.fns.take j).all sgS = true) := ht
    have hfH : Hidden (Fr (fun _ => False) V wr) := hf
    have z0 : wr.cell? ⟨w.heap.size + 1, 0, none⟩ = some (.slice a4 nf c4) := cell_of_row _ _ 0 _ _ _ (hf.heap r1H (fun f => f))
    clear hk ht
    by_cases hjl : j < nf
    · obtain ⟨x, hx⟩ : ∃ x, p.fns[j]? = some x := ⟨_, List.getElem?_eq_getElem (by have : p.fns.length = nf := hnfH; omega)⟩
      have hFr := (show Fi V f p a0 a2 a3 a4 a5 c0 c2 c3 c4 c5 from hFH).keep hf
      have hcap : c4 ≤ 9223372036854775807 := by have := hFr.fns.2.1; simpa [maxLen] using this
      have hcap2 : nf ≤ c4 := by have := hFr.fns.1; rw [show p.fns.length = nf from hnfH] at this; exact this
      obtain ⟨b, off, rfl, hc⟩ := hFr.fns.2.2.2.resolve_left (by intro e; rw [e] at hx; simp at hx)
      obtain ⟨ap, cp, hI, e7, e8⟩ := hc j x hx
      have kx := dsig_any ap x.ps.length cp x wr rfl hI
      have hjn : (j : Int) < (nf : Int) := by omega
      have hj0 : (0 : Int) ≤ (j : Int) := by omega
      obtain ⟨hw1, hw2⟩ := wrap_succ (a := j) (by omega)
      have hxH : Hidden (p.fns[j]? = some x) := hx
      obtain ⟨D, hD⟩ : ∃ D, D = sgS x := ⟨_, rfl⟩
      rw [← hD] at kx
      have hDH : Hidden (D = sgS x) := hD
      clear hc hI hFr hx hf hD
      cases hd : D
      · subst hd
        have hR51 : Hidden (R = (0, 51)) := by
          show _ = _; rw [show R = _ from hRH]
          refine head_51 hbigH (Or.inr (Or.inr (Or.inr (Or.inr (Or.inr (Or.inr ?_))))))
          rw [Bool.eq_false_iff]
          intro e
          have := List.all_eq_true.1 e x (List.mem_of_getElem? hxH)
          rw [← (show false = _ from hDH)] at this
          cases this
        go_wp2_with (first
          | (go_at_call 40; refine kx.mono ?_; rintro e w2 ⟨rfl, f2⟩
             have f2H : Hidden (Fr (fun _ => False) V w2) := (show Fr (fun _ => False) V wr from hfH).same f2
             clear f2 kx))
        go_ret2
        rw [show R = (0, 51) from hR51]
        exact ⟨rfl, (show Fr (fun _ => False) w V from fVH).same f2H⟩
      · subst hd
        have hnx : Hidden ((p.fns.take (j + 1)).all sgS = true) := by
          show _ = true
          rw [List.take_add_one, show p.fns[j]? = _ from hxH, List.all_append, htH]
          simp [← (show true = sgS x from hDH)]
        go_wp2_with (first
          | (go_at_call 40; refine kx.mono ?_; rintro e w2 ⟨rfl, f2⟩
             have f2H : Hidden (Fr (fun _ => False) V w2) := (show Fr (fun _ => False) V wr from hfH).same f2
             clear f2 kx))
        go_roundg (nf - (j + 1))
        case measure => have : gk = nf - j := hkH; omega
        case rel => exact ⟨j + 1, by first | rfl | (rw [hw1]), by omega, rfl, hnx, f2H⟩
    · obtain rfl : j = nf := by omega
      have hall : Hidden (p.fns.all sgS = true) := by
        show _ = true
        rw [← show (p.fns.take j).all sgS = true from htH, List.take_of_length_le (by have : p.fns.length = j := hnfH; omega)]
      have hjn : decide ((j : Int) < (j : Int)) = false := by simp
      have hRb : Hidden (R = if 0 ≤ badI f then (badI f, 51) else (0, 0)) := by
        show _ = _; rw [show R = _ from hRH]
        refine head_0 hbigH ?_
        rintro (e | e | e | e | e | e | e)
        · exact hn0H (by rw [← show f.cd.length = n from hnH, e]; rfl)
        · rw [show f.sg.ps.length = np from hnpH, show f.loc.length = nl from hnlH] at e; exact hlpH e
        · rw [show f.sg.ps.length = np from hnpH] at e; exact e (of_decide_eq_true (p := f.loc.take np = f.sg.ps) (show true = decide _ from hD5H).symm)
        · rw [← (show true = _ from hD3H)] at e; cases e
        · rw [← (show true = _ from hD2H)] at e; cases e
        · rw [← (show true = _ from hD6H)] at e; cases e
        · rw [show p.fns.all sgS = true from hall] at e; cases e
      clear hjl hf
      go_wp2_with fail
      go_loopg [7] n (fun gk2 iv wr2 => ∃ i : Nat, iv = .int .i64 (i : Int) ∧ i ≤ n ∧ gk2 = n - i ∧ (∀ y ∈ f.cd.take i, (!rightS y) = false) ∧ Fr (fun _ => False) V wr2)
      case atStart => exact ⟨0, rfl, by omega, rfl, by simp, hfH⟩
      case round =>
        obtain ⟨i, rfl, hi, hk2, ht2, hf2⟩ := hrel
        have hk2H : Hidden (gk = n - i) := hk2
        have ht2H : Hidden (∀ y ∈ f.cd.take i, (!rightS y) = false) := ht2
        have hf2H : Hidden (Fr (fun _ => False) V wr) := hf2
        obtain ⟨y0, y1, y2, y3⟩ := box4 (hf2.heap r0H (fun f => f))
        clear hk2 ht2
        by_cases hil : i < n
        · obtain ⟨x, hx⟩ : ∃ x, f.cd[i]? = some x := ⟨_, List.getElem?_eq_getElem (by have : f.cd.length = n := hnH; omega)⟩
          have hFr := (show Fi V f p a0 a2 a3 _ a5 c0 c2 c3 c4 c5 from hFH).keep hf2
          have hcap : c3 ≤ 9223372036854775807 := by have := hFr.cd.2.1; simpa [maxLen] using this
          have hcap2 : n ≤ c3 := by have := hFr.cd.1; rw [show f.cd.length = n from hnH] at this; exact this
          obtain ⟨b, off, rfl, hc⟩ := hFr.cd.2.2.2.resolve_left (by intro e; rw [e] at hx; simp at hx)
          have q0 := hc i x hx 0 _ rfl
          have q1 := hc i x hx 1 _ rfl
          have q2 := hc i x hx 2 _ rfl
          have q3 := hc i x hx 3 _ rfl
          rw [Nat.add_zero] at q0
          have kx := rright_any x (hFr.okI x (List.mem_of_getElem? hx)).b wr
          have hin : (i : Int) < (n : Int) := by omega
          have hi0 : (0 : Int) ≤ (i : Int) := by omega
          obtain ⟨hw1, hw2⟩ := wrap_succ (a := i) (by omega)
          have hxH : Hidden (f.cd[i]? = some x) := hx
          obtain ⟨D, hD⟩ : ∃ D, D = rightS x := ⟨_, rfl⟩
          rw [← hD] at kx
          have hDH : Hidden (D = rightS x) := hD
          obtain ⟨xo, xn, xt, xb⟩ := x
          clear hc hFr hx hf2 hD
          cases hd : D
          · subst hd
            have hRi : Hidden (R = ((i : Int), 51)) := by
              show _ = _
              have e1 : badI f = (i : Int) := by
                have := idxP_at (fun i => !rightS i) f.cd 0 i _ ht2H hxH (by rw [← (show false = _ from hDH)]; rfl)
                rw [Nat.zero_add] at this
                exact this
              rw [show R = _ from hRb, e1, if_pos (by omega)]
            go_wp2_with (first
              | (go_at_call 42; refine kx.mono ?_; rintro e w2 ⟨rfl, f2⟩
                 have f2H : Hidden (Fr (fun _ => False) V w2) := (show Fr (fun _ => False) V wr from hf2H).same f2
                 clear f2 kx))
            go_ret2
            rw [show R = _ from hRi]
            exact ⟨rfl, (show Fr (fun _ => False) w V from fVH).same f2H⟩
          · subst hd
            have hnx : Hidden (∀ y ∈ f.cd.take (i + 1), (!rightS y) = false) := by
              intro y hy
              rw [List.take_add_one, show f.cd[i]? = _ from hxH, List.mem_append] at hy
              rcases hy with hy | hy
              · exact (show ∀ y ∈ f.cd.take i, (!rightS y) = false from ht2H) y hy
              · simp at hy
                subst hy
                rw [← (show true = _ from hDH)]
                rfl
            go_wp2_with (first
              | (go_at_call 42; refine kx.mono ?_; rintro e w2 ⟨rfl, f2⟩
                 have f2H : Hidden (Fr (fun _ => False) V w2) := (show Fr (fun _ => False) V wr from hf2H).same f2
                 clear f2 kx))
            go_roundg (n - (i + 1))
            case measure => have : gk = n - i := hk2H; omega
            case rel => exact ⟨i + 1, by first | rfl | (rw [hw1]), by omega, rfl, hnx, f2H⟩
        · obtain rfl : i = n := by omega
          have hR0 : Hidden (R = (0, 0)) := by
            show _ = _
            have hno : ¬ 0 ≤ badI f := by
              refine all_right_no (fun y hy => ?_)
              have := (show ∀ y ∈ f.cd.take i, (!rightS y) = false from ht2H) y (by rw [List.take_of_length_le (by have : f.cd.length = i := hnH; omega)]; exact hy)
              simpa using this
            rw [show R = _ from hRb, if_neg hno]
          have hin : decide ((i : Int) < (i : Int)) = false := by simp
          clear hil hf2
          go_wp2_with fail
          go_ret2
          rw [show R = (0, 0) from hR0]
          exact ⟨rfl, (show Fr (fun _ => False) w V from fVH).same hf2H⟩
end Go.Proofs.YtnmcehpdiopaiaaGreatDoor.Cd

namespace Go.Proofs.YtnmcehpdiopaiaaGreatDoor.Cd
open Go.RowKit Ty
set_option linter.unusedSimpArgs false
set_option linter.unusedVariables false

theorem info_bool1 : (Tryz.prog.info? 4).map (fun i => (i.zero, i.size, i.bytes)) = some (some (.bool false), 1, 1) := by kernel_rfl
theorem info_shp2 : (Tryz.prog.info? 80).map (fun i => (i.zero, i.size, i.bytes)) = some (some (.agg #[.slice none 0 0, .slice none 0 0]), 2, 48) := by kernel_rfl
abbrev mB (n : Nat) : Array Value := madeCells (Value.bool false).cells n
abbrev mS (n : Nat) : Array Value := madeCells (Value.agg #[.slice none 0 0, .slice none 0 0]).cells (n * 2)
theorem mB_at (n j : Nat) (hj : j < n) : (mB n)[j]? = some (.bool false) := by
  show (madeCells #[Value.bool false] n)[j]? = some (.bool false)
  simp [madeCells, hj, Nat.mod_one]
theorem mS_at (n j : Nat) (hj : j < n * 2) : (mS n)[j]? = some (.slice none 0 0) := by
  show (madeCells #[Value.slice none 0 0, Value.slice none 0 0] (n * 2))[j]? = some (.slice none 0 0)
  rcases Nat.mod_two_eq_zero_or_one j with h | h <;> simp [madeCells, hj, h]
theorem mk_bool (w : World) (n : Nat) (hn : n ≤ 4096) : (Instr.makeSlice 56 (.int .i64 (n : Int)) (.int .i64 (n : Int))).run Tryz.prog w = .ok (.slice (some ⟨w.heap.size, 0, none⟩) n n) (w.alloc (.cells (mB n) 4 (0, 0))) := by
  cases hi : Tryz.prog.info? 4 with
  | none => have := info_bool1; rw [hi] at this; cases this
  | some i =>
    have hh := info_bool1
    rw [hi] at hh
    simp only [Option.map_some, Option.some.injEq, Prod.mk.injEq] at hh
    have := run_makeSlice (P := Tryz.prog) w 56 4 i _ Tryz.underlying56 hi hh.1 .i64 .i64 n n (by omega) (by omega) (by rw [hh.2.1]; simp; omega) (by rw [hh.2.2]; omega) (by omega)
    rw [this, hh.2.1, Int.toNat_natCast, Nat.mul_one]
theorem mk_shp (w : World) (n : Nat) (hn : n ≤ 4096) : (Instr.makeSlice 57 (.int .i64 (n : Int)) (.int .i64 (n : Int))).run Tryz.prog w = .ok (.slice (some ⟨w.heap.size, 0, none⟩) n n) (w.alloc (.cells (mS n) 80 (0, 0))) := by
  cases hi : Tryz.prog.info? 80 with
  | none => have := info_shp2; rw [hi] at this; cases this
  | some i =>
    have hh := info_shp2
    rw [hi] at hh
    simp only [Option.map_some, Option.some.injEq, Prod.mk.injEq] at hh
    have := run_makeSlice (P := Tryz.prog) w 57 80 i _ Tryz.underlying57 hi hh.1 .i64 .i64 n n (by omega) (by omega) (by rw [hh.2.1]; simp; omega) (by rw [hh.2.2]; omega) (by omega)
    rw [this, hh.2.1, Int.toNat_natCast]
theorem start_at {n i : Nat} {x : Option (Bool × Sp)} (h : (startS n)[i]? = some x) : i < n ∧ x = if i = 0 then some (false, ⟨[], []⟩) else none := by
  unfold startS at h
  rw [List.getElem?_set] at h
  split at h
  · rename_i e
    split at h
    · rename_i e2
      rw [List.length_replicate] at e2
      obtain rfl := Option.some.inj h
      exact ⟨by omega, by rw [if_pos e.symm]⟩
    · cases h
  · rename_i e
    rw [List.getElem?_replicate] at h
    split at h
    · rename_i e2
      obtain rfl := Option.some.inj h
      exact ⟨e2, by rw [if_neg (fun e3 => e e3.symm)]⟩
    · cases h
theorem Dk.start {w : World} {B gm gd gs n : Nat} (hm : w.heap[gm]? = some (.cells (mB n) 4 (0, 0))) (hd : w.heap[gd]? = some (.cells (mB n) 4 (0, 0))) (hs : w.heap[gs]? = some (.cells (mS n) 80 (0, 0))) (ne : gm ≠ gd) (ne2 : gm ≠ gs) (b1 : gm < B) (b2 : gd < B) (b3 : gs < B) : Dk (w.setCell ⟨gm, 0, none⟩ (.bool true)) B gm gd gs n (startS n) := by
  have f := Fr.setCell w ⟨gm, 0, none⟩ (.bool true)
  refine ⟨by simp [startS], ⟨_, heap_setCell_same w gm 0 _ _ _ hm, fun i x hx => ?_⟩, ⟨_, f.heap hd (fun e => ne e.symm), fun i x hx => ?_⟩, ⟨_, f.heap hs (fun e => ne2 e.symm), fun i x hx => ?_⟩, ne, b1, b2, b3⟩
  · obtain ⟨hi, rfl⟩ := start_at hx
    rw [Array.getElem?_setIfInBounds]
    by_cases e : i = 0
    · subst e
      have : 0 < (mB n).size := (Array.getElem?_eq_some_iff.1 (mB_at n 0 hi)).1
      rw [if_pos rfl, if_pos this, if_pos rfl]
      rfl
    · rw [if_neg (fun e2 => e e2.symm), if_neg e]
      exact mB_at n i hi
  · obtain ⟨hi, rfl⟩ := start_at hx
    rw [mB_at n i hi]
    by_cases e : i = 0
    · rw [if_pos e]; rfl
    · rw [if_neg e]; rfl
  · obtain ⟨hi, rfl⟩ := start_at hx
    refine ⟨.slice none 0 0, .slice none 0 0, mS_at n _ (by omega), mS_at n _ (by omega), fun y hy => ?_⟩
    by_cases e : i = 0
    · rw [if_pos e] at hy
      cases hy
      exact ⟨none, 0, none, 0, rfl, ⟨⟨Nat.le_refl _, by simp [maxLen], fun _ => rfl, Or.inl rfl⟩, fun a e => (by cases e)⟩, ⟨Nat.le_refl _, by simp [maxLen], fun _ => rfl, fun a e => (by cases e), Or.inl rfl⟩⟩
    · rw [if_neg e] at hy
      cases hy
/-- A round keeps what holds of all shapes. -/
theorem round_inv {f : Fu} {p : Fm} (hF : OkF f p) (hr : ∀ k : Nat, k < f.cd.length → rightS (f.cd.getD k default) = true) {L L' : Cs} {k : Nat} {s : Sp} (hinv : InvL f.cd.length L) (hk : L[k]? = some (some (false, s))) (e2 : roundS f p L k s = .ok L') : InvL f.cd.length L' := by
  have hkn : k < f.cd.length := by rw [← hinv.len]; exact (List.getElem?_eq_some_iff.1 hk).1
  exact ⟨by rw [(roundS_len hk e2).1]; exact hinv.len, goS_ok hF (fun k hk => right_okI (hr k hk)) hinv.len hinv.ok hk e2, round_over hinv.ov hk e2, round_tz (hr k hkn) (hinv.ov _ _ _ hk) hinv.tz hk e2⟩
theorem ver_head {f : Fu} {p : Fm} (h : (headS f p).2 ≠ 0) : verS f p = headS f p ∧ finS f p = none := by
  by_cases h1 : outS f p ≠ 0
  · exact ⟨by unfold verS headS; rw [if_pos h1, if_pos h1], by unfold finS; rw [if_pos h1]⟩
  · by_cases h2 : 0 ≤ badI f
    · exact ⟨by unfold verS headS; rw [if_neg h1, if_neg h1, if_pos h2, if_pos h2], by unfold finS; rw [if_neg h1, if_pos h2]⟩
    · exfalso
      apply h
      unfold headS
      rw [if_neg h1, if_neg h2]
theorem ver_head0 {f : Fu} {p : Fm} (h : (headS f p).2 = 0) : headS f p = (0, 0) ∧ outS f p = 0 ∧ ¬ 0 ≤ badI f ∧ verS f p = (placeS (runS f p), errS (runS f p)) ∧ finS f p = okR (runS f p) := by
  by_cases h1 : outS f p ≠ 0
  · unfold headS at h
    rw [if_pos h1] at h
    exact absurd h h1
  · by_cases h2 : 0 ≤ badI f
    · unfold headS at h
      rw [if_neg h1, if_pos h2] at h
      exact absurd h (by simp)
    · exact ⟨by unfold headS; rw [if_neg h1, if_neg h2], by simpa using h1, h2, by unfold verS; rw [if_neg h1, if_neg h2], by unfold finS; rw [if_neg h1, if_neg h2]⟩
theorem least_put {L : Cs} {j : Nat} (h : ∀ i : Nat, i < j → ∀ x, L[i]? ≠ some (some (false, x))) (hj : ∀ x, L[j]? ≠ some (some (false, x))) : ∀ i : Nat, i < j + 1 → ∀ x, L[i]? ≠ some (some (false, x)) := by
  intro i hi x
  by_cases e : i = j
  · subst e; exact hj x
  · exact h i (by omega) x
end Go.Proofs.YtnmcehpdiopaiaaGreatDoor.Cd
