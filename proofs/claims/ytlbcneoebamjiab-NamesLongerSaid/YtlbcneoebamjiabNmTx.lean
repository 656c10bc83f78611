/- Lists of texts in memory: Texts. -/
import Derived.Test.YtlbcneoebamjiabNmMem
import Derived.Test.YtlbcneoebamjiabNmSet
import Derived.Sort.EncStr
import Derived.Deep.RegionWith
namespace Go.Proofs.Ytlbcneoebamjiab
open Go.RowKit Go.Sort
set_option linter.unusedSimpArgs false
set_option linter.unusedVariables false

/-- A list of texts that can be read at v. -/
def Tl (w : World) (v : Value) (l : List Str) : Prop :=
  ∃ ao cap, v = .slice ao l.length cap ∧ l.length ≤ cap ∧ cap ≤ 9223372036854775807 ∧ (ao = none → cap = 0) ∧
    (l = [] ∨ ∃ b off, ao = some ⟨b, off, none⟩ ∧ ∀ (i : Nat) (x : Str), l[i]? = some x → w.cell? ⟨b, off + i, none⟩ = some (encStr x))
/-- A list of texts in memory of the call's own, which may be written. -/
def Tn (w : World) (B : Nat) (v : Value) (l : List Str) : Prop :=
  ∃ ao cap, v = .slice ao l.length cap ∧ l.length ≤ cap ∧ cap ≤ 9223372036854775807 ∧ (ao = none → cap = 0) ∧
    (l = [] ∨ ∃ b off, ao = some ⟨b, off, none⟩ ∧ B ≤ b ∧ b < w.heap.size ∧ Holds encStr w b off l.toArray)

theorem Tn.tl {w : World} {B : Nat} {v : Value} {l : List Str} (h : Tn w B v l) : Tl w v l := by
  obtain ⟨ao, cap, rfl, h1, h2, h3, h4⟩ := h
  refine ⟨ao, cap, rfl, h1, h2, h3, ?_⟩
  rcases h4 with h4 | ⟨b, off, rfl, hB, hb, hH⟩
  · exact Or.inl h4
  · refine Or.inr ⟨b, off, rfl, fun i x hx => ?_⟩
    obtain ⟨hi, e⟩ := List.getElem?_eq_some_iff.1 hx
    have := (hH i (by simpa using hi)).1
    rw [this, getElem!_pos _ i (by simpa using hi)]
    simp [e]
theorem Tl.keep {S : Nat → Prop} {w w' : World} {v : Value} {l : List Str} (h : Tl w v l) (hf : Fr S w w') (hn : ∀ k, v.ownBlock = some k → ¬ S k) : Tl w' v l := by
  obtain ⟨ao, cap, rfl, h1, h2, h3, h4⟩ := h
  refine ⟨ao, cap, rfl, h1, h2, h3, ?_⟩
  rcases h4 with rfl | ⟨b, off, rfl, hc⟩
  · exact Or.inl rfl
  · exact Or.inr ⟨b, off, rfl, fun i x hx => hf.cell (hc i x hx) (hn b rfl)⟩
theorem Tl.later {w w' : World} {v : Value} {l : List Str} (h : Tl w v l) (hf : Fr (fun _ => False) w w') : Tl w' v l := h.keep hf (fun _ _ f => f)
theorem Tn.keep {S : Nat → Prop} {w w' : World} {B : Nat} {v : Value} {l : List Str} (h : Tn w B v l) (hf : Fr S w w') (hn : ∀ k, v.ownBlock = some k → ¬ S k) : Tn w' B v l := by
  obtain ⟨ao, cap, rfl, h1, h2, h3, h4⟩ := h
  refine ⟨ao, cap, rfl, h1, h2, h3, ?_⟩
  rcases h4 with rfl | ⟨b, off, rfl, hB, hb, hH⟩
  · exact Or.inl rfl
  · refine Or.inr ⟨b, off, rfl, hB, Nat.lt_of_lt_of_le hb hf.size, fun j hj => ?_⟩
    have e := hf.block b hb (hn b rfl)
    rw [World.cell?_of_block (a := ⟨b, off + j, none⟩) e, World.frozen?_of_block (a := ⟨b, off + j, none⟩) e]
    exact hH j hj
theorem Tn.later {w w' : World} {B : Nat} {v : Value} {l : List Str} (h : Tn w B v l) (hf : Fr (fun _ => False) w w') : Tn w' B v l := h.keep hf (fun _ _ f => f)
theorem Tn.lower {w : World} {B B' : Nat} {v : Value} {l : List Str} (h : Tn w B v l) (hb : B' ≤ B) : Tn w B' v l := by
  obtain ⟨ao, cap, rfl, h1, h2, h3, h4⟩ := h
  refine ⟨ao, cap, rfl, h1, h2, h3, ?_⟩
  rcases h4 with rfl | ⟨b, off, rfl, hB, hr⟩
  · exact Or.inl rfl
  · exact Or.inr ⟨b, off, rfl, by omega, hr⟩
/-- What lies in memory from ahead is apart from what is new. -/
theorem Tl.nil (w : World) : Tl w (.slice none 0 0) [] := ⟨none, 0, rfl, by simp, by simp, fun _ => rfl, Or.inl rfl⟩

set_option maxHeartbeats 800000 in
theorem texts_walk (ao bo : Option Addr) (na nb ca cb : Nat) (la lb : List Str) (r : Bool) (w : World) (hna : Hidden (la.length = na)) (hnb : Hidden (lb.length = nb)) (h1 : na ≤ ca) (h2 : nb ≤ cb) (h3 : ca ≤ 9223372036854775807) (h4 : cb ≤ 9223372036854775807)
    (ha : Hidden (la = [] ∨ ∃ b off, ao = some ⟨b, off, none⟩ ∧ ∀ (i : Nat) (x : Str), la[i]? = some x → w.cell? ⟨b, off + i, none⟩ = some (encStr x)))
    (hb : Hidden (lb = [] ∨ ∃ b off, bo = some ⟨b, off, none⟩ ∧ ∀ (i : Nat) (x : Str), lb[i]? = some x → w.cell? ⟨b, off + i, none⟩ = some (encStr x))) (hr : Hidden (decide (la = lb) = r)) :
    Calls Try.prog 10 #[.slice ao na ca, .slice bo nb cb] w fun e w' => e = .returned (.bool r) ∧ Fr (fun _ => False) w w' := by
  by_cases hn : na = nb
  · subst hn
    go_enter Try.func10, Try.ntmps10
    go_wp2
    go_loopg [5] na (fun k iv wr => ∃ j : Nat, iv = .int .i64 (j : Int) ∧ j ≤ na ∧ k = na - j ∧ Fr (fun _ => False) w wr ∧ la.take j = lb.take j)
    case atStart => exact ⟨0, rfl, by omega, rfl, Fr.refl _ _, rfl⟩
    case round =>
      obtain ⟨j, rfl, hj, hk, hf, hsame⟩ := hrel
      have hkH : Hidden (gk = na - j) := hk
      have hfH : Hidden (Fr (fun _ => False) w wr) := hf
      have hsH : Hidden (la.take j = lb.take j) := hsame
      have hna' : la.length = na := hna
      have hnb' : lb.length = na := hnb
      clear hk hsame
      by_cases hjl : j < na
      · obtain ⟨x, hx⟩ : ∃ x, la[j]? = some x := ⟨la[j], List.getElem?_eq_getElem (by omega)⟩
        obtain ⟨y, hy⟩ : ∃ y, lb[j]? = some y := ⟨lb[j], List.getElem?_eq_getElem (by omega)⟩
        rcases (show la = [] ∨ _ from ha) with h0 | ⟨ba, oa, rfl, hca⟩
        · rw [h0] at hx; simp at hx
        rcases (show lb = [] ∨ _ from hb) with h0 | ⟨bb, ob, rfl, hcb⟩
        · rw [h0] at hy; simp at hy
        have c1 := hf.cell (hca j x hx) (fun f => f)
        have c2 := hf.cell (hcb j y hy) (fun f => f)
        have hxH : Hidden (la[j]? = some x) := hx
        have hyH : Hidden (lb[j]? = some y) := hy
        clear hf hca hcb hna' hnb' hx hy
        by_cases hxy : x = y
        · subst hxy
          go_wp2
          go_region
          go_wp2
          go_roundg (na - (j + 1))
          case measure => have := (show gk = na - j from hkH); omega
          case rel =>
            refine ⟨j + 1, by go_num, by omega, rfl, hfH.same (Fr.drew _ _), ?_⟩
            rw [List.take_add_one, List.take_add_one, show la[j]? = some x from hxH, show lb[j]? = some x from hyH, show la.take j = lb.take j from hsH]
        · have hne : (x == y) = false := beq_eq_false_iff_ne.2 hxy
          have hxyH : Hidden (x ≠ y) := hxy
          clear hxy
          go_wp2
          go_region
          go_wp2
          go_ret
          refine ⟨?_, hfH.same (Fr.drew _ _)⟩
          have hne2 : la ≠ lb := fun e => by
            have h1 : la[j]? = some x := hxH
            rw [e, show lb[j]? = some y from hyH] at h1
            exact (show x ≠ y from hxyH) (Option.some.inj h1).symm
          rw [← (show decide (la = lb) = r from hr), decide_eq_false hne2]
          rfl
      · obtain rfl : j = na := by omega
        clear hf
        go_wp2
        go_ret
        refine ⟨?_, hfH⟩
        have this : la.take j = lb.take j := hsH
        rw [List.take_of_length_le (by omega), List.take_of_length_le (by omega)] at this
        rw [← (show decide (la = lb) = r from hr), decide_eq_true this]
        rfl
  · have hn' : ((na : Int) == (nb : Int)) = false := by simp; omega
    go_enter Try.func10, Try.ntmps10
    go_wp2
    go_ret
    refine ⟨?_, Fr.refl _ _⟩
    have e1 : la.length = na := hna
    have e2 : lb.length = nb := hnb
    have hne2 : la ≠ lb := fun e => hn (by rw [← e1, ← e2, e])
    rw [← (show decide (la = lb) = r from hr), decide_eq_false hne2]
    rfl

theorem texts_is (a b : Value) (la lb : List Str) (w : World) (ha : Tl w a la) (hb : Tl w b lb) (r : Bool) (hr : decide (la = lb) = r) :
    Calls Try.prog 10 #[a, b] w fun e w' => e = .returned (.bool r) ∧ Fr (fun _ => False) w w' := by
  obtain ⟨ao, ca, rfl, a1, a2, a3, a4⟩ := ha
  obtain ⟨bo, cb, rfl, b1, b2, b3, b4⟩ := hb
  exact texts_walk ao bo _ _ ca cb la lb r w rfl rfl a1 b1 a2 b2 a4 b4 hr
end Go.Proofs.Ytlbcneoebamjiab
