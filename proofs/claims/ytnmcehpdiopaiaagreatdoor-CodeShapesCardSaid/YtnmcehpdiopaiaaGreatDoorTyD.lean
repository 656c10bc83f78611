/- Lists of ints that are alike; items that are. -/
import Derived.Test.YtnmcehpdiopaiaaGreatDoorTyAll
import Derived.Test.YtnmcehpdiopaiaaGreatDoorTrG
namespace Go.Proofs.YtnmcehpdiopaiaaGreatDoor.Ty
open Go.RowKit
set_option linter.unusedSimpArgs false
set_option linter.unusedVariables false


set_option maxHeartbeats 800000 in
theorem equal_walk (ao bo : Option Addr) (na nb ca cb : Nat) (la lb : List Int) (r : Bool) (w : World) (hna : Hidden (la.length = na)) (hnb : Hidden (lb.length = nb)) (h1 : na ≤ ca) (h2 : nb ≤ cb) (h3 : ca ≤ 9223372036854775807) (h4 : cb ≤ 9223372036854775807)
    (ha : Hidden (la = [] ∨ ∃ b off, ao = some ⟨b, off, none⟩ ∧ ∀ (i : Nat) (x : Int), la[i]? = some x → w.cell? ⟨b, off + i, none⟩ = some (ci x)))
    (hb : Hidden (lb = [] ∨ ∃ b off, bo = some ⟨b, off, none⟩ ∧ ∀ (i : Nat) (x : Int), lb[i]? = some x → w.cell? ⟨b, off + i, none⟩ = some (ci x))) (hr : Hidden (decide (la = lb) = r)) :
    Calls Tryz.prog 33 #[.slice ao na ca, .slice bo nb cb] w fun e w' => e = .returned (.bool r) ∧ Fr (fun _ => False) w w' := by
  by_cases hn : na = nb
  · subst hn
    go_enter Tryz.func33, Tryz.ntmps33
    go_wp2
    go_loopg [13] na (fun k iv wr => ∃ j : Nat, iv = .int .i64 (j : Int) ∧ j ≤ na ∧ k = na - j ∧ Fr (fun _ => False) w wr ∧ la.take j = lb.take j)
    case atStart => exact ⟨0, rfl, by omega, rfl, Fr.refl _ _, rfl⟩
    case round =>
      obtain ⟨j, rfl, hj, hk, hf, hsame⟩ := hrel
      have hkH : Hidden (gk = na - j) := hk
      have hfH : Hidden (Fr (fun _ => False) w wr) := hf
      have hsH : Hidden (la.take j = lb.take j) := hsame
      have hna' : la.length = na := hna
      have hnb' : lb.length = na := hnb
      clear hk hsame
      by_cases hjl : j < na
      · obtain ⟨x, hx⟩ : ∃ x, la[j]? = some x := ⟨la[j], List.getElem?_eq_getElem (by omega)⟩
        obtain ⟨y, hy⟩ : ∃ y, lb[j]? = some y := ⟨lb[j], List.getElem?_eq_getElem (by omega)⟩
        rcases (show la = [] ∨ _ from ha) with h0 | ⟨ba, oa, rfl, hca⟩
        · rw [h0] at hx; simp at hx
        rcases (show lb = [] ∨ _ from hb) with h0 | ⟨bb, ob, rfl, hcb⟩
        · rw [h0] at hy; simp at hy
        have c1 := hf.cell (hca j x hx) (fun f => f)
        have c2 := hf.cell (hcb j y hy) (fun f => f)
        have hxH : Hidden (la[j]? = some x) := hx
        have hyH : Hidden (lb[j]? = some y) := hy
        clear hf hca hcb hna' hnb' hx hy
        by_cases hxy : x = y
        · subst hxy
          go_wp2
          go_region
          go_wp2
          go_roundg (na - (j + 1))
          case measure => have := (show gk = na - j from hkH); omega
          case rel =>
            refine ⟨j + 1, by go_num, by omega, rfl, hfH.same (Fr.drew _ _), ?_⟩
            rw [List.take_add_one, List.take_add_one, show la[j]? = some x from hxH, show lb[j]? = some x from hyH, show la.take j = lb.take j from hsH]
        · have hne : (x == y) = false := beq_eq_false_iff_ne.2 hxy
          have hne3 : (x != y) = true := by simp [hxy]
          have hxyH : Hidden (x ≠ y) := hxy
          clear hxy
          go_wp2
          go_region
          go_wp2
          go_ret
          refine ⟨?_, hfH.same (Fr.drew _ _)⟩
          have hne2 : la ≠ lb := fun e => by
            have h1 : la[j]? = some x := hxH
            rw [e, show lb[j]? = some y from hyH] at h1
            exact (show x ≠ y from hxyH) (Option.some.inj h1).symm
          rw [← (show decide (la = lb) = r from hr), decide_eq_false hne2]
          rfl
      · obtain rfl : j = na := by omega
        clear hf
        go_wp2
        go_ret
        refine ⟨?_, hfH⟩
        have this : la.take j = lb.take j := hsH
        rw [List.take_of_length_le (by omega), List.take_of_length_le (by omega)] at this
        rw [← (show decide (la = lb) = r from hr), decide_eq_true this]
        rfl
  · have hn' : ((na : Int) == (nb : Int)) = false := by simp; omega
    have hn2 : ((na : Int) != (nb : Int)) = true := by simp; omega
    go_enter Tryz.func33, Tryz.ntmps33
    go_wp2
    go_ret
    refine ⟨?_, Fr.refl _ _⟩
    have e1 : la.length = na := hna
    have e2 : lb.length = nb := hnb
    have hne2 : la ≠ lb := fun e => hn (by rw [← e1, ← e2, e])
    rw [← (show decide (la = lb) = r from hr), decide_eq_false hne2]
    rfl
theorem equal_is (ao bo : Option Addr) (ca cb : Nat) (la lb : List Int) (w : World) (ha : InL w ao ca la) (hb : InL w bo cb lb) :
    Calls Tryz.prog 33 #[.slice ao la.length ca, .slice bo lb.length cb] w fun e w' => e = .returned (.bool (decide (la = lb))) ∧ Fr (fun _ => False) w w' := by
  obtain ⟨a1, a2, a3, a4⟩ := ha
  obtain ⟨b1, b2, b3, b4⟩ := hb
  exact equal_walk ao bo _ _ ca cb la lb _ w rfl rfl a1 b1 (by unfold maxLen at a2; omega) (by unfold maxLen at b2; omega) a4 b4 rfl
set_option maxHeartbeats 800000 in
theorem rints_walk (ao bo : Option Addr) (na nb ca cb : Nat) (la lb : List Int) (r : Bool) (w : World) (hna : Hidden (la.length = na)) (hnb : Hidden (lb.length = nb)) (h1 : na ≤ ca) (h2 : nb ≤ cb) (h3 : ca ≤ 9223372036854775807) (h4 : cb ≤ 9223372036854775807)
    (ha : Hidden (la = [] ∨ ∃ b off, ao = some ⟨b, off, none⟩ ∧ ∀ (i : Nat) (x : Int), la[i]? = some x → w.cell? ⟨b, off + i, none⟩ = some (ci x)))
    (hb : Hidden (lb = [] ∨ ∃ b off, bo = some ⟨b, off, none⟩ ∧ ∀ (i : Nat) (x : Int), lb[i]? = some x → w.cell? ⟨b, off + i, none⟩ = some (ci x))) (hr : Hidden (decide (la = lb) = r)) :
    Calls Tryz.prog 12 #[.slice ao na ca, .slice bo nb cb] w fun e w' => e = .returned (.bool r) ∧ Fr (fun _ => False) w w' := by
  by_cases hn : na = nb
  · subst hn
    go_enter Tryz.func12, Tryz.ntmps12
    go_wp2
    go_loopg [5] na (fun k iv wr => ∃ j : Nat, iv = .int .i64 (j : Int) ∧ j ≤ na ∧ k = na - j ∧ Fr (fun _ => False) w wr ∧ la.take j = lb.take j)
    case atStart => exact ⟨0, rfl, by omega, rfl, Fr.refl _ _, rfl⟩
    case round =>
      obtain ⟨j, rfl, hj, hk, hf, hsame⟩ := hrel
      have hkH : Hidden (gk = na - j) := hk
      have hfH : Hidden (Fr (fun _ => False) w wr) := hf
      have hsH : Hidden (la.take j = lb.take j) := hsame
      have hna' : la.length = na := hna
      have hnb' : lb.length = na := hnb
      clear hk hsame
      by_cases hjl : j < na
      · obtain ⟨x, hx⟩ : ∃ x, la[j]? = some x := ⟨la[j], List.getElem?_eq_getElem (by omega)⟩
        obtain ⟨y, hy⟩ : ∃ y, lb[j]? = some y := ⟨lb[j], List.getElem?_eq_getElem (by omega)⟩
        rcases (show la = [] ∨ _ from ha) with h0 | ⟨ba, oa, rfl, hca⟩
        · rw [h0] at hx; simp at hx
        rcases (show lb = [] ∨ _ from hb) with h0 | ⟨bb, ob, rfl, hcb⟩
        · rw [h0] at hy; simp at hy
        have c1 := hf.cell (hca j x hx) (fun f => f)
        have c2 := hf.cell (hcb j y hy) (fun f => f)
        have hxH : Hidden (la[j]? = some x) := hx
        have hyH : Hidden (lb[j]? = some y) := hy
        clear hf hca hcb hna' hnb' hx hy
        by_cases hxy : x = y
        · subst hxy
          go_wp2
          go_region
          go_wp2
          go_roundg (na - (j + 1))
          case measure => have := (show gk = na - j from hkH); omega
          case rel =>
            refine ⟨j + 1, by go_num, by omega, rfl, hfH.same (Fr.drew _ _), ?_⟩
            rw [List.take_add_one, List.take_add_one, show la[j]? = some x from hxH, show lb[j]? = some x from hyH, show la.take j = lb.take j from hsH]
        · have hne : (x == y) = false := beq_eq_false_iff_ne.2 hxy
          have hne3 : (x != y) = true := by simp [hxy]
          have hxyH : Hidden (x ≠ y) := hxy
          clear hxy
          go_wp2
          go_region
          go_wp2
          go_ret
          refine ⟨?_, hfH.same (Fr.drew _ _)⟩
          have hne2 : la ≠ lb := fun e => by
            have h1 : la[j]? = some x := hxH
            rw [e, show lb[j]? = some y from hyH] at h1
            exact (show x ≠ y from hxyH) (Option.some.inj h1).symm
          rw [← (show decide (la = lb) = r from hr), decide_eq_false hne2]
          rfl
      · obtain rfl : j = na := by omega
        clear hf
        go_wp2
        go_ret
        refine ⟨?_, hfH⟩
        have this : la.take j = lb.take j := hsH
        rw [List.take_of_length_le (by omega), List.take_of_length_le (by omega)] at this
        rw [← (show decide (la = lb) = r from hr), decide_eq_true this]
        rfl
  · have hn' : ((na : Int) == (nb : Int)) = false := by simp; omega
    have hn2 : ((na : Int) != (nb : Int)) = true := by simp; omega
    go_enter Tryz.func12, Tryz.ntmps12
    go_wp2
    go_ret
    refine ⟨?_, Fr.refl _ _⟩
    have e1 : la.length = na := hna
    have e2 : lb.length = nb := hnb
    have hne2 : la ≠ lb := fun e => hn (by rw [← e1, ← e2, e])
    rw [← (show decide (la = lb) = r from hr), decide_eq_false hne2]
    rfl
theorem rints_is (ao bo : Option Addr) (ca cb : Nat) (la lb : List Int) (w : World) (ha : InL w ao ca la) (hb : InL w bo cb lb) :
    Calls Tryz.prog 12 #[.slice ao la.length ca, .slice bo lb.length cb] w fun e w' => e = .returned (.bool (decide (la = lb))) ∧ Fr (fun _ => False) w w' := by
  obtain ⟨a1, a2, a3, a4⟩ := ha
  obtain ⟨b1, b2, b3, b4⟩ := hb
  exact rints_walk ao bo _ _ ca cb la lb _ w rfl rfl a1 b1 (by unfold maxLen at a2; omega) (by unfold maxLen at b2; omega) a4 b4 rfl
/-- The program's SameItem, and the document's. -/
def sameI (i j : It) : Bool := decide (i = j)
theorem sameI_head {i j : It} (h : ¬ (i.kind = j.kind ∧ i.name = j.name ∧ i.typ = j.typ ∧ i.bits = j.bits)) : decide (i = j) = false := by
  rw [decide_eq_false_iff_not]
  intro e
  subst e
  exact h ⟨rfl, rfl, rfl, rfl⟩

end Go.Proofs.YtnmcehpdiopaiaaGreatDoor.Ty
