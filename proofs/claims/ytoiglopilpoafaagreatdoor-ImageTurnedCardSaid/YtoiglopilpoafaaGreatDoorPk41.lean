/- Texts of ours, in one. -/
import Derived.Test.YtoiglopilpoafaaGreatDoorPk40
import Derived.Test.YtoiglopilpoafaaGreatDoorPk38
namespace Go.Proofs.YtoiglopilpoafaaGreatDoor.Cd
open Go.RowKit Ty
set_option linter.unusedSimpArgs false
set_option linter.unusedVariables false

/-- Is an operation wanted, by the table. -/
def wantV (vals : Nat → Value) (o : Oper) : Bool := match o.guard with
  | none => true
  | some (g, x) => match vals g with
    | .bool y => y == x
    | _ => false
/-- All values put. -/
def putR (b : Nat) (vals : Nat → Value) : List Nat → Array Value → Array Value
  | [], A => A
  | k :: r, A => putR b vals r (A.setIfInBounds (b + k) (vals k))
theorem putR_size (b : Nat) (vals : Nat → Value) : ∀ (l : List Nat) (A : Array Value), (putR b vals l A).size = A.size
  | [], A => rfl
  | k :: r, A => by rw [putR, putR_size b vals r, Array.size_setIfInBounds]
theorem putR_at (b : Nat) (vals : Nat → Value) : ∀ (l : List Nat) (A : Array Value) (d : Nat), (∀ k ∈ l, b + k < A.size) → (putR b vals l A)[d]? = if b ≤ d ∧ d - b ∈ l then some (vals (d - b)) else A[d]?
  | [], A, d, h => by simp [putR]
  | k :: r, A, d, h => by
    rw [putR, putR_at b vals r _ d (fun j hj => by rw [Array.size_setIfInBounds]; exact h j (List.mem_cons_of_mem _ hj))]
    by_cases h1 : b ≤ d ∧ d - b ∈ r
    · rw [if_pos h1, if_pos ⟨h1.1, List.mem_cons_of_mem _ h1.2⟩]
    · rw [if_neg h1, Array.getElem?_setIfInBounds]
      by_cases h2 : b + k = d
      · rw [if_pos h2, if_pos (h k List.mem_cons_self), if_pos ⟨by omega, by rw [show d - b = k by omega]; exact List.mem_cons_self⟩, show d - b = k by omega]
      · rw [if_neg h2, if_neg]
        rintro ⟨h3, h4⟩
        rcases List.mem_cons.1 h4 with h5 | h5
        · omega
        · exact h1 ⟨h3, h5⟩
theorem region_tab {ops : Array Oper} {Q : Exit → Act → World → Prop} {id : Nat} {A : Array Value} {df : List Deferred} {V : World} (b : Nat) (vals : Nat → Value) (c1 c2 : Nat) (Wi : Bool → Bool → World → Prop)
    (hl : depsLow ops = true) (hdst : ∀ k o, ops[k]? = some o → o.dst = some (b + k)) (hA : b + ops.size ≤ A.size) (hc : c1 ≠ c2) (hz1 : c1 < ops.size) (hz2 : c2 < ops.size)
    (hch : ∀ f : Nat → Prop, (∀ k j, j ∈ depsOf ops k → f k → f j) → f c2 → f c1)
    (hg : ∀ k o g x, ops[k]? = some o → o.guard = some (g, x) → g ∈ depsOf ops k)
    (h0 : Wi false false V.drew)
    (hs : ∀ k o T w F1 F2, ops[k]? = some o → T.size = A.size → (∀ j ∈ depsOf ops k, T.getD (b + j) undef = vals j) → (∀ d, d < b → T.getD d undef = A.getD d undef) → Wi F1 F2 w → (k = c1 → F1 = false ∧ F2 = false) → (k = c2 → F1 = true ∧ F2 = false) →
      (wantV vals o = true → ∀ K : Act → World → Prop, (∀ w', Wi (F1 || decide (k = c1)) (F2 || decide (k = c2)) w' → K { tmps := T.setIfInBounds (b + k) (vals k), defers := df } w') → o.wp Tryz.prog { tmps := T, defers := df } w K Q) ∧
      (wantV vals o = false → vals k = undef ∧ Wi (F1 || decide (k = c1)) (F2 || decide (k = c2)) w))
    (h : ∀ wx, Wi true true wx → Q .normal { tmps := putR b vals (List.range ops.size) A, defers := df } wx) :
    (Code.region id ops true).wp Tryz.prog Q { tmps := A, defers := df } V := by
  refine wp_region_inv (fun l a w => ∃ T, a = { tmps := T, defers := df } ∧ T.size = A.size ∧ (∀ k, l.getD k false = true → T[b + k]? = some (vals k)) ∧ (∀ d, (d < b ∨ b + ops.size ≤ d) → T[d]? = A[d]?) ∧ Wi (l.getD c1 false) (l.getD c2 false) w ∧ (∀ k j, j ∈ depsOf ops k → l.getD k false = true → l.getD j false = true)) (by kernel_rfl) hl ?_ ?_ ?_
  · have z : ∀ k, (Array.replicate ops.size false).getD k false = false := by
      intro k
      rw [Array.getD_eq_getD_getElem?, Array.getElem?_replicate]
      split <;> rfl
    refine ⟨A, rfl, rfl, fun k hk => ?_, fun _ _ => rfl, ?_, fun k j _ hk => ?_⟩
    · rw [z] at hk; cases hk
    · rw [z, z]; exact h0
    · rw [z] at hk; cases hk
  · rintro l a w k hz ⟨T, rfl, J1, J2, J3, J4, J5⟩ hn hk hdep
    have hn2 := not_l hn
    obtain ⟨o, ho⟩ : ∃ o, ops[k]? = some o := ⟨_, Array.getElem?_eq_getElem hk⟩
    have hd := hdst k o ho
    have hT : ∀ j ∈ depsOf ops k, T.getD (b + j) undef = vals j := fun j hj => by
      rw [Array.getD_eq_getD_getElem?, J2 j (hdep j hj)]; rfl
    have hT2 : ∀ d, d < b → T.getD d undef = A.getD d undef := fun d hd => by
      rw [Array.getD_eq_getD_getElem?, Array.getD_eq_getD_getElem?, J3 d (Or.inl hd)]
    have e1 : k = c1 → l.getD c1 false = false ∧ l.getD c2 false = false := fun e => by
      subst e
      refine ⟨hn2, ?_⟩
      cases h2 : l.getD c2 false with
      | false => rfl
      | true =>
        have := hch (fun q => l.getD q false = true) (fun q j hj hq => J5 q j hj hq) h2
        rw [hn2] at this; cases this
    have e2 : k = c2 → l.getD c1 false = true ∧ l.getD c2 false = false := fun e => by
      subst e
      refine ⟨?_, hn2⟩
      have := hch (fun q => q = k ∨ l.getD q false = true) (fun q j hj hq => by
        rcases hq with rfl | hq
        · exact Or.inr (hdep j hj)
        · exact Or.inr (J5 q j hj hq)) (Or.inl rfl)
      rcases this with e | e
      · exact absurd e hc
      · exact e
    have key := hs k o T w _ _ ho J1 hT hT2 J4 e1 e2
    -- what holds afterwards
    have aft : ∀ w', Wi (l.getD c1 false || decide (k = c1)) (l.getD c2 false || decide (k = c2)) w' → (∃ T', ({ tmps := T.setIfInBounds (b + k) (vals k), defers := df } : Act) = { tmps := T', defers := df } ∧ T'.size = A.size ∧ (∀ q, (l.setIfInBounds k true).getD q false = true → T'[b + q]? = some (vals q)) ∧ (∀ d, (d < b ∨ b + ops.size ≤ d) → T'[d]? = A[d]?) ∧ Wi ((l.setIfInBounds k true).getD c1 false) ((l.setIfInBounds k true).getD c2 false) w' ∧ (∀ q j, j ∈ depsOf ops q → (l.setIfInBounds k true).getD q false = true → (l.setIfInBounds k true).getD j false = true)) := by
      intro w' hw
      have fl : ∀ c, c < ops.size → (l.setIfInBounds k true).getD c false = (l.getD c false || decide (k = c)) := by
        intro c hc
        by_cases e : c = k
        · subst e
          rw [Array.getD_eq_getD_getElem?, Array.getElem?_setIfInBounds_self_of_lt (by rw [hz]; exact hc)]
          simp
        · rw [updN e, decide_eq_false (fun e2 => e e2.symm), Bool.or_false]
      refine ⟨_, rfl, by rw [Array.size_setIfInBounds]; exact J1, fun q hq => ?_, fun d hd => ?_, by rw [fl c1 hz1, fl c2 hz2]; exact hw, fun q j hj hq => ?_⟩
      · by_cases e : q = k
        · subst e
          exact Array.getElem?_setIfInBounds_self_of_lt (by rw [J1]; omega)
        · rw [updN e] at hq
          rw [Array.getElem?_setIfInBounds_ne (by omega)]
          exact J2 q hq
      · rw [Array.getElem?_setIfInBounds_ne (by omega)]
        exact J3 d hd
      · by_cases e : q = k
        · subst e
          exact keepL (hdep j hj)
        · rw [updN e] at hq
          exact keepL (J5 q j hj hq)
    -- is it wanted?
    have hw : Region.wanted o (yielded ops T) = wantV vals o := by
      unfold Region.wanted wantV
      cases hgd : o.guard with
      | none => rfl
      | some gx =>
        obtain ⟨g, x⟩ := gx
        have hgm := hg k o g x ho hgd
        have hgl : g < ops.size := by
          have h1 : depsLow ops = true := hl
          unfold depsLow at h1
          rw [List.all_eq_true] at h1
          have := h1 k (List.mem_range.2 hk)
          rw [List.all_eq_true] at this
          have := of_decide_eq_true (this g hgm)
          omega
        have hgt := J2 g (hdep g hgm)
        have hy : yielded ops T g = match vals g with
            | .bool y => some y
            | _ => none := by
          unfold yielded
          rw [Array.getElem?_eq_getElem hgl, Option.bind_some, hdst g _ (Array.getElem?_eq_getElem hgl), Option.bind_some, hgt]
          cases vals g <;> rfl
        simp only [hy]
        cases vals g <;> simp
    unfold wpOp
    rw [ho]
    simp only []
    rw [hw]
    cases hv : wantV vals o with
    | true =>
      rw [if_pos rfl]
      exact Or.inl (key.1 hv _ (fun w' hw' => aft w' hw'))
    | false =>
      rw [if_neg (by decide)]
      obtain ⟨k1, k2⟩ := key.2 hv
      have := aft w k2
      rw [k1] at this
      rw [hd]
      exact this
  · rintro l a w hz hall ⟨T, rfl, J1, J2, J3, J4, _⟩
    have L : ∀ k, k < ops.size → l.getD k false = true := fun k hk => by
      have h1 := hall k hk
      rw [Array.getD_eq_getD_getElem?, Array.getElem?_eq_getElem (by rw [hz]; exact hk)] at h1 ⊢
      exact h1
    rw [L c1 hz1, L c2 hz2] at J4
    have e : T = putR b vals (List.range ops.size) A := by
      apply Array.ext_getElem?
      intro d
      rw [putR_at b vals _ A d (fun k hk => by have := List.mem_range.1 hk; omega)]
      by_cases h1 : b ≤ d ∧ d - b ∈ List.range ops.size
      · rw [if_pos h1]
        have h2 := List.mem_range.1 h1.2
        have := J2 (d - b) (L _ h2)
        rw [show b + (d - b) = d by omega] at this
        exact this
      · rw [if_neg h1]
        refine J3 d ?_
        by_cases h2 : d < b
        · exact Or.inl h2
        · refine Or.inr ?_
          have : ¬ d - b < ops.size := fun h3 => h1 ⟨by omega, List.mem_range.2 h3⟩
          omega
    rw [e]
    exact h w J4
theorem dst_all {ops : Array Oper} {b : Nat} (h : (List.range ops.size).all (fun k => match ops[k]? with | none => true | some o => o.dst == some (b + k)) = true) : ∀ k o, ops[k]? = some o → o.dst = some (b + k) := by
  intro k o ho
  rw [List.all_eq_true] at h
  have := h k (List.mem_range.2 (Array.getElem?_eq_some_iff.1 ho).1)
  rw [ho] at this
  simpa using this
theorem guard_all {ops : Array Oper} (h : (List.range ops.size).all (fun k => match ops[k]? with | none => true | some o => match o.guard with | none => true | some (g, _) => (depsOf ops k).contains g) = true) : ∀ k o g x, ops[k]? = some o → o.guard = some (g, x) → g ∈ depsOf ops k := by
  intro k o g x ho hg
  rw [List.all_eq_true] at h
  have := h k (List.mem_range.2 (Array.getElem?_eq_some_iff.1 ho).1)
  rw [ho] at this
  simp only [hg] at this
  exact List.contains_iff_mem.1 this
end Go.Proofs.YtoiglopilpoafaaGreatDoor.Cd

namespace Go.Proofs.YtoiglopilpoafaaGreatDoor.Cd
open Go.RowKit Ty
set_option linter.unusedSimpArgs false
set_option linter.unusedVariables false

def updV (r : Nat → Value) (k : Nat) (v : Value) : Nat → Value := fun j => if j = k then v else r j
def updB (f : Nat → Bool) (k : Nat) : Nat → Bool := fun j => f j || decide (j = k)
theorem region_env {ops : Array Oper} {Q : Exit → Act → World → Prop} {id : Nat} {A : Array Value} {df : List Deferred} {V : World} (b : Nat) (ks : List Nat) (Wi : (Nat → Value) → (Nat → Bool) → World → Prop)
    (hl : depsLow ops = true) (hdst : ∀ k o, ops[k]? = some o → (k ∈ ks ∧ o.dst = some (b + k)) ∨ (k ∉ ks ∧ o.dst = none)) (hA : b + ops.size ≤ A.size) (hks : ∀ k ∈ ks, k < ops.size)
    (hg : ∀ k o g x, ops[k]? = some o → o.guard = some (g, x) → g ∈ depsOf ops k ∧ g ∈ ks)
    (h0 : Wi (fun _ => undef) (fun _ => false) V.drew)
    (hs : ∀ k o T w r f, ops[k]? = some o → T.size = A.size → f k = false → (∀ j ∈ depsOf ops k, f j = true) → (∀ j ∈ depsOf ops k, j ∈ ks → T.getD (b + j) undef = r j) → (∀ i j, j ∈ depsOf ops i → f i = true → f j = true) → (∀ d, d < b → T.getD d undef = A.getD d undef) → Wi r f w →
      (wantV r o = true → ∀ K : Act → World → Prop, (∀ v w', Wi (updV r k v) (updB f k) w' → K (({ tmps := T, defers := df } : Act).put o.dst v) w') → o.wp Tryz.prog { tmps := T, defers := df } w K Q) ∧
      (wantV r o = false → Wi (updV r k undef) (updB f k) w))
    (h : ∀ r f wx, (∀ k, k < ops.size → f k = true) → Wi r f wx → Q .normal { tmps := putR b r ks A, defers := df } wx) :
    (Code.region id ops true).wp Tryz.prog Q { tmps := A, defers := df } V := by
  refine wp_region_inv (fun l a w => ∃ T r f, a = { tmps := T, defers := df } ∧ (∀ k, k < ops.size → f k = l.getD k false) ∧ T.size = A.size ∧ (∀ k ∈ ks, f k = true → T[b + k]? = some (r k)) ∧ (∀ d, (∀ k ∈ ks, b + k ≠ d) → T[d]? = A[d]?) ∧ Wi r f w ∧ (∀ i j, j ∈ depsOf ops i → f i = true → f j = true) ∧ (∀ k, ops.size ≤ k → f k = false)) (by kernel_rfl) hl ?_ ?_ ?_
  · refine ⟨A, fun _ => undef, fun _ => false, rfl, fun k hk => ?_, rfl, fun k _ hk => (by cases hk), fun _ _ => rfl, h0, fun i j _ hi => (by cases hi), fun _ _ => rfl⟩
    rw [Array.getD_eq_getD_getElem?, Array.getElem?_replicate]
    split <;> rfl
  · rintro l a w k hz ⟨T, r, f, rfl, J0, J1, J2, J3, J4, J5, J6⟩ hn hk hdep
    have hfk : f k = false := by rw [J0 k hk]; exact not_l hn
    obtain ⟨o, ho⟩ : ∃ o, ops[k]? = some o := ⟨_, Array.getElem?_eq_getElem hk⟩
    have low : ∀ j ∈ depsOf ops k, j < k := fun j hj => by
      have h1 : depsLow ops = true := hl
      unfold depsLow at h1
      rw [List.all_eq_true] at h1
      have := h1 k (List.mem_range.2 hk)
      rw [List.all_eq_true] at this
      exact of_decide_eq_true (this j hj)
    have hdf : ∀ j ∈ depsOf ops k, f j = true := fun j hj => by rw [J0 j (by have := low j hj; omega)]; exact hdep j hj
    have hT : ∀ j ∈ depsOf ops k, j ∈ ks → T.getD (b + j) undef = r j := fun j hj hjk => by
      rw [Array.getD_eq_getD_getElem?, J2 j hjk (hdf j hj)]; rfl
    have hT2 : ∀ d, d < b → T.getD d undef = A.getD d undef := fun d hd => by
      rw [Array.getD_eq_getD_getElem?, Array.getD_eq_getD_getElem?, J3 d (fun q _ e => by omega)]
    have key := hs k o T w r f ho J1 hfk hdf hT J5 hT2 J4
    have aft : ∀ v w', Wi (updV r k v) (updB f k) w' → (∃ T' r' f', (({ tmps := T, defers := df } : Act).put o.dst v) = { tmps := T', defers := df } ∧ (∀ q, q < ops.size → f' q = (l.setIfInBounds k true).getD q false) ∧ T'.size = A.size ∧ (∀ q ∈ ks, f' q = true → T'[b + q]? = some (r' q)) ∧ (∀ d, (∀ q ∈ ks, b + q ≠ d) → T'[d]? = A[d]?) ∧ Wi r' f' w' ∧ (∀ i j, j ∈ depsOf ops i → f' i = true → f' j = true) ∧ (∀ q, ops.size ≤ q → f' q = false)) := by
      intro v w' hw
      have e1 : ∀ q, q < ops.size → updB f k q = (l.setIfInBounds k true).getD q false := by
        intro q hq
        unfold updB
        by_cases e : q = k
        · subst e
          rw [Array.getD_eq_getD_getElem?, Array.getElem?_setIfInBounds_self_of_lt (by rw [hz]; exact hq)]
          simp
        · rw [updN e, decide_eq_false e, Bool.or_false, J0 q hq]
      have e2 : ∀ i j, j ∈ depsOf ops i → updB f k i = true → updB f k j = true := by
        intro i j hj hi
        unfold updB at hi ⊢
        by_cases e : i = k
        · subst e
          rw [hdf j hj]; rfl
        · rw [decide_eq_false e, Bool.or_false] at hi
          rw [J5 i j hj hi]; rfl
      have e3 : ∀ q, ops.size ≤ q → updB f k q = false := by
        intro q hq
        unfold updB
        rw [J6 q hq, decide_eq_false (by omega)]
        rfl
      rcases hdst k o ho with ⟨hkk, hd⟩ | ⟨hkk, hd⟩
      · rw [hd]
        refine ⟨T.setIfInBounds (b + k) v, _, _, rfl, e1, by rw [Array.size_setIfInBounds]; exact J1, fun q hq hfq => ?_, fun d hd => ?_, hw, e2, e3⟩
        · by_cases e : q = k
          · subst e
            rw [Array.getElem?_setIfInBounds_self_of_lt (by rw [J1]; omega)]
            simp [updV]
          · unfold updB at hfq
            rw [decide_eq_false e, Bool.or_false] at hfq
            rw [Array.getElem?_setIfInBounds_ne (by omega), J2 q hq hfq]
            simp [updV, e]
        · rw [Array.getElem?_setIfInBounds_ne (hd k hkk)]
          exact J3 d hd
      · rw [hd]
        refine ⟨T, _, _, rfl, e1, J1, fun q hq hfq => ?_, J3, hw, e2, e3⟩
        have e : q ≠ k := fun e => hkk (by rw [← e]; exact hq)
        unfold updB at hfq
        rw [decide_eq_false e, Bool.or_false] at hfq
        rw [J2 q hq hfq]
        simp [updV, e]
    have hw : Region.wanted o (yielded ops T) = wantV r o := by
      unfold Region.wanted wantV
      cases hgd : o.guard with
      | none => rfl
      | some gx =>
        obtain ⟨g, x⟩ := gx
        obtain ⟨hgm, hgk⟩ := hg k o g x ho hgd
        have hgl : g < ops.size := hks g hgk
        have hgt := J2 g hgk (hdf g hgm)
        have hdg : (ops[g]).dst = some (b + g) := by
          rcases hdst g _ (Array.getElem?_eq_getElem hgl) with ⟨_, e⟩ | ⟨e, _⟩
          · exact e
          · exact absurd hgk e
        have hy : yielded ops T g = match r g with
            | .bool y => some y
            | _ => none := by
          unfold yielded
          rw [Array.getElem?_eq_getElem hgl, Option.bind_some, hdg, Option.bind_some, hgt]
          cases r g <;> rfl
        simp only [hy]
        cases r g <;> simp
    unfold wpOp
    rw [ho]
    simp only []
    rw [hw]
    cases hv : wantV r o with
    | true =>
      rw [if_pos rfl]
      exact Or.inl (key.1 hv _ (fun v w' hw' => aft v w' hw'))
    | false =>
      rw [if_neg (by decide)]
      exact aft undef w (key.2 hv)
  · rintro l a w hz hall ⟨T, r, f, rfl, J0, J1, J2, J3, J4, _, _⟩
    have L : ∀ k, k < ops.size → f k = true := fun k hk => by
      rw [J0 k hk]
      have h1 := hall k hk
      rw [Array.getD_eq_getD_getElem?, Array.getElem?_eq_getElem (by rw [hz]; exact hk)] at h1 ⊢
      exact h1
    have e : T = putR b r ks A := by
      apply Array.ext_getElem?
      intro d
      rw [putR_at b r _ A d (fun k hk => by have := hks k hk; omega)]
      by_cases h1 : b ≤ d ∧ d - b ∈ ks
      · rw [if_pos h1]
        have := J2 (d - b) h1.2 (L _ (hks _ h1.2))
        rw [show b + (d - b) = d by omega] at this
        exact this
      · rw [if_neg h1]
        exact J3 d (fun k hk e => h1 ⟨by omega, by rw [show d - b = k by omega]; exact hk⟩)
    rw [e]
    exact h r f w L J4
end Go.Proofs.YtoiglopilpoafaaGreatDoor.Cd

namespace Go.Proofs.YtoiglopilpoafaaGreatDoor.Im
open Go.RowKit Ty Cd
set_option linter.unusedSimpArgs false
set_option linter.unusedVariables false

set_option maxRecDepth 20000 in
set_option maxHeartbeats 4000000 in
theorem var_rs (q : Nat) (s : Lf) (w : World) (h : Rs w q s) :
    Calls Tryz.prog 39 #[.agg #[Wi.rp q]] w fun e w' => e = .returned (.agg #[ci (rdV s).1.1, .int .u64 (rdV s).1.2]) ∧ Rs w' q (rdV s).2 ∧ Fr (fun k => k = q) w w' := by
  obtain ⟨V, hV⟩ : ∃ V, V = (w.alloc (.cells #[Wi.rp q] 98 (0, 0))).alloc (.cells #[.int .i64 0, .int .u64 0] 59 (0, 0)) := ⟨_, rfl⟩
  have fV : Fr (fun _ => False) w V := by rw [hV]; exact (Fr.alloc _ _ _).same (Fr.alloc _ _ _)
  have hb0 : V.heap[w.heap.size]? = some (.cells #[Wi.rp q] 98 (0, 0)) := by rw [hV]; exact heap_alloc2_old _ _ _
  have hb1 : V.heap[w.heap.size + 1]? = some (.cells #[.int .i64 0, .int .u64 0] 59 (0, 0)) := by rw [hV]; exact heap_alloc2_new _ _ _
  have xV : V.cell? ⟨w.heap.size, 0, none⟩ = some (Wi.rp q) := by rw [cell_of_row _ _ _ _ _ _ hb0]; rfl
  have hq : q < w.heap.size := h.lt
  have kt := fun W (hW : Rs W q s) => type_rs q s W hW
  have kl := fun W (hW : Rs W q (rdY s).2) => long_rs q (rdY s).2 W hW
  have hT : rdV s = (((rdY s).1, ((rdL (rdY s).2).1 : Int)), (rdL (rdY s).2).2) := rfl
  rw [hT]
  simp only []
  generalize rdL (rdY s).2 = R at *
  generalize (rdY s).1 = c at *
  generalize (rdY s).2 = s2 at *
  obtain ⟨L, s3⟩ := R
  simp only [] at kl ⊢
  have hR : Rs V q s := h.later fV
  have hszV : w.heap.size + 2 ≤ V.heap.size := by rw [hV]; simp
  have fVH : Hidden (Fr (fun _ => False) w V) := fV
  have hVH : Hidden (V = _) := hV
  have hb1H : Hidden (V.heap[w.heap.size + 1]? = some (.cells #[.int .i64 0, .int .u64 0] 59 (0, 0))) := hb1
  obtain ⟨y0, y1⟩ := Cd.box2 hb1
  clear hV fV h hT hb0 hb1
  go_enter Tryz.func39, Tryz.ntmps39
  go_upto_region 1 with fail
  rw [← (show V = _ from hVH)]
  clear hVH
  generalize hG : w.heap.size = G at *
  have hqG : q < G := hq
  have hGH : Hidden (w.heap.size = G) := hG
  go_region_with (first
    | (go_at_call 61
       refine (kt _ (by first | exact hR | exact hR.later (Fr.drew _ _))).mono ?_
       rintro e w1 ⟨rfl, h1, h2⟩
       have g1 : Fr (fun k => k = q) V w1 := by first | exact h2 | exact (fq_no (Fr.drew _ _)).same h2
       have x1 := box_q xV g1 hqG
       have z0 := box_q y0 g1 (by omega)
       have z1 := box_q y1 g1 (by omega))
    | (go_at_call 62
       refine (kl _ (by first | exact h1 | exact h1.later (Fr.drew _ _))).mono ?_
       rintro e w2 ⟨rfl, h4, h5⟩
       have g2 : Fr (fun k => k = q) V w2 := g1.same (by first | exact h5 | exact (fq_no (Fr.drew _ _)).same h5)
       have hr2 := g2.heap (show V.heap[G + 1]? = _ from hb1H) (fun e => by have e : G + 1 = q := e; omega)
       obtain ⟨u0, u1⟩ := Cd.box2 hr2
       have fz0 := fz_row hr2 0
       have fz1 := fz_row hr2 1
       have hr2H : Hidden (w2.heap[G + 1]? = some (.cells #[.int .i64 0, .int .u64 0] 59 (0, 0))) := hr2
       clear hr2))
  all_goals
    go_wp2_with fail
    have ff : Fr (fun k => k = G + 1) w2 ((w2.setCell ⟨G + 1, 0, none⟩ (ci c)).setCell ⟨G + 1, 1, none⟩ (.int .u64 (L : Int))) := (Fr.setCell _ ⟨G + 1, 0, none⟩ _).same (Fr.setCell _ ⟨G + 1, 1, none⟩ _)
    refine post_one rfl rfl _ #[ci c, .int .u64 (L : Int)] 59 _ rfl (two_put (show w2.heap[G + 1]? = _ from hr2H) _ _) Tryz.underlying59 rfl (by kernel_rfl) ⟨rfl, h4.aside ff (fun k e => by have e : k = G + 1 := e; omega), ?_⟩
    have hw : w.heap.size = G := hGH
    exact ((fq_no (show Fr (fun _ => False) w V from fVH)).same g2).trans ff (fun k hk e => by have e : k = G + 1 := e; omega)
end Go.Proofs.YtoiglopilpoafaaGreatDoor.Im

namespace Go.Proofs.YtoiglopilpoafaaGreatDoor.Im
open Go.RowKit Ty Cd
set_option linter.unusedSimpArgs false
set_option linter.unusedVariables false

theorem info_V : (Tryz.prog.info? 59).map (fun i => (i.zero, i.size, i.bytes)) = some (some (.agg #[.int .i64 0, .int .u64 0]), 2, 16) := by kernel_rfl
set_option maxRecDepth 20000 in
set_option maxHeartbeats 4000000 in
theorem list_V (q : Nat) (n : Nat) (s : Lf) (w : World) (h : Rs w q s) (hn : n < 2147483648) (hs : szL s ≤ 65537) :
    Calls Tryz.prog 37 #[.agg #[Wi.rp q], ci (n : Int), .func (.func 39) #[.agg #[Wi.rp q]] #[]] w fun e w' => ∃ ao cap, e = .returned (.slice ao (rdMany rdV n s).1.length cap) ∧ Row RV 59 2 w' w.heap.size (.slice ao (rdMany rdV n s).1.length cap) (rdMany rdV n s).1 ∧ Rs w' q (rdMany rdV n s).2 ∧ Fr (fun k => k = q) w w' := by
  obtain ⟨V, hV⟩ : ∃ V, V = w.alloc (.cells #[Wi.rp q] 98 (0, 0)) := ⟨_, rfl⟩
  have fV : Fr (fun _ => False) w V := by rw [hV]; exact Fr.alloc _ _ _
  have xV : V.cell? ⟨w.heap.size, 0, none⟩ = some (Wi.rp q) := by rw [hV, cell_of_row _ _ _ _ _ _ (alloc_new w _)]; rfl
  have hq : q < w.heap.size := h.lt
  have hR : Rs V q s := h.later fV
  have hszV : w.heap.size ≤ V.heap.size := fV.size
  have fVH : Hidden (Fr (fun _ => False) w V) := fV
  have xVH : Hidden (V.cell? ⟨w.heap.size, 0, none⟩ = some (Wi.rp q)) := xV
  have hRH : Hidden (Rs V q s) := hR
  have hsH : Hidden (szL s ≤ 65537) := hs
  have hVH : Hidden (V = _) := hV
  have hszH : Hidden (w.heap.size ≤ V.heap.size) := hszV
  have hqH : Hidden (q < w.heap.size) := hq
  clear hV fV xV hR h hs hszV hq
  go_enter Tryz.func37, Tryz.ntmps37
  go_upto_region 1 with fail
  rw [← (show V = _ from hVH)]
  clear hVH
  generalize hG : w.heap.size = G at *
  have hGH : Hidden (w.heap.size = G) := hG
  clear hG
  go_wp2_with fail
  go_loopg [7, 9] n (fun k lv iv wr => ∃ (j : Nat) (acc : List (Int × Int)) (s' : Lf), iv = .int .i64 (j : Int) ∧ j ≤ n ∧ k = n - j ∧ acc.length = j ∧ Row RV 59 2 wr V.heap.size lv acc ∧ Rs wr q s' ∧ Fr (fun k => k = q) V wr ∧ j + szL s' ≤ 65537 ∧ rdMany rdV n s = (acc ++ (rdMany rdV (n - j) s').1, (rdMany rdV (n - j) s').2))
  case atStart => exact ⟨0, [], s, rfl, by omega, rfl, rfl, Row.nil _ _ _ _ _, hRH, Fr.refl _ _, by have : szL s ≤ 65537 := hsH; omega, rfl⟩
  case round =>
    obtain ⟨j, acc, s', rfl, hj, hk, hal, hrow, hrs, hfr, hsz, hmany⟩ := hrel
    have hkH : Hidden (gk = n - j) := hk
    obtain ⟨ao, cap, rfl, hc1, hc2⟩ := hrow.shape
    rw [hal] at hrow hc1 ⊢
    have hc3 : cap ≤ 9223372036854775807 := by simpa [maxLen] using hc2
    have hrowH : Hidden (Row RV 59 2 wr V.heap.size (.slice ao j cap) acc) := hrow
    have halH : Hidden (acc.length = j) := hal
    have hrsH : Hidden (Rs wr q s') := hrs
    have hfrH : Hidden (Fr (fun k => k = q) V wr) := hfr
    have hszH2 : Hidden (j + szL s' ≤ 65537) := hsz
    have hmanyH : Hidden (rdMany rdV n s = _) := hmany
    have hgq : q < G := hqH
    have hVs : G ≤ V.heap.size := hszH
    have xr := box_q (show V.cell? ⟨G, 0, none⟩ = _ from xVH) hfr hgq
    have hlow : Hidden (∀ k, (Value.slice ao j cap).ownBlock = some k → V.heap.size ≤ k ∧ k < wr.heap.size) := hrow.own
    have hszr : Hidden (V.heap.size ≤ wr.heap.size) := hfr.size
    clear hk hrow hal hfr hsz hmany hc2
    by_cases hjl : j < n
    · have hjn : (j : Int) < (n : Int) := by omega
      have hjb : decide ((j : Int) < (n : Int)) = true := by simpa using hjn
      have ke := err_rs q s' wr hrsH
      cases s' with
      | none =>
        have hE : Hidden ((rdMany rdV n s) = (acc, none)) := by
          show _ = _
          rw [show rdMany rdV n s = _ from hmanyH]
          obtain ⟨m, hm⟩ : ∃ m, n - j = m + 1 := ⟨n - j - 1, by omega⟩
          rw [hm]
          simp [rdMany]
        clear hmanyH hjl
        go_wp2_with (go_at_call 58; refine ke.mono ?_; rintro e w1 ⟨⟨c, rfl, hc⟩, rfl⟩; have hcn : (c != 0) = true := (by have : (c == 0) = false := hc; simpa [bne] using this))
        go_ret
        rw [show rdMany rdV n s = _ from hE]
        refine ⟨ao, cap, by rw [show acc.length = j from halH]; rfl, ?_, hrsH, (fq_no (show Fr (fun _ => False) w V from fVH)).same (show Fr (fun k => k = q) V w1 from hfrH)⟩
        rw [show acc.length = j from halH]
        refine Row.lower hrowH ?_
        have : w.heap.size = G := hGH
        omega
      | some r =>
        have kt := fun (W : World) (hW : Rs W q (some r)) => var_rs q (some r) W hW
        have hdec := rdV_sz r
        have hst : Hidden (rdMany rdV n s = (acc ++ ((rdV (some r)).1 :: (rdMany rdV (n - (j + 1)) (rdV (some r)).2).1), (rdMany rdV (n - (j + 1)) (rdV (some r)).2).2)) := by
          show _ = _
          rw [show rdMany rdV n s = _ from hmanyH]
          obtain ⟨m, hm⟩ : ∃ m, n - j = m + 1 := ⟨n - j - 1, by omega⟩
          rw [hm, show n - (j + 1) = m by omega, rdMany_cut]
        clear hmanyH
        generalize rdV (some r) = x at *
        obtain ⟨a, s2⟩ := x
        have hstH : Hidden _ := hst
        have hdecH : Hidden (szL s2 < szL (some r)) := hdec
        clear hst hdec
        simp only [] at kt
        go_wp2_with (first
          | (go_at_call 58; refine ke.mono ?_; rintro e w1 ⟨⟨c, rfl, hc⟩, rfl⟩; have hc0 : c = 0 := (by simpa using hc); subst hc0)
          | (go_at_call 39
             refine (kt _ hrsH).mono ?_
             rintro e w2 ⟨rfl, hr2, f2⟩
             have hrow2 : Hidden (Row RV 59 2 w2 V.heap.size (.slice ao j cap) acc) := (show Row RV 59 2 w1 V.heap.size _ acc from hrowH).keep f2 (fun k e => by
               have e : k = q := e
               have h2 : q < G := hqH
               have h3 : G ≤ V.heap.size := hszH
               omega)
             have hr2H : Hidden (Rs w2 q s2) := hr2
             have f2H : Hidden (Fr (fun k => k = q) w1 w2) := f2
             clear hr2 f2)
          | (at_builtin
             refine wpList_row (R := RV) rfl _ _ 22 59 (.agg #[.int .i64 0, .int .u64 0]) 2 16 Tryz.underlying22 info_V rfl (by decide) rfl V.heap.size (.slice ao j cap) acc a (valC a) ⟨w2.heap.size, 0, none⟩ 1 rfl ?c0 rfl rfl ?c1 ?c2 ?c3 ?c4 (by decide) ?c5 ?_
             case c0 => exact (show Row RV 59 2 w2 V.heap.size _ acc from hrow2).keep (Fr.alloc (fun _ => False) _ _) (fun _ f => f.elim)
             case c1 =>
               intro i u hu
               rw [Addr.add_lit, Nat.zero_add]
               refine (cell_of_row _ _ _ _ _ _ (alloc_new w2 _)).trans ?_
               rcases i with _ | _ | i
               · simp [valC] at hu; subst hu; rfl
               · simp [valC] at hu; subst hu; rfl
               · simp [valC] at hu
             case c2 => intro u hu; simp [valC] at hu; rcases hu with rfl | rfl <;> rfl
             case c3 => exact fun w4 _ => rfl
             case c4 =>
               have h1 : j + szL (some r) ≤ 65537 := hszH2
               have h2 : acc.length = j := halH
               omega
             case c5 => have h1 : V.heap.size ≤ w1.heap.size := hszr; have h2 := (show Fr (fun k => k = q) w1 w2 from f2H).size; simp; omega
             intro v3 w3 r3 f3
             have r3H : Hidden (Row RV 59 2 w3 V.heap.size v3 (acc ++ [a])) := r3
             have f3H : Hidden (Fr (fun k => (Value.slice ao j cap).ownBlock = some k) w2 w3) := (Fr.alloc _ _ _).same f3
             clear r3 f3))
        go_roundg (n - (j + 1))
        case measure => have : gk = n - j := hkH; omega
        case rel =>
          have hfr3 : Fr (fun k => k = q) V w3 := ((show Fr (fun k => k = q) V w1 from hfrH).same (show Fr (fun k => k = q) w1 w2 from f2H)).trans (show Fr (fun k => (Value.slice ao j cap).ownBlock = some k) w2 w3 from f3H) (fun k hk e => by
            have h1 := (show ∀ k, _ → V.heap.size ≤ k ∧ k < w1.heap.size from hlow) k e
            omega)
          have hrs3 : Rs w3 q s2 := Rs.aside hr2H f3H (fun k e => by
            have h1 := (show ∀ k, _ → V.heap.size ≤ k ∧ k < w1.heap.size from hlow) k e
            have h2 : q < G := hqH
            have h3 : G ≤ V.heap.size := hszH
            omega)
          have h1 : j + szL (some r) ≤ 65537 := hszH2
          have h2 : szL s2 < szL (some r) := hdecH
          refine ⟨j + 1, acc ++ [a], s2, by go_num, by omega, rfl, by rw [List.length_append, show acc.length = j from halH]; rfl, r3H, hrs3, hfr3, by omega, ?_⟩
          rw [show rdMany rdV n s = _ from hstH, List.append_assoc]
          rfl
    · obtain rfl : j = n := by omega
      have hjb : decide ((j : Int) < (j : Int)) = false := by simp
      have hE : Hidden ((rdMany rdV j s) = (acc, s')) := by
        show _ = _
        rw [show rdMany rdV j s = _ from hmanyH, Nat.sub_self]
        simp [rdMany]
      clear hmanyH hjl
      go_wp2_with fail
      go_ret
      rw [show rdMany rdV j s = _ from hE]
      refine ⟨ao, cap, by rw [show acc.length = j from halH]; rfl, ?_, hrsH, (fq_no (show Fr (fun _ => False) w V from fVH)).same (show Fr (fun k => k = q) V wr from hfrH)⟩
      rw [show acc.length = j from halH]
      refine Row.lower hrowH ?_
      have : w.heap.size = G := hGH
      omega
end Go.Proofs.YtoiglopilpoafaaGreatDoor.Im
