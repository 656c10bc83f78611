/- Plain words: the document's decoder takes what the bytes hold, and nothing else. -/
import Derived.Test.YtakkiipkmogagaaGreatIdK
import Derived.Test.YtakkiipkmogagaaGreatIdAll
namespace Go.Proofs.YtakkiipkmogagaaGreat.Fo.Ic
open Go.RowKit Te
set_option linter.unusedSimpArgs false
set_option linter.unusedVariables false

theorem tk_sound {n x : Nat} {s : Option (List UInt8)} {r : List UInt8} (h : tkS n s = (x, some r)) : ∃ l : List UInt8, l.length = n ∧ Wi.numS l = x ∧ s = some (l ++ r) := by
  cases s with
  | none => simp [tkS] at h
  | some t =>
    have h : (if n ≤ t.length then (Wi.numS (t.take n), some (t.drop n)) else (0, none)) = (x, some r) := h
    split at h
    · rename_i hn
      simp only [Prod.mk.injEq, Option.some.injEq] at h
      obtain ⟨h1, h2⟩ := h
      exact ⟨t.take n, by rw [List.length_take]; omega, h1, by rw [← h2, List.take_append_drop]⟩
    · simp at h
theorem tk_comp (l r : List UInt8) : tkS l.length (some (l ++ r)) = (Wi.numS l, some r) := by
  show (if l.length ≤ (l ++ r).length then (Wi.numS ((l ++ r).take l.length), some ((l ++ r).drop l.length)) else (0, none)) = _
  rw [if_pos (by simp), List.take_left, List.drop_left]
theorem by_sound {c : UInt8} {s : Option (List UInt8)} {r : List UInt8} (h : byS s = (c, some r)) : s = some ([c] ++ r) := by
  unfold byS at h
  simp only [Prod.mk.injEq] at h
  obtain ⟨h1, h2⟩ := h
  obtain ⟨l, hl, hx, rfl⟩ := tk_sound (n := 1) (x := (tkS 1 s).1) (r := r) (by rw [← h2])
  obtain ⟨d, rfl⟩ : ∃ d, l = [d] := List.length_eq_one_iff.1 hl
  rw [← hx] at h1
  have : c = d := by rw [← h1]; simp [Wi.numS]
  rw [this]
theorem by_comp (c : UInt8) (r : List UInt8) : byS (some ([c] ++ r)) = (c, some r) := by
  unfold byS
  rw [show tkS 1 (some ([c] ++ r)) = (Wi.numS [c], some r) from tk_comp [c] r]
  simp [Wi.numS]
theorem in_sound {x : Nat} {s : Option (List UInt8)} {r : List UInt8} (h : inS s = (x, some r)) : x < 2147483648 ∧ s = some (Wi.i31 (x : Int) ++ r) := by
  unfold inS at h
  split at h
  · simp at h
  · rename_i hn
    obtain ⟨l, hl, hx, rfl⟩ := tk_sound h
    rw [h] at hn
    have hlt : x < 2147483648 := by simp only at hn; omega
    subst hx
    exact ⟨hlt, by rw [i31_num hl hlt]⟩
theorem in_comp (x : Nat) (hx : x < 2147483648) (r : List UInt8) : inS (some (Wi.i31 (x : Int) ++ r)) = (x, some r) := by
  have h := tk_comp (Wi.i31 (x : Int)) r
  rw [Wi.num_len x hx, show (Wi.i31 (x : Int)).length = 4 by simp] at h
  unfold inS
  rw [h, if_neg (by simp only; omega)]
theorem mn_sound {m x : Nat} {s : Option (List UInt8)} {r : List UInt8} (h : mnS m s = (x, some r)) : x ≤ m ∧ x < 2147483648 ∧ s = some (Wi.i31 (x : Int) ++ r) := by
  unfold mnS at h
  split at h
  · simp at h
  · rename_i hn
    rw [h] at hn
    exact ⟨by simp only at hn; omega, in_sound h⟩
theorem mn_comp (m x : Nat) (hm : x ≤ m) (hx : x < 2147483648) (r : List UInt8) : mnS m (some (Wi.i31 (x : Int) ++ r)) = (x, some r) := by
  unfold mnS
  rw [in_comp x hx, if_neg (by simp only; omega)]
theorem cut_sound {n : Nat} {l : List UInt8} {s : Option (List UInt8)} {r : List UInt8} (h : cutS n s = (l, some r)) : l.length = n ∧ s = some (l ++ r) := by
  cases s with
  | none => simp [cutS] at h
  | some t =>
    have h : (if n ≤ t.length then (t.take n, some (t.drop n)) else ([], none)) = (l, some r) := h
    split at h
    · rename_i hn
      simp only [Prod.mk.injEq, Option.some.injEq] at h
      obtain ⟨rfl, rfl⟩ := h
      exact ⟨by rw [List.length_take]; omega, by rw [List.take_append_drop]⟩
    · simp at h
theorem rw_sound {m : Nat} {l : List UInt8} {s : Option (List UInt8)} {r : List UInt8} (h : rwS m s = (l, some r)) : l.length ≤ m ∧ s = some (Wi.rawS l ++ r) := by
  unfold rwS at h
  obtain ⟨hl, h2⟩ := cut_sound h
  obtain ⟨h3, h4, h5⟩ := mn_sound (m := m) (x := (mnS m s).1) (s := s) (r := l ++ r) (by rw [← h2])
  refine ⟨by omega, ?_⟩
  rw [h5, ← hl]
  unfold Wi.rawS
  rw [List.append_assoc]
theorem rw_comp (m : Nat) (l r : List UInt8) (hm : l.length ≤ m) (hl : l.length < 2147483648) : rwS m (some (Wi.rawS l ++ r)) = (l, some r) := by
  unfold rwS Wi.rawS
  rw [List.append_assoc, mn_comp m _ hm hl]
  unfold cutS
  simp
theorem lp_sound : ∀ (n : Nat) (s : Option (List UInt8)) (l : List Nat) (r : List UInt8), lpS n s = (l, some r) → l.length = n ∧ (∀ x ∈ l, x < 2147483648) ∧ s = some ((l.map (fun x : Nat => Wi.i31 (x : Int))).flatten ++ r)
  | 0, s, l, r, h => by
    simp only [lpS, Prod.mk.injEq] at h
    obtain ⟨rfl, rfl⟩ := h
    simp
  | n + 1, none, l, r, h => by simp [lpS] at h
  | n + 1, some t, l, r, h => by
    simp only [lpS, Prod.mk.injEq] at h
    obtain ⟨rfl, h2⟩ := h
    obtain ⟨h3, h4, h5⟩ := lp_sound n (inS (some t)).2 _ r (by rw [← h2])
    obtain ⟨h6, h7⟩ := in_sound (x := (inS (some t)).1) (s := some t) (by rw [← h5])
    refine ⟨by simp [h3], ?_, ?_⟩
    · intro x hx
      rcases List.mem_cons.1 hx with rfl | hx
      · exact h6
      · exact h4 x hx
    · exact h7.trans (by simp)
theorem lp_comp : ∀ (l : List Nat) (r : List UInt8), (∀ x ∈ l, x < 2147483648) → lpS l.length (some ((l.map (fun x : Nat => Wi.i31 (x : Int))).flatten ++ r)) = (l, some r)
  | [], r, _ => by simp [lpS]
  | x :: l, r, h => by
    have e : some (((x :: l).map (fun x : Nat => Wi.i31 (x : Int))).flatten ++ r) = some (Wi.i31 (x : Int) ++ ((l.map (fun x : Nat => Wi.i31 (x : Int))).flatten ++ r)) := by simp
    rw [e]
    show ((inS _).1 :: (lpS l.length (inS _).2).1, (lpS l.length (inS _).2).2) = _
    rw [in_comp x (h x (by simp)), lp_comp l r (fun y hy => h y (by simp [hy]))]
theorem it_sound {l : List Nat} {s : Option (List UInt8)} {r : List UInt8} (h : itS s = (l, some r)) : l.length ≤ 8 ∧ (∀ x ∈ l, x < 2147483648) ∧ s = some (Wi.intsS (l.map (fun x : Nat => (x : Int))) ++ r) := by
  unfold itS at h
  have h' : lpS (mnS 8 s).1 (mnS 8 s).2 = (l, some r) := by
    revert h
    generalize lpS (mnS 8 s).1 (mnS 8 s).2 = z
    obtain ⟨a, o⟩ := z
    cases o with
    | none => intro h; simp [keepS] at h
    | some t => intro h; exact h
  obtain ⟨h1, h2, h3⟩ := lp_sound _ _ _ _ h'
  obtain ⟨h4, h5, h6⟩ := mn_sound (m := 8) (x := (mnS 8 s).1) (s := s) (by rw [← h3])
  refine ⟨by omega, h2, ?_⟩
  rw [h6, ← h1]
  unfold Wi.intsS
  simp [List.map_map, Function.comp_def]
theorem it_comp (l : List Nat) (r : List UInt8) (h8 : l.length ≤ 8) (h : ∀ x ∈ l, x < 2147483648) : itS (some (Wi.intsS (l.map (fun x : Nat => (x : Int))) ++ r)) = (l, some r) := by
  unfold itS Wi.intsS
  rw [List.append_assoc, List.length_map, mn_comp 8 _ h8 (by omega)]
  have e : ((l.map (fun x : Nat => (x : Int))).map Wi.i31).flatten = (l.map (fun x : Nat => Wi.i31 (x : Int))).flatten := by simp [List.map_map, Function.comp_def]
  simp only
  rw [e, lp_comp l r h]
  rfl
/-- The document's reading of an item, of items, of an interface. -/
def decI (s : Option (List UInt8)) : Ty.It × Option (List UInt8) :=
  (⟨((byS s).1.toNat : Int), (rwS 32 (byS s).2).1, ((byS (rwS 32 (byS s).2).2).1.toNat : Int), ((tkS 8 (byS (rwS 32 (byS s).2).2).2).1 : Int), (itS (tkS 8 (byS (rwS 32 (byS s).2).2).2).2).1.map (fun x : Nat => (x : Int))⟩, (itS (tkS 8 (byS (rwS 32 (byS s).2).2).2).2).2)
def decL : Nat → Option (List UInt8) → List Ty.It × Option (List UInt8)
  | 0, s => ([], s)
  | n + 1, s => ((decI s).1 :: (decL n (decI s).2).1, (decL n (decI s).2).2)
theorem u8_back (c : UInt8) : u8 (c.toNat : Int) = c := by simp [u8]
theorem decI_sound {i : Ty.It} {s : Option (List UInt8)} {r : List UInt8} (h : decI s = (i, some r)) : s = some (itemB i ++ r) := by
  unfold decI at h
  simp only [Prod.mk.injEq] at h
  obtain ⟨h1, h2⟩ := h
  obtain ⟨_, _, e5⟩ := it_sound (l := (itS (tkS 8 (byS (rwS 32 (byS s).2).2).2).2).1) (by rw [← h2])
  obtain ⟨l4, hl4, hx4, e4⟩ := tk_sound (n := 8) (x := (tkS 8 (byS (rwS 32 (byS s).2).2).2).1) (by rw [← e5])
  have e3 := by_sound (c := (byS (rwS 32 (byS s).2).2).1) (by rw [← e4])
  obtain ⟨_, e2⟩ := rw_sound (m := 32) (l := (rwS 32 (byS s).2).1) (by rw [← e3])
  have e1 := by_sound (c := (byS s).1) (by rw [← e2])
  refine e1.trans ?_
  rw [← h1]
  unfold itemB
  simp only [u8_back, Int.toNat_natCast]
  have e6 : Wi.beS (tkS 8 (byS (rwS 32 (byS s).2).2).2).1 8 = l4 := by rw [← hx4, ← hl4]; exact be_num l4
  rw [e6]
  simp only [List.append_assoc]
theorem decL_sound : ∀ (n : Nat) (s : Option (List UInt8)) (l : List Ty.It) (r : List UInt8), decL n s = (l, some r) → l.length = n ∧ s = some ((l.map itemB).flatten ++ r)
  | 0, s, l, r, h => by
    simp only [decL, Prod.mk.injEq] at h
    obtain ⟨rfl, rfl⟩ := h
    simp
  | n + 1, s, l, r, h => by
    simp only [decL, Prod.mk.injEq] at h
    obtain ⟨rfl, h2⟩ := h
    obtain ⟨h3, h5⟩ := decL_sound n (decI s).2 _ r (by rw [← h2])
    have h7 := decI_sound (i := (decI s).1) (s := s) (by rw [← h5])
    exact ⟨by simp [h3], h7.trans (by simp)⟩
end Go.Proofs.YtakkiipkmogagaaGreat.Fo.Ic
