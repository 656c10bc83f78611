/- iface.takeItem, of bytes that are there. -/
import Derived.Test.YtpjahcncknccdaaGreatIcJ
import Derived.Test.YtpjahcncknccdaaGreatWzWiRd
namespace Go.Proofs.YtpjahcncknccdaaGreat.Fo.Ic
open Go.RowKit Te
set_option linter.unusedSimpArgs false
set_option linter.unusedVariables false
set_option maxRecDepth 20000

theorem take_app {a b : List UInt8} {n : Nat} (h : a.length = n) : (a ++ b).take n = a := by rw [← h]; exact List.take_left
theorem drop_app {a b : List UInt8} {n : Nat} (h : a.length = n) : (a ++ b).drop n = b := by rw [← h]; exact List.drop_left
/-- A value was read. -/
abbrev Tk (q : Nat) (w : World) (v : Value) (rest : List UInt8) (e : Ending) (w' : World) : Prop := e = .returned v ∧ Wi.Rd w' q rest 0 ∧ Fr (fun k => k = q) w w'
theorem tk_of {q : Nat} {w : World} {v : Value} {rest : List UInt8} {e : Ending} {w' : World} (h : Wi.Took q w (Wi.Is v) rest e w') : Tk q w v rest e w' := by
  obtain ⟨⟨x, rfl, hx⟩, h2, h3⟩ := h
  have hx : x = v := hx
  subst hx
  exact ⟨rfl, h2, of_wi h3⟩
theorem byte_in (q : Nat) (c : UInt8) (more : List UInt8) (w : World) (hr : Wi.Rd w q ([c] ++ more) 0) : Calls Tryz.prog 84 #[Wi.rp q] w (Tk q w (.int .u8 (c.toNat : Int)) more) :=
  (Wi.rd_Byte_in q _ more (Wi.Is (.int .u8 (c.toNat : Int))) w hr (fun w1 h => Wi.takeByte_in q c more w1 h)).mono fun _ _ => tk_of
theorem long_in (q : Nat) (N : Nat) (more : List UInt8) (w : World) (hN : N < 18446744073709551616) (hr : Wi.Rd w q (Wi.beS N 8 ++ more) 0) : Calls Tryz.prog 85 #[Wi.rp q] w (Tk q w (.int .u64 (N : Int)) more) :=
  (Wi.rd_Long_in q _ more (Wi.Is (.int .u64 (N : Int))) w hr (fun w1 h => by have := Wi.takeLong_in q _ w1 (by rw [List.length_append, beS_len]; omega) h; rw [take_app (beS_len _ _), drop_app (beS_len _ _), Wi.num_be, Nat.mod_eq_of_lt (by omega)] at this; exact this)).mono fun _ _ => tk_of
theorem int_in (q : Nat) (N : Nat) (more : List UInt8) (w : World) (hN : N < 2147483648) (hr : Wi.Rd w q (Wi.i31 (N : Int) ++ more) 0) : Calls Tryz.prog 51 #[Wi.rp q] w (Tk q w (ci (N : Int)) more) :=
  (Wi.rd_Int_in q _ more (Wi.Is (ci (N : Int))) w hr (fun w1 h => by have := Wi.takeInt_in q _ N w1 (by rw [List.length_append, i31_len]; omega) (by show Wi.numS _ = _; rw [take_app (i31_len _)]; exact Wi.num_len N hN) hN h; rw [drop_app (i31_len _)] at this; exact this)).mono fun _ _ => tk_of
theorem text_in (q : Nat) (s more : List UInt8) (w : World) (hs : s.length ≤ 32) (hr : Wi.Rd w q (Wi.rawS s ++ more) 0) : Calls Tryz.prog 24 #[Wi.rp q, ci 32] w (Tk q w (.string ⟨s.toArray⟩) more) := by
  refine (Wi.rd_Text_in q _ more (Wi.Is (.string ⟨s.toArray⟩)) w hr (fun w1 _ h => ?_)).mono fun _ _ => tk_of
  have e4 : (Wi.rawS s ++ more).drop 4 = s ++ more := by rw [Wi.rawS, List.append_assoc]; exact drop_app (i31_len _)
  have := Wi.takeText_in q (Wi.rawS s ++ more) s.length 32 w1 (by rw [Wi.rawS, List.length_append, List.length_append, i31_len]; omega) (by show Wi.numS _ = _; rw [Wi.rawS, List.append_assoc, take_app (i31_len _)]; exact Wi.num_len _ (by omega)) (by omega) (by omega) h (by rw [e4]; simp)
  rw [e4, take_app rfl, drop_app rfl] at this
  exact this
/-- Ints were read, into a row of the call's own. -/
abbrev Tki (q : Nat) (w : World) (l : List Int) (rest : List UInt8) (e : Ending) (w' : World) : Prop := ∃ ao cap, e = .returned (.slice ao l.length cap) ∧ Ty.InL w' ao cap l ∧ (l = [] ∨ ∀ k, (Value.slice ao l.length cap).ownBlock = some k → w.heap.size ≤ k ∧ k < w'.heap.size) ∧ Wi.Rd w' q rest 0 ∧ Fr (fun k => k = q) w w'
theorem u31 {x : Int} (h0 : 0 ≤ x) (h1 : x < 2147483648) : ((Wi.u64 x % 2147483648 : Nat) : Int) = x := by unfold Wi.u64; omega
theorem map_u31 (l : List Int) (h : ∀ x ∈ l, 0 ≤ x ∧ x < 2147483648) : (l.map fun x : Int => Value.int .i64 ((Wi.u64 x % 2147483648 : Nat) : Int)) = l.map ci := by
  apply List.map_congr_left
  intro x hx
  rw [u31 (h x hx).1 (h x hx).2]
theorem ints_in (q : Nat) (l : List Int) (more : List UInt8) (w : World) (hl : l.length ≤ 8) (hx : ∀ x ∈ l, 0 ≤ x ∧ x < 2147483648) (hr : Wi.Rd w q (Wi.intsS l ++ more) 0) : Calls Tryz.prog 86 #[Wi.rp q, ci 8] w (Tki q w l more) := by
  refine (Wi.rd_Ints_in q _ more (Wi.NewL w.heap.size (l.map fun x : Int => Value.int .i64 ((Wi.u64 x % 2147483648 : Nat) : Int))) w hr (fun w1 hf1 h => ?_)).mono ?_
  · refine (Wi.list_int_in w1 q l l.length rfl 8 more (by rw [Wi.intsS, List.append_assoc] at h; exact h) (by omega) (by omega) (fun x mr w2 _ _ h => ?_)).mono ?_
    · have := Wi.takeInt_in q (Wi.i31 x ++ mr) (Wi.u64 x % 2147483648) w2 (by rw [List.length_append, i31_len]; omega) (by show Wi.numS _ = _; rw [take_app (i31_len _)]; exact Wi.num_i31 x) (Nat.mod_lt _ (by omega)) h
      rw [drop_app (i31_len _)] at this
      exact this
    · rintro e w' ⟨⟨v, rfl, ao, cap, q1, q2, q3, q4, q5⟩, q6, q7⟩
      refine ⟨⟨v, rfl, ao, cap, q1, q2, q3, q4, fun k hk => ?_⟩, q6, q7⟩
      have := q5 k hk
      have := hf1.size
      simp at this
      omega
  · rintro e w' ⟨⟨v, rfl, ao, cap, rfl, q2, q3, q4, q5⟩, q6, q7⟩
    rw [map_u31 l hx] at q4 q5
    rw [List.length_map] at q4 q5 q2 ⊢
    obtain ⟨ao', cap', e, p1, p2, p3, p4⟩ := q4
    simp only [Value.slice.injEq] at e
    obtain ⟨rfl, _, rfl⟩ := e
    have hin : Ty.InL w' ao cap l := by
      refine ⟨q2, q3, p3, ?_⟩
      rcases p4 with p4 | ⟨b, off, rfl, p4⟩
      · left; simpa using p4
      · exact Or.inr ⟨b, off, rfl, fun i x hx => p4 i (ci x) (by rw [List.getElem?_map, hx]; rfl)⟩
    refine ⟨ao, cap, rfl, hin, ?_, q6, of_wi q7⟩
    by_cases hz : l = []
    · exact Or.inl hz
    right
    intro k hk
    refine ⟨q5 k hk, ?_⟩
    obtain ⟨x, hx0⟩ : ∃ x, l[0]? = some x := by
      cases l with
      | nil => exact absurd rfl hz
      | cons x r => exact ⟨x, rfl⟩
    rcases hin.2.2.2 with h0 | ⟨b, off, rfl, h4⟩
    · exact absurd h0 hz
    · have := World.block_lt_of_cell? w' _ (h4 0 x hx0)
      have hk : b = k := by simpa [Value.ownBlock] using hk
      simp only at this
      omega
/-- A reader, and a box that was made beside it. -/
def RB (w : World) (g q : Nat) (t : TypeId) (rest : List UInt8) (c : Array Value) (wx : World) : Prop := Wi.Rd wx q rest 0 ∧ wx.heap[g]? = some (.cells c t (0, 0)) ∧ Fr (fun k => k = q) w wx ∧ q < w.heap.size ∧ w.heap.size ≤ g
theorem RB.next {w : World} {g q : Nat} {t : TypeId} {rest rest' : List UInt8} {c : Array Value} {wx wy : World} (h : RB w g q t rest c wx) (hr : Wi.Rd wy q rest' 0) (hf : Fr (fun k => k = q) wx wy) : RB w g q t rest' c wy :=
  ⟨hr, hf.heap h.2.1 (fun e => by have := h.2.2.2; have e : g = q := e; omega), h.2.2.1.same hf, h.2.2.2⟩
theorem RB.put {w : World} {g q : Nat} {t : TypeId} {rest : List UInt8} {c : Array Value} {wx : World} (h : RB w g q t rest c wx) (i : Nat) (v : Value) : RB w g q t rest (c.setIfInBounds i v) (wx.setCell ⟨g, i, none⟩ v) := by
  have hf := Fr.setCell wx ⟨g, i, none⟩ v
  have h4 := h.2.2.2
  refine ⟨h.1.aside (to_wi hf) (fun k hk => by have hk : k = g := hk; omega), heap_setCell_same wx _ i _ _ _ h.2.1, h.2.2.1.trans hf (fun k hk e => by have e : k = g := e; omega), h.2.2.2⟩
theorem rightI_par {i : Ty.It} (h : Ty.rightI i = 0) : ∀ x ∈ i.params, 0 ≤ x ∧ x < 2147483648 := by
  unfold Ty.rightI at h
  split at h
  · cases h
  · split at h
    · rename_i h1; exact absurd h h1
    · split at h
      · cases h
      · split at h
        · split at h
          · rename_i hf
            simp only [Ty.fitsConst, Bool.and_eq_true, decide_eq_true_eq] at hf
            rw [List.eq_nil_of_length_eq_zero hf.2]
            simp
          · cases h
        · split at h
          · rename_i hf
            simp only [Ty.fitsFn, Bool.and_eq_true, Bool.or_eq_true] at hf
            intro x hx
            have := hf.2
            simp only [List.all_eq_true] at this
            have := this x hx
            rw [Ty.valued_iff] at this
            omega
          · cases h
theorem u8_nat {z : Int} (h0 : 0 ≤ z) (h1 : z ≤ 3) : ((u8 z).toNat : Int) = z := by
  have : z = 0 ∨ z = 1 ∨ z = 2 ∨ z = 3 := by omega
  rcases this with rfl | rfl | rfl | rfl <;> rfl
end Go.Proofs.YtpjahcncknccdaaGreat.Fo.Ic
