/- Texts of ours, in one. -/
import Derived.Test.YtakkiipkmogagaaGreatIcBll
import Derived.Test.YtakkiipkmogagaaGreatWzAll
import Derived.Deep.DeepCutAuto
namespace Go.Proofs.YtakkiipkmogagaaGreat.Fo.Ic
open Go.RowKit Te
set_option linter.unusedSimpArgs false
set_option linter.unusedVariables false
set_option maxRecDepth 20000

/-- Of the bytes b those of pre have been read; or it has failed. -/
def Ste (w : World) (q : Nat) (b pre : List UInt8) : Prop := (∃ rest, b = pre ++ rest ∧ Wi.Rd w q rest 0) ∨ ∃ c, (c == 0) = false ∧ Wi.Rd w q [] c
theorem Ste.lt {w : World} {q : Nat} {b pre : List UInt8} (h : Ste w q b pre) : q < w.heap.size := by
  rcases h with ⟨_, _, h⟩ | ⟨_, _, h⟩
  · exact h.lt
  · exact h.lt
theorem Ste.later {w w' : World} {q : Nat} {b pre : List UInt8} (h : Ste w q b pre) (hf : Fr FN w w') : Ste w' q b pre := by
  rcases h with ⟨r, e, h⟩ | ⟨c, e, h⟩
  · exact Or.inl ⟨r, e, h.later (to_wi hf)⟩
  · exact Or.inr ⟨c, e, h.later (to_wi hf)⟩
theorem Ste.aside {S : Nat → Prop} {w w' : World} {q : Nat} {b pre : List UInt8} (h : Ste w q b pre) (hf : Fr S w w') (hS : ∀ k, S k → q < k) : Ste w' q b pre := by
  rcases h with ⟨r, e, h⟩ | ⟨c, e, h⟩
  · exact Or.inl ⟨r, e, h.aside (to_wi hf) hS⟩
  · exact Or.inr ⟨c, e, h.aside (to_wi hf) hS⟩
theorem fn_q {w w' : World} {q : Nat} (h : Wi.Fr (fun _ => False) w w') : Fr (fun k => k = q) w w' := (of_wi h).mono fun _ _ f => f.elim
theorem dead_of {w w' : World} {q : Nat} {b pre : List UInt8} {c : Int} {v : Value} {e : Ending} (hc : (c == 0) = false) (h : Wi.Failed q w v c e w') : e = .returned v ∧ Ste w' q b pre ∧ Fr (fun k => k = q) w w' := ⟨h.1, Or.inr ⟨c, hc, h.2.1⟩, of_wi h.2.2⟩
theorem ste_app {b pre r x y : List UInt8} (h : b = pre ++ r) (e : r = x ++ y) : b = pre ++ x ++ y := by rw [h, e, List.append_assoc]
theorem byte_st (q : Nat) (b pre : List UInt8) (w : World) (h : Ste w q b pre) : Calls Tryz.prog 61 #[Wi.rp q] w fun e w' => ∃ c : UInt8, e = .returned (.int .u8 (c.toNat : Int)) ∧ Ste w' q b (pre ++ [c]) ∧ Fr (fun k => k = q) w w' := by
  rcases h with ⟨rest, hb, hr⟩ | ⟨c, hc, hr⟩
  · cases rest with
    | nil => exact (Wi.rd_Byte_out q [] 40 w (by decide) hr (fun w1 h => Wi.takeByte_out q w1 h)).mono fun e w' h => ⟨0, dead_of (by decide) h⟩
    | cons c r => exact (byte_in q c r w hr).mono fun e w' ⟨h1, h2, h3⟩ => ⟨c, h1, Or.inl ⟨r, ste_app hb rfl, h2⟩, h3⟩
  · exact (Wi.dead_Byte q [] c w hc hr).mono fun e w' ⟨h1, h2⟩ => ⟨0, h1, Or.inr ⟨c, hc, hr.later h2⟩, fn_q h2⟩
theorem be_num (l : List UInt8) : Wi.beS (Wi.numS l) l.length = l := by
  have key : ∀ (l : List UInt8) (a : Nat), Wi.beS (l.foldl (fun n c => n * 256 + c.toNat) a) l.length = l := by
    intro l
    induction l with
    | nil => intro a; rfl
    | cons c l ih =>
      intro a
      rw [List.length_cons, List.foldl_cons, Wi.beS, ih]
      congr 1
      have h1 : ∀ (l : List UInt8) (a : Nat), l.foldl (fun n c => n * 256 + c.toNat) a / 2 ^ (8 * l.length) = a := by
        intro l
        induction l with
        | nil => intro a; simp
        | cons d l ih =>
          intro a
          rw [List.foldl_cons, List.length_cons, show 8 * (l.length + 1) = 8 * l.length + 8 by omega, Nat.pow_add, ← Nat.div_div_eq_div_mul, ih]
          have := d.toNat_lt
          omega
      rw [h1]
      have := c.toNat_lt
      apply UInt8.toNat_inj.1
      rw [UInt8.toNat_ofNat']
      omega
  exact key l 0
theorem i31_num {l : List UInt8} (h4 : l.length = 4) (hlt : Wi.numS l < 2147483648) : Wi.i31 (Wi.numS l : Int) = l := by
  unfold Wi.i31 Wi.u64
  have e : (((Wi.numS l : Nat) : Int) % 18446744073709551616).toNat % 2147483648 = Wi.numS l := by omega
  rw [e, ← h4]
  exact be_num l
theorem split_at {r : List UInt8} {n : Nat} (h : n ≤ r.length) : r = r.take n ++ r.drop n ∧ (r.take n).length = n := ⟨(List.take_append_drop n r).symm, by rw [List.length_take]; omega⟩
theorem long_st (q : Nat) (b pre : List UInt8) (w : World) (h : Ste w q b pre) : Calls Tryz.prog 62 #[Wi.rp q] w fun e w' => ∃ N : Nat, N < 18446744073709551616 ∧ e = .returned (.int .u64 (N : Int)) ∧ Ste w' q b (pre ++ Wi.beS N 8) ∧ Fr (fun k => k = q) w w' := by
  rcases h with ⟨rest, hb, hr⟩ | ⟨c, hc, hr⟩
  · by_cases hl : 8 ≤ rest.length
    · obtain ⟨e1, e2⟩ := split_at hl
      have hn : Wi.numS (rest.take 8) < 18446744073709551616 := by have := Wi.numS_lt (rest.take 8); rw [e2] at this; simpa using this
      have e3 : Wi.beS (Wi.numS (rest.take 8)) 8 = rest.take 8 := by have := be_num (rest.take 8); rw [e2] at this; exact this
      refine (long_in q (Wi.numS (rest.take 8)) (rest.drop 8) w hn (by rw [e3, ← e1]; exact hr)).mono fun e w' ⟨h1, h2, h3⟩ => ⟨_, hn, h1, Or.inl ⟨rest.drop 8, ste_app hb (by rw [e3]; exact e1), h2⟩, h3⟩
    · exact (Wi.rd_Long_out q rest 40 w (by decide) hr (fun w1 h => Wi.takeLong_out q rest w1 (by omega) h)).mono fun e w' h => ⟨0, by decide, dead_of (by decide) h⟩
  · exact (Wi.dead_Long q [] c w hc hr).mono fun e w' ⟨h1, h2⟩ => ⟨0, by decide, h1, Or.inr ⟨c, hc, hr.later h2⟩, fn_q h2⟩
theorem int_st (q : Nat) (b pre : List UInt8) (w : World) (h : Ste w q b pre) : Calls Tryz.prog 30 #[Wi.rp q] w fun e w' => ∃ N : Nat, N < 2147483648 ∧ e = .returned (ci (N : Int)) ∧ Ste w' q b (pre ++ Wi.i31 (N : Int)) ∧ Fr (fun k => k = q) w w' := by
  rcases h with ⟨rest, hb, hr⟩ | ⟨c, hc, hr⟩
  · by_cases hl : 4 ≤ rest.length
    · obtain ⟨e1, e2⟩ := split_at hl
      by_cases hn : Wi.numS (rest.take 4) < 2147483648
      · have e3 := i31_num e2 hn
        refine (int_in q (Wi.numS (rest.take 4)) (rest.drop 4) w hn (by rw [e3, ← e1]; exact hr)).mono fun e w' ⟨h1, h2, h3⟩ => ⟨_, hn, h1, Or.inl ⟨rest.drop 4, ste_app hb (by rw [e3]; exact e1), h2⟩, h3⟩
      · exact (Wi.rd_Int_out q rest 42 w (by decide) hr (fun w1 h => Wi.takeInt_bad q rest _ w1 hl rfl (by omega) h)).mono fun e w' h => ⟨0, by decide, dead_of (by decide) h⟩
    · exact (Wi.rd_Int_out q rest 40 w (by decide) hr (fun w1 h => Wi.takeInt_out q rest w1 (by omega) h)).mono fun e w' h => ⟨0, by decide, dead_of (by decide) h⟩
  · exact (Wi.dead_Int q [] c w hc hr).mono fun e w' ⟨h1, h2⟩ => ⟨0, by decide, h1, Or.inr ⟨c, hc, hr.later h2⟩, fn_q h2⟩
/-- A count: it is there, or why it is not. -/
theorem count_cases (rest : List UInt8) (q : Nat) (most : Nat) : (∃ N : Nat, N < 2147483648 ∧ N ≤ most ∧ rest = Wi.i31 (N : Int) ++ rest.drop 4) ∨ ∃ c : Int, (c == 0) = false ∧ ∀ w1, Wi.Rd w1 q rest 0 → Calls Tryz.prog 58 #[Wi.rp q, .int .i64 (most : Int)] w1 (Wi.Gave q w1 c) := by
  by_cases hl : 4 ≤ rest.length
  · obtain ⟨e1, e2⟩ := split_at hl
    by_cases hn : Wi.numS (rest.take 4) < 2147483648
    · by_cases hm : Wi.numS (rest.take 4) ≤ most
      · exact Or.inl ⟨_, hn, hm, by rw [i31_num e2 hn]; exact e1⟩
      · exact Or.inr ⟨3, by decide, fun w1 h => Wi.takeCount_big q rest _ _ w1 hl rfl hn (by omega) h⟩
    · exact Or.inr ⟨42, by decide, fun w1 h => Wi.takeCount_gave q 42 _ w1 (Wi.takeInt_bad q rest _ w1 hl rfl (by omega) h)⟩
  · exact Or.inr ⟨40, by decide, fun w1 h => Wi.takeCount_gave q 40 _ w1 (Wi.takeInt_out q rest w1 (by omega) h)⟩
theorem text_st (q : Nat) (b pre : List UInt8) (w : World) (h : Ste w q b pre) : Calls Tryz.prog 9 #[Wi.rp q, ci 32] w fun e w' => ∃ s : List UInt8, s.length ≤ 32 ∧ e = .returned (.string ⟨s.toArray⟩) ∧ Ste w' q b (pre ++ Wi.rawS s) ∧ Fr (fun k => k = q) w w' := by
  rcases h with ⟨rest, hb, hr⟩ | ⟨c, hc, hr⟩
  · rcases count_cases rest q 32 with ⟨N, h1, h2, h3⟩ | ⟨c, hc, h1⟩
    · obtain ⟨R, hR⟩ : ∃ R, rest.drop 4 = R := ⟨_, rfl⟩
      rw [hR] at h3
      subst h3
      by_cases hl : N ≤ R.length
      · obtain ⟨e1, e2⟩ := split_at hl
        have e3 : Wi.i31 (N : Int) ++ R = Wi.rawS (R.take N) ++ R.drop N := by
          unfold Wi.rawS
          rw [e2, List.append_assoc, ← e1]
        exact (text_in q (R.take N) (R.drop N) w (by omega) (by rw [← e3]; exact hr)).mono fun e w' ⟨q1, q2, q3⟩ => ⟨_, by omega, q1, Or.inl ⟨R.drop N, ste_app hb e3, q2⟩, q3⟩
      · have hd : (Wi.i31 (N : Int) ++ R).drop 4 = R := drop_app (i31_len _)
        exact (Wi.rd_Text_out q _ 40 w (by decide) hr (fun w1 _ h => Wi.takeText_out q _ N 32 w1 (by rw [List.length_append, i31_len]; omega) (by show Wi.numS _ = _; rw [take_app (i31_len _)]; exact Wi.num_len N h1) h1 (by omega) h (by rw [hd]; omega))).mono fun e w' h => ⟨[], by simp, dead_of (by decide) h⟩
    · exact (Wi.rd_Text_out q _ c w hc hr (fun w1 _ h => Wi.takeText_gave q c 32 w1 (h1 w1 h))).mono fun e w' h => ⟨[], by simp, dead_of hc h⟩
  · exact (Wi.dead_Text q [] c w hc hr).mono fun e w' ⟨h1, h2⟩ => ⟨[], by simp, h1, Or.inr ⟨c, hc, hr.later h2⟩, fn_q h2⟩
/-- Ints in a row: all are there, or the first that is not. -/
theorem ints_cases : ∀ (n : Nat) (rest : List UInt8), (∃ l : List Int, l.length = n ∧ (∀ x ∈ l, 0 ≤ x ∧ x < 2147483648) ∧ ∃ more, rest = (l.map Wi.i31).flatten ++ more) ∨ ∃ (l : List Int) (Z : List UInt8), l.length < n ∧ (∀ x ∈ l, 0 ≤ x ∧ x < 2147483648) ∧ rest = (l.map Wi.i31).flatten ++ Z ∧ (Z.length < 4 ∨ (4 ≤ Z.length ∧ 2147483647 < Wi.numS (Z.take 4)))
  | 0, rest => Or.inl ⟨[], rfl, by simp, rest, rfl⟩
  | n + 1, rest => by
    by_cases hl : 4 ≤ rest.length
    · obtain ⟨e1, e2⟩ := split_at hl
      by_cases hn : Wi.numS (rest.take 4) < 2147483648
      · have e3 := i31_num e2 hn
        rcases ints_cases n (rest.drop 4) with ⟨l, h1, h2, more, h3⟩ | ⟨l, Z, h1, h2, h3, h4⟩
        · refine Or.inl ⟨(Wi.numS (rest.take 4) : Int) :: l, by simp [h1], ?_, more, ?_⟩
          · intro x hx
            rcases List.mem_cons.1 hx with rfl | hx
            · omega
            · exact h2 x hx
          · rw [List.map_cons, List.flatten_cons, e3, List.append_assoc, ← h3]; exact e1
        · refine Or.inr ⟨(Wi.numS (rest.take 4) : Int) :: l, Z, by simp; omega, ?_, ?_, h4⟩
          · intro x hx
            rcases List.mem_cons.1 hx with rfl | hx
            · omega
            · exact h2 x hx
          · rw [List.map_cons, List.flatten_cons, e3, List.append_assoc, ← h3]; exact e1
      · exact Or.inr ⟨[], rest, by simp, by simp, rfl, Or.inr ⟨hl, by omega⟩⟩
    · exact Or.inr ⟨[], rest, by simp, by simp, rfl, Or.inl (by omega)⟩
theorem kone_any (q : Nat) (l : List Int) (W : World) : Wi.Hidden (∀ (x : Int) (mr : List UInt8) (w1 : World), x ∈ l → Wi.Fr (fun k => k = q) W w1 → Wi.Rd w1 q (Wi.i31 x ++ mr) 0 → Calls Tryz.prog 60 #[Wi.rp q] w1 (Wi.Took q w1 (Wi.Is ((fun x : Int => Value.int .i64 ((Wi.u64 x % 2147483648 : Nat) : Int)) x)) mr)) := fun x mr w2 _ _ h => by
  have := Wi.takeInt_in q (Wi.i31 x ++ mr) (Wi.u64 x % 2147483648) w2 (by rw [List.length_append, i31_len]; omega) (by show Wi.numS _ = _; rw [take_app (i31_len _)]; exact Wi.num_i31 x) (Nat.mod_lt _ (by omega)) h
  rw [drop_app (i31_len _)] at this
  exact this
theorem dead_ints {w w' : World} {q : Nat} {b pre : List UInt8} {c : Int} {e : Ending} (hc : (c == 0) = false) (h : Wi.Failed q w (.slice none 0 0) c e w') : ∃ (l : List Int) (ao : Option Addr) (cap : Nat), l.length ≤ 8 ∧ (∀ x ∈ l, 0 ≤ x ∧ x < 2147483648) ∧ e = .returned (.slice ao l.length cap) ∧ Ty.InL w' ao cap l ∧ (l = [] ∨ ∀ k, (Value.slice ao l.length cap).ownBlock = some k → w.heap.size ≤ k ∧ k < w'.heap.size) ∧ Ste w' q b (pre ++ Wi.intsS l) ∧ Fr (fun k => k = q) w w' :=
  ⟨[], none, 0, by simp, by simp, h.1, ⟨by simp, by simp [maxLen], fun _ => rfl, Or.inl rfl⟩, Or.inl rfl, Or.inr ⟨c, hc, h.2.1⟩, of_wi h.2.2⟩
theorem ints_st (q : Nat) (b pre : List UInt8) (w : World) (h : Ste w q b pre) : Calls Tryz.prog 63 #[Wi.rp q, ci 8] w fun e w' => ∃ (l : List Int) (ao : Option Addr) (cap : Nat), l.length ≤ 8 ∧ (∀ x ∈ l, 0 ≤ x ∧ x < 2147483648) ∧ e = .returned (.slice ao l.length cap) ∧ Ty.InL w' ao cap l ∧ (l = [] ∨ ∀ k, (Value.slice ao l.length cap).ownBlock = some k → w.heap.size ≤ k ∧ k < w'.heap.size) ∧ Ste w' q b (pre ++ Wi.intsS l) ∧ Fr (fun k => k = q) w w' := by
  rcases h with ⟨rest, hb, hr⟩ | ⟨c, hc, hr⟩
  · rcases count_cases rest q 8 with ⟨N, h1, h2, h3⟩ | ⟨c, hc, h1⟩
    · obtain ⟨R, hR⟩ : ∃ R, rest.drop 4 = R := ⟨_, rfl⟩
      rw [hR] at h3
      subst h3
      rcases ints_cases N R with ⟨l, g1, g2, more, g3⟩ | ⟨l, Z, g1, g2, g3, g4⟩
      · subst g1
        have e3 : Wi.i31 (l.length : Int) ++ R = Wi.intsS l ++ more := by unfold Wi.intsS; rw [g3, List.append_assoc]
        exact (ints_in q l more w h2 g2 (by rw [← e3]; exact hr)).mono fun e w' ⟨ao, cap, q1, q2, q3, q4, q5⟩ => ⟨l, ao, cap, h2, g2, q1, q2, q3, Or.inl ⟨more, ste_app hb e3, q4⟩, q5⟩
      · subst g3
        obtain ⟨c, hc, kz⟩ : ∃ c : Int, (c == 0) = false ∧ ∀ w1, Wi.Rd w1 q Z 0 → Calls Tryz.prog 60 #[Wi.rp q] w1 (Wi.Gave q w1 c) := by
          rcases g4 with g4 | ⟨g4, g5⟩
          · exact ⟨40, by decide, fun w1 h => Wi.takeInt_out q Z w1 g4 h⟩
          · exact ⟨42, by decide, fun w1 h => Wi.takeInt_bad q Z _ w1 g4 rfl g5 h⟩
        exact (Wi.rd_Ints_out q _ c w hc hr (fun w1 _ h => Wi.list_bad w1 q l N g1 8 Z c h h1 (by omega) (kone_any q l w1) kz)).mono fun e w' h => dead_ints hc h
    · exact (Wi.rd_Ints_out q _ c w hc hr (fun w1 _ h => Wi.list_int_gave q c 8 w1 (h1 w1 h))).mono fun e w' h => dead_ints hc h
  · exact (Wi.dead_Ints q [] c w hc hr).mono fun e w' ⟨h1, h2⟩ => dead_ints hc ⟨h1, hr.later h2, h2.mono fun _ _ f => f.elim⟩
end Go.Proofs.YtakkiipkmogagaaGreat.Fo.Ic

namespace Go.Proofs.YtakkiipkmogagaaGreat.Fo.Ic
open Go.RowKit Te
set_option linter.unusedSimpArgs false
set_option linter.unusedVariables false
set_option maxRecDepth 20000

/-- A reader of any bytes, and a box that was made beside it. -/
def RS (w : World) (g q : Nat) (t : TypeId) (b pre : List UInt8) (c : Array Value) (wx : World) : Prop := Ste wx q b pre ∧ wx.heap[g]? = some (.cells c t (0, 0)) ∧ Fr (fun k => k = q) w wx ∧ q < w.heap.size ∧ w.heap.size ≤ g
theorem RS.next {w : World} {g q : Nat} {t : TypeId} {b pre pre' : List UInt8} {c : Array Value} {wx wy : World} (h : RS w g q t b pre c wx) (hr : Ste wy q b pre') (hf : Fr (fun k => k = q) wx wy) : RS w g q t b pre' c wy :=
  ⟨hr, hf.heap h.2.1 (fun e => by have := h.2.2.2; have e : g = q := e; omega), h.2.2.1.same hf, h.2.2.2⟩
theorem RS.put {w : World} {g q : Nat} {t : TypeId} {b pre : List UInt8} {c : Array Value} {wx : World} (h : RS w g q t b pre c wx) (i : Nat) (v : Value) : RS w g q t b pre (c.setIfInBounds i v) (wx.setCell ⟨g, i, none⟩ v) := by
  have hf := Fr.setCell wx ⟨g, i, none⟩ v
  have h4 := h.2.2.2
  refine ⟨h.1.aside hf (fun k hk => by have hk : k = g := hk; omega), heap_setCell_same wx _ i _ _ _ h.2.1, h.2.2.1.trans hf (fun k hk e => by have e : k = g := e; omega), h.2.2.2⟩
theorem u8_of (c : UInt8) : u8 (c.toNat : Int) = c := by
  unfold u8
  apply UInt8.toNat_inj.1
  rw [UInt8.toNat_ofNat']
  have := c.toNat_lt
  omega
theorem i64_u8 (c : UInt8) : IntKind.i64.wrap (c.toNat : Int) = (c.toNat : Int) := by
  have := c.toNat_lt
  rw [IntKind.wrap_i64]; omega
/-- An item as it is read: small. -/
structure Rdd (i : Ty.It) : Prop where
  kind : ∃ c : UInt8, i.kind = (c.toNat : Int)
  name : i.name.length ≤ 32
  typ : ∃ c : UInt8, i.typ = (c.toNat : Int)
  bits : ∃ N : Nat, N < 18446744073709551616 ∧ i.bits = (N : Int)
  len : i.params.length ≤ 8
  params : ∀ x ∈ i.params, 0 ≤ x ∧ x < 2147483648
theorem Rdd.ok {i : Ty.It} (h : Rdd i) : Ty.OkI i := by
  obtain ⟨⟨c, hc⟩, h2, ⟨d, hd⟩, ⟨N, hN, hb⟩, h5, h6⟩ := h
  have := c.toNat_lt
  have := d.toNat_lt
  refine ⟨by rw [hc]; constructor <;> omega, by unfold Ty.OkN; omega, by rw [hd]; constructor <;> omega, by rw [hb]; constructor <;> omega, fun p hp => ?_, by omega⟩
  have := h6 p hp
  constructor <;> omega
set_option maxHeartbeats 2000000 in
theorem takeItem_st (q : Nat) (b pre : List UInt8) (w : World) (hr : Ste w q b pre) :
    Calls Tryz.prog 31 #[Wi.rp q] w fun e w' => ∃ (i : Ty.It) (po : Option Addr) (pc : Nat), Rdd i ∧ e = .returned (.agg #[ci i.kind, ct i.name, ci i.typ, .int .u64 i.bits, .slice po i.params.length pc]) ∧ Ty.InL w' po pc i.params ∧ (i.params = [] ∨ ∀ k, (Value.slice po i.params.length pc).ownBlock = some k → w.heap.size ≤ k ∧ k < w'.heap.size) ∧ Ste w' q b (pre ++ itemB i) ∧ Fr (fun k => k = q) w w' := by
  have hq := hr.lt
  obtain ⟨V, hV⟩ : ∃ V, V = w.alloc zIt := ⟨_, rfl⟩
  have fwV : Fr FN w V := by rw [hV]; exact Fr.alloc _ _ _
  have hsV : V.heap.size = w.heap.size + 1 := by rw [hV]; simp
  have hVz : V.heap[w.heap.size]? = some zIt := by rw [hV]; exact alloc_new _ _
  have o1 : RS V (w.heap.size + 1) q 47 b pre #[ci 0, .string ⟨#[]⟩, ci 0, .int .u64 0, .slice none 0 0] (V.alloc zIt) :=
    ⟨(hr.later fwV).later (Fr.alloc FN V _), by rw [← hsV]; exact alloc_new _ _, Fr.alloc _ _ _, by omega, by omega⟩
  have boxR : ∀ {p : List UInt8} {c : Array Value} {u : World}, RS V (w.heap.size + 1) q 47 b p c u → u.heap[w.heap.size]? = some zIt := fun h => h.2.2.1.heap hVz (fun e => by have e : w.heap.size = q := e; omega)
  have k1 : ∀ (c : Array Value) (p : List UInt8) u, RS V (w.heap.size + 1) q 47 b p c u → Calls Tryz.prog 61 #[Wi.rp q] u fun e w' => ∃ z : UInt8, e = .returned (.int .u8 (z.toNat : Int)) ∧ RS V (w.heap.size + 1) q 47 b (p ++ [z]) c w' := fun c p u h => (byte_st q b p u h.1).mono fun _ _ ⟨z, a, b, c⟩ => ⟨z, a, h.next b c⟩
  have k2 : ∀ (c : Array Value) (p : List UInt8) u, RS V (w.heap.size + 1) q 47 b p c u → Calls Tryz.prog 9 #[Wi.rp q, ci 32] u fun e w' => ∃ s : List UInt8, s.length ≤ 32 ∧ e = .returned (.string ⟨s.toArray⟩) ∧ RS V (w.heap.size + 1) q 47 b (p ++ Wi.rawS s) c w' := fun c p u h => (text_st q b p u h.1).mono fun _ _ ⟨s, z, a, b, c⟩ => ⟨s, z, a, h.next b c⟩
  have k4 : ∀ (c : Array Value) (p : List UInt8) u, RS V (w.heap.size + 1) q 47 b p c u → Calls Tryz.prog 62 #[Wi.rp q] u fun e w' => ∃ N : Nat, N < 18446744073709551616 ∧ e = .returned (.int .u64 (N : Int)) ∧ RS V (w.heap.size + 1) q 47 b (p ++ Wi.beS N 8) c w' := fun c p u h => (long_st q b p u h.1).mono fun _ _ ⟨N, z, a, b, c⟩ => ⟨N, z, a, h.next b c⟩
  have k5 : ∀ (c : Array Value) (p : List UInt8) u, RS V (w.heap.size + 1) q 47 b p c u → Calls Tryz.prog 63 #[Wi.rp q, ci 8] u fun e w' => ∃ (l : List Int) (po : Option Addr) (pc : Nat), l.length ≤ 8 ∧ (∀ x ∈ l, 0 ≤ x ∧ x < 2147483648) ∧ e = .returned (.slice po l.length pc) ∧ Ty.InL w' po pc l ∧ (l = [] ∨ ∀ k, (Value.slice po l.length pc).ownBlock = some k → u.heap.size ≤ k ∧ k < w'.heap.size) ∧ RS V (w.heap.size + 1) q 47 b (p ++ Wi.intsS l) c w' := fun c p u h => (ints_st q b p u h.1).mono fun _ _ ⟨l, po, pc, a1, a2, a, b, c, d, e⟩ => ⟨l, po, pc, a1, a2, a, b, c, h.next d e⟩
  have o1H : Hidden (RS V (w.heap.size + 1) q 47 b pre #[ci 0, .string ⟨#[]⟩, ci 0, .int .u64 0, .slice none 0 0] (V.alloc zIt)) := o1
  have hVH : Hidden (V = w.alloc zIt) := hV
  have fwVH : Hidden (Fr FN w V) := fwV
  clear hr o1 hV fwV hVz hsV
  go_enter Tryz.func31, Tryz.ntmps31
  go_wp2_with fail
  rw [← (show V = _ from hVH)]
  go_at_call 61
  refine (k1 _ _ _ o1H).mono ?_
  rintro e w1 ⟨zk, rfl, h1⟩
  have f0 := Ty.frozen_row h1.2.1 0
  obtain ⟨a0, a1, a2, a3, a4⟩ := Ty.box5 h1.2.1
  have ek := i64_u8 zk
  go_wp2_with fail
  have h1' : RS V (w.heap.size + 1) q 47 b (pre ++ [zk]) #[ci (zk.toNat : Int), .string ⟨#[]⟩, ci 0, .int .u64 0, .slice none 0 0] (w1.setCell ⟨w.heap.size + 1, 0, none⟩ (ci (zk.toNat : Int))) := h1.put 0 _
  go_at_call 9
  refine (k2 _ _ _ h1').mono ?_
  rintro e w2 ⟨name, hnl, rfl, h2⟩
  clear f0 a0 a1 a2 a3 a4
  have f1 := Ty.frozen_row h2.2.1 1
  obtain ⟨a0, a1, a2, a3, a4⟩ := Ty.box5 h2.2.1
  go_wp2_with fail
  have h2' : RS V (w.heap.size + 1) q 47 b _ #[ci (zk.toNat : Int), ct name, ci 0, .int .u64 0, .slice none 0 0] (w2.setCell ⟨w.heap.size + 1, 1, none⟩ (ct name)) := h2.put 1 (ct name)
  go_at_call 61
  refine (k1 _ _ _ h2').mono ?_
  rintro e w3 ⟨zt, rfl, h3⟩
  clear f1 a0 a1 a2 a3 a4
  have f2 := Ty.frozen_row h3.2.1 2
  obtain ⟨a0, a1, a2, a3, a4⟩ := Ty.box5 h3.2.1
  have et := i64_u8 zt
  go_wp2_with fail
  have h3' : RS V (w.heap.size + 1) q 47 b _ #[ci (zk.toNat : Int), ct name, ci (zt.toNat : Int), .int .u64 0, .slice none 0 0] (w3.setCell ⟨w.heap.size + 1, 2, none⟩ (ci (zt.toNat : Int))) := h3.put 2 _
  go_at_call 62
  refine (k4 _ _ _ h3').mono ?_
  rintro e w4 ⟨B, hB, rfl, h4⟩
  clear f2 a0 a1 a2 a3 a4
  have f3 := Ty.frozen_row h4.2.1 3
  obtain ⟨a0, a1, a2, a3, a4⟩ := Ty.box5 h4.2.1
  go_wp2_with fail
  have h4' : RS V (w.heap.size + 1) q 47 b _ #[ci (zk.toNat : Int), ct name, ci (zt.toNat : Int), .int .u64 (B : Int), .slice none 0 0] (w4.setCell ⟨w.heap.size + 1, 3, none⟩ (.int .u64 (B : Int))) := h4.put 3 (.int .u64 (B : Int))
  go_at_call 63
  refine (k5 _ _ _ h4').mono ?_
  rintro e w5 ⟨params, po, pc, hp1, hp2, rfl, hin, hown, h5⟩
  clear f3 a0 a1 a2 a3 a4
  have hz := boxR h5
  have f4 := Ty.frozen_row h5.2.1 4
  obtain ⟨a0, a1, a2, a3, a4⟩ := Ty.box5 h5.2.1
  have h5' : RS V (w.heap.size + 1) q 47 b _ #[ci (zk.toNat : Int), ct name, ci (zt.toNat : Int), .int .u64 (B : Int), .slice po params.length pc] (w5.setCell ⟨w.heap.size + 1, 4, none⟩ (.slice po params.length pc)) := h5.put 4 _
  have hz' := boxR h5'
  have h5H : Hidden (RS V (w.heap.size + 1) q 47 b (pre ++ [zk] ++ Wi.rawS name ++ [zt] ++ Wi.beS B 8 ++ Wi.intsS params) #[ci (zk.toNat : Int), ct name, ci (zt.toNat : Int), .int .u64 (B : Int), .slice po params.length pc] (w5.setCell ⟨w.heap.size + 1, 4, none⟩ (.slice po params.length pc))) := h5'
  have z0 := Ty.frozen_row hz 0
  have z1 := Ty.frozen_row hz 1
  have z2 := Ty.frozen_row hz 2
  have z3 := Ty.frozen_row hz 3
  have z4 := Ty.frozen_row hz 4
  obtain ⟨b0, b1, b2, b3, b4⟩ := Ty.box5 hz
  have hs4 : w.heap.size + 1 < w4.heap.size := by have := lt_of_heap h4.2.1; omega
  have hH : Hidden ((Ty.InL w5 po pc params ∧ (params = [] ∨ ∀ k, (Value.slice po params.length pc).ownBlock = some k → w4.heap.size ≤ k ∧ k < w5.heap.size)) ∧ params.length ≤ 8 ∧ (∀ x ∈ params, 0 ≤ x ∧ x < 2147483648) ∧ name.length ≤ 32 ∧ B < 18446744073709551616) := ⟨⟨hin, by simpa using hown⟩, hp1, hp2, hnl, hB⟩
  clear hin hown h1 h2 h3 h4 h5 h1' h2' h3' h4' h5' k1 k2 k4 k5 boxR hp1 hp2 hnl hB
  go_wp2_with fail
  obtain ⟨⟨hin, hown⟩, hp1, hp2, hnl, hB⟩ := (show _ ∧ _ from hH)
  have h5' := (show RS V _ q _ b _ _ _ from h5H)
  have g1 := Fr.setCell w5 ⟨w.heap.size + 1, 4, none⟩ (.slice po params.length pc)
  have g2 := five_at (w5.setCell ⟨w.heap.size + 1, 4, none⟩ (.slice po params.length pc)) w.heap.size (ci (zk.toNat : Int)) (ct name) (ci (zt.toNat : Int)) (.int .u64 (B : Int)) (.slice po params.length pc)
  have hq' : q < w.heap.size := hq
  have fV2 : Fr (fun k => k = q) w (w5.setCell ⟨w.heap.size + 1, 4, none⟩ (.slice po params.length pc)) := ((show Fr FN w V from fwVH).mono (fun _ _ f => f.elim)).same h5'.2.2.1
  refine post_cell1 rfl rfl _ _ rfl (run_loadVar_row _ _ _ _ _ _ _ (five_put hz' _ _ _ _ _) Tryz.underlying47 rfl size_item5) ⟨⟨(zk.toNat : Int), name, (zt.toNat : Int), (B : Int), params⟩, po, pc, ⟨⟨zk, rfl⟩, hnl, ⟨zt, rfl⟩, ⟨B, hB, rfl⟩, hp1, hp2⟩, rfl, ?_, ?_, ?_, ?_⟩
  · by_cases hp : params = []
    · subst hp; exact ⟨hin.1, hin.2.1, hin.2.2.1, Or.inl rfl⟩
    · have ho := hown.resolve_left hp
      refine InL_keepS (InL_keepS hin g1 fun k hk e => ?_) g2 fun k hk e => ?_
      · have := (ho k hk).1; have e : k = w.heap.size + 1 := e; omega
      · have := (ho k hk).1; have e : k = w.heap.size := e; omega
  · rcases hown with h0 | ho
    · exact Or.inl h0
    · right
      intro k hk
      exact ⟨by have := (ho k hk).1; omega, Nat.lt_of_lt_of_le (ho k hk).2 (Nat.le_trans g1.size g2.size)⟩
  · have e : pre ++ itemB ⟨(zk.toNat : Int), name, (zt.toNat : Int), (B : Int), params⟩ = pre ++ [zk] ++ Wi.rawS name ++ [zt] ++ Wi.beS B 8 ++ Wi.intsS params := by
      unfold itemB
      simp [u8_of]
    rw [e]
    exact h5'.1.aside g2 (fun k hk => by have hk : k = w.heap.size := hk; omega)
  · exact fV2.trans g2 (fun k hk e => by have e : k = w.heap.size := e; omega)
end Go.Proofs.YtakkiipkmogagaaGreat.Fo.Ic

namespace Go.Proofs.YtakkiipkmogagaaGreat.Fo.Ic
open Go.RowKit Te
set_option linter.unusedSimpArgs false
set_option linter.unusedVariables false
set_option maxRecDepth 20000

theorem fail_dead (q : Nat) (c d : Int) (w : World) (hc : (c == 0) = false) (hd : (d == 0) = false) (hr : Wi.Rd w q [] c) : Calls Tryz.prog 11 #[Wi.rp q, ci d] w fun e w' => e = .returned (.tuple #[]) ∧ w' = w := by
  obtain ⟨ao, cap, h0, h1, f0, f1, h2, h3⟩ := hr.cells
  clear hr
  go_enter Tryz.func11, Tryz.ntmps11
  go_wp2
  exact ⟨rfl, _, results_none rfl _ _ _, rfl, rfl⟩
/-- It failed, or fails now. -/
theorem fail_any (q : Nat) (b pre : List UInt8) (d : Int) (w : World) (hd : (d == 0) = false) (h : Ste w q b pre) : Calls Tryz.prog 11 #[Wi.rp q, ci d] w fun e w' => e = .returned (.tuple #[]) ∧ (∃ c, (c == 0) = false ∧ Wi.Rd w' q [] c) ∧ Fr (fun k => k = q) w w' := by
  rcases h with ⟨rest, hb, hr⟩ | ⟨c, hc, hr⟩
  · exact (Wi.fail_first q rest d w hr hd).mono fun e w' ⟨h1, h2, h3⟩ => ⟨h1, ⟨d, hd, h2⟩, of_wi h3⟩
  · exact (fail_dead q c d w hc hd hr).mono fun e w' ⟨h1, h2⟩ => ⟨h1, ⟨c, hc, by rw [h2]; exact hr⟩, by rw [h2]; exact Fr.refl _ _⟩
theorem fail_st (q : Nat) (b pre : List UInt8) (w : World) (h : Ste w q b pre) : Calls Tryz.prog 11 #[Wi.rp q, ci 3] w fun e w' => e = .returned (.tuple #[]) ∧ (∃ c, (c == 0) = false ∧ Wi.Rd w' q [] c) ∧ Fr (fun k => k = q) w w' := fail_any q b pre 3 w (by decide) h
theorem fail_zero (q : Nat) (w : World) : Calls Tryz.prog 11 #[Wi.rp q, ci 0] w fun e w' => e = .returned (.tuple #[]) ∧ w' = w := by
  go_enter Tryz.func11, Tryz.ntmps11
  go_wp2
  exact ⟨rfl, _, results_none rfl _ _ _, rfl, rfl⟩
theorem done_more (q : Nat) (rest : List UInt8) (w : World) (hne : rest ≠ []) (hr : Wi.Rd w q rest 0) : Calls Tryz.prog 14 #[Wi.rp q] w fun e w' => (∃ c, (c == 0) = false ∧ e = .returned (ci c)) ∧ w' = w := by
  have k1 := Wi.err_some q rest 0 w hr
  have k2 := Wi.left_some q rest 0 w hr
  have hl : ((rest.length : Int) != 0) = true := by
    cases rest with
    | nil => exact absurd rfl hne
    | cons c r => simp; omega
  have hl2 : ((rest.length : Int) == 0) = false := by simpa using hl
  have hl3 : decide (0 < rest.length) = true := by
    cases rest with
    | nil => exact absurd rfl hne
    | cons c r => simp
  clear hr hne
  go_enter Tryz.func14, Tryz.ntmps14
  go_wp2_with (first
    | (go_at_call 37; refine k1.mono ?_; rintro e w' ⟨rfl, rfl⟩)
    | (go_at_call 38; refine k2.mono ?_; rintro e w' ⟨rfl, rfl⟩))
  go_ret
  exact ⟨⟨_, by decide, rfl⟩, rfl⟩
/-- What Done answers: nothing where all has been read. -/
theorem done_st (q : Nat) (b pre : List UInt8) (w : World) (h : Ste w q b pre) : Calls Tryz.prog 14 #[Wi.rp q] w fun e w' => ∃ c : Int, e = .returned (ci c) ∧ (c = 0 → b = pre) ∧ w' = w := by
  rcases h with ⟨rest, hb, hr⟩ | ⟨c, hc, hr⟩
  · by_cases h0 : rest = []
    · subst h0
      exact (Wi.done_end q w hr).mono fun e w' ⟨h1, h2⟩ => ⟨0, h1, fun _ => by simpa using hb, h2.symm⟩
    · exact (done_more q rest w h0 hr).mono fun e w' ⟨⟨c, hc, h1⟩, h2⟩ => ⟨c, h1, fun e => (by rw [e] at hc; cases hc), h2⟩
  · exact (Wi.done_err (Wi.rp q) c w hc (Wi.err_some q [] c w hr)).mono fun e w' ⟨h1, h2⟩ => ⟨c, h1, fun e => (by rw [e] at hc; cases hc), h2.symm⟩
set_option maxHeartbeats 2000000 in
theorem takeItems_st (q : Nat) (b pre : List UInt8) (w : World) (hr : Ste w q b pre) :
    Calls Tryz.prog 10 #[Wi.rp q] w fun e w' => ∃ (its : List Ty.It) (ao : Option Addr) (cap : Nat), its.length ≤ 64 ∧ (∀ i ∈ its, Rdd i) ∧ e = .returned (.slice ao its.length cap) ∧ (∀ w'', Fr (fun k => k < w.heap.size) w' w'' → Ty.ItL w'' ao cap its) ∧ Ste w' q b (pre ++ (Wi.i31 (its.length : Int) ++ (its.map itemB).flatten)) ∧ Fr (fun k => k = q) w w' := by
  have hq : Hidden (q < w.heap.size) := hr.lt
  have k1 := int_st q b pre w hr
  clear hr
  go_enter Tryz.func10, Tryz.ntmps10
  go_upto_region 2 with (go_at_call 30; refine k1.mono ?_; rintro e w1 ⟨N, hN, rfl, r1, f1⟩)
  by_cases hbig : 64 < N
  · have t1 : decide ((64 : Int) < (N : Int)) = true := by simp; omega
    have kf := fail_st q b _ w1 r1
    clear k1 hbig r1
    go_wp2_with (go_at_call 11; refine kf.mono ?_; rintro e w2 ⟨rfl, r2, f2⟩)
    go_ret
    exact ⟨[], none, 0, by simp, by simp, rfl, fun _ _ => ⟨by simp, by simp [maxLen], fun _ => rfl, Or.inl rfl⟩, Or.inr r2, f1.same f2⟩
  · have t1 : decide ((64 : Int) < (N : Int)) = false := by simp; omega
    have hlH : Hidden (N ≤ 64) := by show N ≤ 64; omega
    have hn1 : N ≤ 9223372036854775807 := by omega
    have r1H : Hidden (Ste w1 q b (pre ++ Wi.i31 (N : Int)) ∧ Fr (fun k => k = q) w w1) := ⟨r1, f1⟩
    clear k1 hbig r1 f1
    go_wp2_with fail
    go_loopg [4, 12] N (fun g lv iv wr => ∃ (j : Nat) (acc : List IV), iv = ci (j : Int) ∧ j ≤ N ∧ g = N - j ∧ acc.length = j ∧ (∀ x ∈ acc, Rdd x.1) ∧ Rw.Row RP 47 5 wr w.heap.size lv acc ∧ (∀ x ∈ acc, PmW wr w.heap.size lv x) ∧ Ste wr q b (pre ++ Wi.i31 (N : Int) ++ ((acc.map (·.1)).map itemB).flatten) ∧ Fr (fun k => k = q) w wr)
    case atStart => exact ⟨0, [], rfl, by omega, rfl, rfl, by simp, ⟨[], ⟨by simp, Or.inl ⟨rfl, rfl⟩⟩, rfl⟩, by simp, by simpa using (show Ste w1 q b _ ∧ _ from r1H).1, (show Ste w1 q b _ ∧ _ from r1H).2⟩
    case round =>
      obtain ⟨j, acc, rfl, hj, hgk, hal, hrdd, hrow, hpm, hrd, hfr⟩ := hrel
      obtain ⟨ao2, cap2, hv, _⟩ := hrow.slice
      subst hv
      have hgkH : Hidden (gk = N - j) := hgk
      have hrowH : Hidden (Rw.Row RP 47 5 wr w.heap.size (.slice ao2 acc.length cap2) acc) := hrow
      have hpmH : Hidden (∀ x ∈ acc, PmW wr w.heap.size (.slice ao2 acc.length cap2) x) := hpm
      have hfrH : Hidden (Fr (fun k => k = q) w wr) := hfr
      have hrddH : Hidden (∀ x ∈ acc, Rdd x.1) := hrdd
      have halH : Hidden (acc.length = j) := hal
      clear hgk hrow hpm hfr hal hrdd r1H
      by_cases hjl : j < N
      · have kT := takeItem_st q b _ wr hrd
        have hswH : Hidden (w.heap.size ≤ wr.heap.size) := (show Fr (fun k => k = q) w wr from hfrH).size
        clear hrd
        go_wp2_with (first
          | (go_at_call 31; refine Calls.mono kT ?_; rintro e w3 ⟨x, po, pc, hrx, rfl, hin3, ho3, r3, f3⟩; have hrow4 : Hidden (Rw.Row RP 47 5 (w3.alloc (.cells (encI (x, po, pc)).toArray 47 (0, 0))) w.heap.size (.slice ao2 acc.length cap2) acc) := ((show Rw.Row RP _ 5 wr _ _ _ from hrowH).keep f3 (fun k hk e => by have h1 := (Rw.Row.low (show Rw.Row RP _ 5 wr _ _ _ from hrowH) k hk).1; have h2 : q < w.heap.size := hq; have e : k = q := e; omega)).keep (Fr.alloc FN _ _) (fun _ _ f => f); have hs3 : Hidden (wr.heap.size ≤ w3.heap.size) := f3.size)
          | (at_builtin; have hrow4' := hrow4; refine wpl_one (R := RP) rfl _ _ 23 47 _ 5 64 Tryz.underlying23 info_it rfl (by decide) rfl w.heap.size (.slice ao2 acc.length cap2) acc (x, po, pc) (encI (x, po, pc)) w3.heap.size 47 rfl hrow4' rfl rfl rfl (alloc_new _ _) (it_one _) ?_ ?_ ?_ ?_; (focus (simp only [maxLen]; have : N ≤ 64 := hlH; have : acc.length = j := halH; omega)); (focus (have : N ≤ 64 := hlH; have : acc.length = j := halH; omega)); (focus (have h1 : w.heap.size ≤ wr.heap.size := hswH; have h2 : wr.heap.size ≤ w3.heap.size := hs3; simp; omega)); intro v5 w5 hr5 f5 ho5))
        go_roundg (N - (j + 1))
        case measure => have : gk = N - j := hgkH; omega
        case rel =>
          have h1 : w.heap.size ≤ wr.heap.size := hswH
          have h2 : wr.heap.size ≤ w3.heap.size := hs3
          have h3 : q < w.heap.size := hq
          have low := Rw.Row.low (show Rw.Row RP _ 5 wr _ _ _ from hrowH)
          refine ⟨j + 1, acc ++ [(x, po, pc)], by go_num, by omega, rfl, by rw [List.length_append, (show acc.length = j from halH)]; rfl, ?_, hr5, ?_, ?_, ?_⟩
          · intro y hy
            rcases List.mem_append.1 hy with hy | hy
            · exact (show ∀ x ∈ acc, Rdd x.1 from hrddH) y hy
            · rw [List.mem_singleton.1 hy]; exact hrx
          · intro y hy
            have fa := Fr.alloc FN w3 (.cells (encI (x, po, pc)).toArray 47 (0, 0))
            refine PmW.grow ?_ f5 ho5
            rcases List.mem_append.1 hy with hy | hy
            · exact (((show ∀ x ∈ acc, PmW wr w.heap.size _ x from hpmH) y hy).keep f3 (fun k hk _ _ e => by have e : k = q := e; omega)).keep fa (fun _ _ _ _ f => f)
            · rw [List.mem_singleton.1 hy]
              refine PmW.keep (w := w3) ⟨hin3, ?_⟩ fa (fun _ _ _ _ f => f)
              rcases ho3 with h0 | ho3
              · exact Or.inl h0
              · refine Or.inr fun k hk => ⟨by have := (ho3 k hk).1; omega, (ho3 k hk).2, fun e => ?_⟩
                have := (low k e).2
                have := (ho3 k hk).1
                omega
          · have e : pre ++ Wi.i31 (N : Int) ++ (((acc ++ [(x, po, pc)]).map (·.1)).map itemB).flatten = pre ++ Wi.i31 (N : Int) ++ ((acc.map (·.1)).map itemB).flatten ++ itemB x := by simp
            rw [e]
            exact (r3.later (Fr.alloc FN w3 _)).aside f5 (fun k hk => by have := (low k hk).1; omega)
          · refine (((show Fr (fun k => k = q) w wr from hfrH).same f3).same (Fr.alloc _ _ _)).trans f5 (fun k hk e => ?_)
            have := (low k e).1
            omega
      · obtain rfl : j = N := by omega
        have hrdH : Hidden (Ste wr q b (pre ++ Wi.i31 (j : Int) ++ ((acc.map (·.1)).map itemB).flatten)) := hrd
        clear hrd
        go_wp2_with fail
        go_ret
        have hal := (show acc.length = j from halH)
        have low := Rw.Row.low (show Rw.Row RP _ 5 wr _ _ _ from hrowH)
        have hlm : (acc.map (·.1)).length = j := by rw [List.length_map]; exact hal
        refine ⟨acc.map (·.1), ao2, cap2, by rw [hlm]; exact hlH, ?_, by rw [hlm, ← hal]; rfl, fun w'' hw => ?_, ?_, hfrH⟩
        · intro i hi
          obtain ⟨x, hx, rfl⟩ := List.mem_map.1 hi
          exact (show ∀ x ∈ acc, Rdd x.1 from hrddH) x hx
        · obtain ⟨ao3, cap3, e3, h3⟩ := row_itw ((show Rw.Row RP _ 5 wr _ _ _ from hrowH).keep hw (fun k hk e => by have := (low k hk).1; have e : k < w.heap.size := e; omega)) (fun x hx => (((show ∀ x ∈ acc, PmW wr w.heap.size _ x from hpmH) x hx).keep hw (fun k hk _ _ e => by have e : k < w.heap.size := e; omega)).1)
          simp only [Value.slice.injEq] at e3
          obtain ⟨rfl, _, rfl⟩ := e3
          exact h3
        · rw [hlm, ← List.append_assoc]; exact hrdH
end Go.Proofs.YtakkiipkmogagaaGreat.Fo.Ic

namespace Go.Proofs.YtakkiipkmogagaaGreat.Fo.Ic
open Go.RowKit Te
set_option linter.unusedSimpArgs false
set_option linter.unusedVariables false
set_option maxRecDepth 20000

/-- What Decode answers: the right interface whose bytes these are, or none. -/
def Dec (b : List UInt8) (f : Ty.Fc) (k : Int) : Prop := (k = 0 ∧ Ty.rightF f = 0 ∧ encS f = b ∧ Ty.OkN f.name ∧ ∀ i ∈ f.items, Ty.OkI i) ∨ (k = 50 ∧ f = ⟨[], []⟩)
set_option maxHeartbeats 4000000 in
theorem decode_st (b : List UInt8) (v : Value) (w : World) (hlen : b.length ≤ 140737488355328) (hs : Wi.Sl w v (Wi.bc b)) :
    Calls Tryz.prog 4 #[v] w fun e w' => ∃ (f : Ty.Fc) (fo : Option Addr) (fc : Nat) (k : Int), e = .returned (.tuple #[.agg #[ct f.name, .slice fo f.items.length fc], ci k]) ∧ Ty.ItL w' fo fc f.items ∧ Dec b f k ∧ Fr FN w w' := by
  obtain ⟨V, hV⟩ : ∃ V, V = w.alloc zIf := ⟨_, rfl⟩
  have fwV : Fr FN w V := by rw [hV]; exact Fr.alloc _ _ _
  have hVz : V.heap[w.heap.size]? = some zIf := by rw [hV]; exact alloc_new _ _
  have kR := Wi.read_any v b V hlen (hs.keep (to_wi fwV) (fun _ _ f => f))
  obtain ⟨ao0, cap0, rfl, _⟩ := id hs
  simp only [Wi.bc_length] at kR ⊢
  have kT : ∀ (W : World) (g q : Nat) (p : List UInt8) (c : Array Value) (u : World), RS W g q 25 b p c u → Calls Tryz.prog 9 #[Wi.rp q, ci 32] u fun e w' => ∃ s : List UInt8, s.length ≤ 32 ∧ e = .returned (.string ⟨s.toArray⟩) ∧ RS W g q 25 b (p ++ Wi.rawS s) c w' := fun W g q p c u h => (text_st q b p u h.1).mono fun _ _ ⟨s, z, a, b, c⟩ => ⟨s, z, a, h.next b c⟩
  have kI : ∀ (W : World) (g q : Nat) (p : List UInt8) (c : Array Value) (u : World), RS W g q 25 b p c u → Calls Tryz.prog 10 #[Wi.rp q] u fun e w' => ∃ (l : List Ty.It) (ao : Option Addr) (cap : Nat), l.length ≤ 64 ∧ (∀ i ∈ l, Rdd i) ∧ e = .returned (.slice ao l.length cap) ∧ (∀ w'', Fr (fun k => k < u.heap.size) w' w'' → Ty.ItL w'' ao cap l) ∧ RS W g q 25 b (p ++ (Wi.i31 (l.length : Int) ++ (l.map itemB).flatten)) c w' := fun W g q p c u h => (takeItems_st q b p u h.1).mono fun _ _ ⟨l, ao, cap, z1, z2, a, b, c, d⟩ => ⟨l, ao, cap, z1, z2, a, b, h.next c d⟩
  have kF : ∀ (nm : List UInt8) (l : List Ty.It) (ao : Option Addr) (cap : Nat) (u : World), nm.length ≤ 32 → (∀ i ∈ l, Rdd i) → Ty.ItL u ao cap l → Calls Tryz.prog 12 #[.agg #[ct nm, .slice ao l.length cap]] u fun e w' => e = .returned (ci (Ty.rightF ⟨nm, l⟩)) ∧ Fr FN u w' := fun nm l ao cap u hn hl h => Ty.rightIface_any ⟨nm, l⟩ (.agg #[ct nm, .slice ao l.length cap]) u ⟨ao, cap, rfl, h⟩ (by unfold Ty.OkN; simp only; omega) (fun i hi => (hl i hi).ok)
  have kX := fun c => is_any c
  have hVH : Hidden (V = w.alloc zIf) := hV
  have fwVH : Hidden (Fr FN w V) := fwV
  have hVzH : Hidden (V.heap[w.heap.size]? = some zIf) := hVz
  clear hs hlen hV fwV hVz
  go_enter Tryz.func4, Tryz.ntmps4
  go_wp2_with fail
  rw [← (show V = _ from hVH)]
  go_at_call 8
  refine Calls.mono kR ?_
  rintro e w1 ⟨q, rfl, rd1, hq1, f1⟩
  have o1 : RS w1 w1.heap.size q 25 b [] #[.string ⟨#[]⟩, .slice none 0 0] (w1.alloc zIf) := ⟨Or.inl ⟨b, rfl, rd1.later (to_wi (Fr.alloc FN _ _))⟩, alloc_new _ _, Fr.alloc _ _ _, rd1.lt, Nat.le_refl _⟩
  go_wp2_with fail
  go_at_call 9
  refine (kT _ _ _ _ _ _ o1).mono ?_
  rintro e w2 ⟨nm, hnm, rfl, h2⟩
  have p0 := Ty.frozen_row h2.2.1 0
  obtain ⟨a0, a1⟩ := Ty.box2 h2.2.1
  go_wp2_with fail
  have h2' : RS w1 w1.heap.size q 25 b _ #[ct nm, .slice none 0 0] (w2.setCell ⟨w1.heap.size, 0, none⟩ (ct nm)) := h2.put 0 (ct nm)
  go_at_call 10
  refine (kI _ _ _ _ _ _ h2').mono ?_
  rintro e w3 ⟨l, ia, ic, hl64, hrdd, rfl, hit, h3⟩
  clear p0 a0 a1
  have p1 := Ty.frozen_row h3.2.1 1
  obtain ⟨a0, a1⟩ := Ty.box2 h3.2.1
  have h3' : RS w1 w1.heap.size q 25 b ([] ++ Wi.rawS nm ++ (Wi.i31 (l.length : Int) ++ (l.map itemB).flatten)) #[ct nm, .slice ia l.length ic] (w3.setCell ⟨w1.heap.size, 1, none⟩ (.slice ia l.length ic)) := h3.put 1 _
  have epre : [] ++ Wi.rawS nm ++ (Wi.i31 (l.length : Int) ++ (l.map itemB).flatten) = encS ⟨nm, l⟩ := by unfold encS; simp
  rw [epre] at h3'
  have hg2 : w1.heap.size < w2.heap.size := lt_of_heap h2.2.1
  have hitA : Ty.ItL (w3.setCell ⟨w1.heap.size, 1, none⟩ (.slice ia l.length ic)) ia ic l := hit _ ((Fr.setCell w3 ⟨w1.heap.size, 1, none⟩ _).mono fun k _ e => by have e : k = w1.heap.size := e; show k < (w2.setCell _ _).heap.size; simp; omega)
  have hitW : Hidden (∀ w'', Fr (fun k => k < w2.heap.size) w3 w'' → Ty.ItL w'' ia ic l) := fun w'' h => hit w'' (h.mono fun k _ e => by simpa using e)
  have hg2H : Hidden (w1.heap.size < w2.heap.size) := hg2
  have hq2H : Hidden (q < w1.heap.size) := rd1.lt
  have kF3 := kF nm l ia ic _ hnm hrdd hitA
  have h3H : Hidden (RS w1 w1.heap.size q 25 b (encS ⟨nm, l⟩) #[ct nm, .slice ia l.length ic] (w3.setCell ⟨w1.heap.size, 1, none⟩ (.slice ia l.length ic))) := h3'
  have hmore : Hidden ((V.heap.size ≤ q ∧ Fr FN V w1) ∧ nm.length ≤ 32 ∧ ∀ i ∈ l, Rdd i) := ⟨⟨hq1, of_wi f1⟩, hnm, hrdd⟩
  obtain ⟨c0, c1⟩ := Ty.box2 h3'.2.1
  clear h2 h2' h3 h3' o1 kT kI kR hit rd1 hitA hg2 hq1 f1 kF epre hnm hrdd
  obtain ⟨r, hr⟩ : ∃ r, Ty.rightF ⟨nm, l⟩ = r := ⟨_, rfl⟩
  rw [hr] at kF3
  have hrH : Hidden (Ty.rightF ⟨nm, l⟩ = r) := hr
  clear hr
  go_wp2_with fail
  go_at_call 12
  refine Calls.mono kF3 ?_
  rintro e w4 ⟨rfl, f4⟩
  have st4 : Ste w4 q b (encS ⟨nm, l⟩) := (show RS w1 _ q _ b _ _ _ from h3H).1.later f4
  have b4 : w4.heap[w1.heap.size]? = some (.cells #[ct nm, .slice ia l.length ic] 25 (0, 0)) := f4.heap (show RS w1 _ q _ b _ _ _ from h3H).2.1 (fun f => f)
  have hz4 : w4.heap[w.heap.size]? = some zIf := by
    obtain ⟨⟨q1, q2⟩, _⟩ := (show (V.heap.size ≤ q ∧ Fr FN V w1) ∧ _ from hmore)
    have hz : w.heap.size < V.heap.size := lt_of_heap (show V.heap[w.heap.size]? = some zIf from hVzH)
    exact f4.heap ((show RS w1 _ q _ b _ _ _ from h3H).2.2.1.heap (q2.heap (show V.heap[w.heap.size]? = some zIf from hVzH) (fun f => f)) (fun e => by have e : w.heap.size = q := e; omega)) (fun f => f)
  have fw4 : Fr FN w w4 := by
    obtain ⟨⟨q1, q2⟩, _⟩ := (show (V.heap.size ≤ q ∧ Fr FN V w1) ∧ _ from hmore)
    have hz : w.heap.size < V.heap.size := lt_of_heap (show V.heap[w.heap.size]? = some zIf from hVzH)
    exact (((show Fr FN w V from fwVH).same q2).over (show RS w1 _ q _ b _ _ _ from h3H).2.2.1 (fun k e => by have e : k = q := e; omega)).same f4
  have fr34 : Fr (fun k => k < w2.heap.size) w3 w4 := Fr.same ((Fr.setCell w3 ⟨w1.heap.size, 1, none⟩ (.slice ia l.length ic)).mono fun k _ e => by
    have e : k = w1.heap.size := e
    have h2 : w1.heap.size < w2.heap.size := hg2H
    show k < w2.heap.size
    omega) (f4.mono fun _ _ f => f.elim)
  have hwq : w.heap.size < q := by
    obtain ⟨⟨q1, q2⟩, _⟩ := (show (V.heap.size ≤ q ∧ Fr FN V w1) ∧ _ from hmore)
    have hz : w.heap.size < V.heap.size := lt_of_heap (show V.heap[w.heap.size]? = some zIf from hVzH)
    omega
  have hall : Hidden (w4.heap[w.heap.size]? = some zIf ∧ Fr FN w w4 ∧ Fr (fun k => k < w2.heap.size) w3 w4 ∧ w.heap.size < q) := ⟨hz4, fw4, fr34, hwq⟩
  by_cases h0 : r = 0
  · subst h0
    have kf := fail_zero q w4
    have kd := done_st q b _ w4 st4
    obtain ⟨d0, d1⟩ := Ty.box2 b4
    have z0 := Ty.frozen_row hz4 0
    have z1 := Ty.frozen_row hz4 1
    obtain ⟨y0, y1⟩ := Ty.box2 hz4
    clear st4 b4 hz4 fw4 fr34 hwq f4 a0 a1 c0 c1 kF3
    go_wp2_with (first
      | (go_at_call 11; refine Calls.mono kf ?_; rintro e w5 ⟨rfl, rfl⟩)
      | (go_at_call 14; refine Calls.mono kd ?_; rintro e w5 ⟨cd, rfl, hcd, rfl⟩; have kX2 := kX cd)
      | (go_at_call 13; refine Calls.mono (kX2 _) ?_; rintro e w6 ⟨rfl, rfl⟩; cases hcc : (cd == 0)))
    · obtain ⟨hz4, fw4, fr34, hwq⟩ := (show _ ∧ _ ∧ _ ∧ _ from hall)
      exact post_cell2 rfl rfl _ _ rfl (run_loadVar_row _ _ _ _ _ _ _ (two_put hz4 _ _) Tryz.underlying25 rfl size_iface) ⟨⟨[], []⟩, none, 0, 50, rfl, ⟨by simp, by simp [maxLen], fun _ => rfl, Or.inl rfl⟩, Or.inr ⟨rfl, rfl⟩, fw4.over (two_at _ _ _ _) (fun k e => by have e : k = w.heap.size := e; omega)⟩
    · obtain ⟨hz4, fw4, fr34, hwq⟩ := (show _ ∧ _ ∧ _ ∧ _ from hall)
      obtain ⟨_, hnm, hrdd⟩ := (show (V.heap.size ≤ q ∧ Fr FN V w1) ∧ _ from hmore)
      have hb := hcd (by simpa using hcc)
      refine post_cell2 rfl rfl _ _ rfl (run_loadVar_row _ _ _ _ _ _ _ (two_put hz4 _ _) Tryz.underlying25 rfl size_iface) ⟨⟨nm, l⟩, ia, ic, 0, rfl, (show ∀ w'', _ → _ from hitW) _ ?_, Or.inl ⟨rfl, hrH, hb.symm, by unfold Ty.OkN; simp only; omega, fun i hi => (hrdd i hi).ok⟩, fw4.over (two_at _ _ _ _) (fun k e => by have e : k = w.heap.size := e; omega)⟩
      refine fr34.same ((two_at _ w.heap.size (ct nm) (.slice ia l.length ic)).mono fun k _ e => ?_)
      have e : k = w.heap.size := e
      have h2 : w1.heap.size < w2.heap.size := hg2H
      have h3 : q < w1.heap.size := hq2H
      show k < w2.heap.size
      omega
  · have h0b : (r == 0) = false := by simpa using h0
    have kf := fail_any q b _ r w4 h0b st4
    clear st4 hz4 fw4 fr34 hwq f4 a0 a1 c0 c1 kF3 h0 b4
    go_wp2_with fail
    go_at_call 11
    refine Calls.mono kf ?_
    rintro e w5 ⟨rfl, ⟨cd, hcd, rd5⟩, f5⟩
    have kd := Wi.done_err (Wi.rp q) cd w5 hcd (Wi.err_some q [] cd w5 rd5)
    have kX2 := kX cd
    rw [hcd] at kX2
    obtain ⟨hz4, fw4, fr34, hwq⟩ := (show _ ∧ _ ∧ _ ∧ _ from hall)
    have hz5 := f5.heap hz4 (fun e => by have e : w.heap.size = q := e; omega)
    have fw5 := fw4.over f5 (fun k e => by have e : k = q := e; omega)
    have z0 := Ty.frozen_row hz5 0
    have z1 := Ty.frozen_row hz5 1
    obtain ⟨y0, y1⟩ := Ty.box2 hz5
    have hall5 : Hidden (w5.heap[w.heap.size]? = some zIf ∧ Fr FN w w5) := ⟨hz5, fw5⟩
    clear kf rd5 f5 hz4 fw4 fr34 hwq hz5 fw5
    go_wp2_with (first
      | (go_at_call 14; refine Calls.mono kd ?_; rintro e w6 ⟨rfl, rfl⟩)
      | (go_at_call 13; refine Calls.mono (kX2 _) ?_; rintro e w6 ⟨rfl, rfl⟩))
    obtain ⟨hz5, fw5⟩ := (show _ ∧ _ from hall5)
    exact post_cell2 rfl rfl _ _ rfl (run_loadVar_row _ _ _ _ _ _ _ (two_put hz5 _ _) Tryz.underlying25 rfl size_iface) ⟨⟨[], []⟩, none, 0, 50, rfl, ⟨by simp, by simp [maxLen], fun _ => rfl, Or.inl rfl⟩, Or.inr ⟨rfl, rfl⟩, fw5.over (two_at _ _ _ _) (fun k e => by have e : k = w.heap.size := e; omega)⟩
end Go.Proofs.YtakkiipkmogagaaGreat.Fo.Ic
