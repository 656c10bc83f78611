/- The document's numeral, whole. -/
import Derived.Test.YteijjaabngkbjaaGreatDoorLxR5
namespace Go.Proofs.YteijjaabngkbjaaGreatDoor
open Go.RowKit Lx
set_option linter.unusedSimpArgs false
set_option linter.unusedVariables false

theorem runD_all (l : By) (h : ∀ c ∈ l, dgt c = true) : I.runD l = l.length := by
  induction l with
  | nil => rfl
  | cons c r ih =>
    have hc : I.isd c = true := h c (by simp)
    rw [I.runD, if_pos hc, ih (fun d hd => h d (by simp [hd]))]
    rfl
theorem noughts_props : ∀ (l : By), l ≠ [] → (∀ c ∈ l, dgt c = true) → noughts l ≠ [] ∧ (∀ c ∈ noughts l, dgt c = true) ∧ I.numD (noughts l) = I.numD l ∧ ¬ (1 < (noughts l).length ∧ (noughts l).head? = some 48)
  | [], h, _ => absurd rfl h
  | [c], _, hd => ⟨by simp [noughts], hd, rfl, by simp [noughts]⟩
  | c :: d :: r, _, hd => by
    unfold noughts
    split
    · rename_i hc
      obtain ⟨h1, h2, h3, h4⟩ := noughts_props (d :: r) (by simp) (fun x hx => hd x (by simp [hx]))
      refine ⟨h1, h2, ?_, h4⟩
      rw [h3, hc]
      simp [I.numD, I.stepD]
    · rename_i hc
      exact ⟨by simp, hd, rfl, fun h => hc (by simpa using h.2)⟩
theorem nat_num (x : By) (h0 : x ≠ []) (hd : ∀ c ∈ x, dgt c = true) : I.natS (noughts x) = if I.numD x ≤ 9223372036854775807 then ((I.numD x : Int), 0, 0) else (0, 0, 80) := by
  obtain ⟨h1, h2, h3, h4⟩ := noughts_props x h0 hd
  unfold I.natS I.amtS
  rw [runD_all _ h2, if_neg (by omega), if_neg (fun e => h1 (List.eq_nil_of_length_eq_zero e)), if_neg h4, h3]
  by_cases h : I.numD x ≤ 9223372036854775807
  · rw [if_neg (by omega), if_pos h]
  · rw [if_pos (by omega), if_neg h]
theorem take_run (p : UInt8 → Bool) (l : By) : ∀ c ∈ l.take (run p l), p c = true := by
  have h := run_all p (l.take (run p l)) (l.drop (run p l)) (by rw [List.take_append_drop, List.length_take]; have := run_le p l; omega)
  exact h.1
theorem run_stopped (p : UInt8 → Bool) (l : By) (c : UInt8) (h : l[run p l]? = some c) : p c = false := by
  have hh := run_all p (l.take (run p l)) (l.drop (run p l)) (by rw [List.take_append_drop, List.length_take]; have := run_le p l; omega)
  exact hh.2 c (by rw [drop_zero_get]; exact h)
theorem parse_err (x : By) : (F.parseS x).2 = 0 ∨ (F.parseS x).2 = 10 := by
  unfold F.parseS
  split
  · exact Or.inl rfl
  · exact Or.inr rfl

/-- What comes of a token, of the document. -/
def RTok (l : By) (i k n : Nat) (r : Ending) : Prop :=
  ∃ t b e : Int, r = .returned (.tuple #[.agg #[.int .i64 (k : Int), .string ⟨((l.drop i).take n).toArray⟩, .int .i64 t, .int .u64 b, .int .i64 (i : Int)], .int .i64 e]) ∧
    e = (valS k ((l.drop i).take n)).2.2 ∧ (e = 0 → t = (valS k ((l.drop i).take n)).1 ∧ b = (valS k ((l.drop i).take n)).2.1)
theorem numeral_any (l : By) (i k n : Nat) (c : UInt8) (hc : l[i]? = some c) (hd : dgt c = true) (hl : l.length ≤ 4096) (h : numLen (l.drop i) = (k, n)) (w : World) :
    Calls Tryz.prog 95 #[.string ⟨l.toArray⟩, .int .i64 (i : Int)] w fun r w' => RTok l i k n r ∧ Fr (fun _ => False) w w' := by
  have hi : i < l.length := (List.getElem?_eq_some_iff.1 hc).1
  have ed := drop_at hc
  unfold numLen at h
  by_cases e1 : (l.drop i).take 2 = [48, 120]
  · rw [if_pos e1] at h
    simp only [Prod.mk.injEq, List.drop_drop] at h
    obtain ⟨rfl, h⟩ := h
    have hlen : i + 2 ≤ l.length := by
      have := congrArg List.length e1
      simp only [List.length_take, List.length_drop, List.length_cons, List.length_nil] at this
      omega
    obtain ⟨d, hdd⟩ : ∃ d, l[i + 1]? = some d := ⟨l[i + 1]'(by omega), List.getElem?_eq_getElem (by omega)⟩
    have e2 := e1
    rw [ed, drop_at hdd] at e2
    simp only [List.take_succ_cons, List.take_zero, List.cons.injEq, and_true] at e2
    obtain ⟨rfl, rfl⟩ := e2
    have hr := run_le hxB (l.drop (i + 2))
    rw [List.length_drop] at hr
    have hx4 : ((l.drop i).take n).length ≤ 4096 := by rw [List.length_take, List.length_drop]; omega
    have hxt : ((l.drop i).take n).take 2 = [48, 120] := by rw [List.take_take, show min 2 n = 2 by omega, e1]
    have := numeral_hex l ((l.drop i).take n) i (i + n) (F.parseS ((l.drop i).take n)).1 (F.parseS ((l.drop i).take n)).2 hlen (by omega) hl hc hdd (by show _ = _; omega) (by omega) (by show _ = _; rw [show i + n - i = n by omega]) rfl hx4 w
    refine this.mono fun r w' ⟨h1, h2⟩ => ⟨⟨_, _, _, h1, ?_, ?_⟩, h2⟩
    · unfold valS
      simp only [Nat.reduceEqDiff, if_false, if_true, if_pos hxt]
      rcases parse_err ((l.drop i).take n) with he | he
      · simp only [he, if_true]
      · simp only [he, Int.reduceEq, if_false]
    · intro he
      unfold valS
      simp only [Nat.reduceEqDiff, if_false, if_true, if_pos hxt]
      rcases parse_err ((l.drop i).take n) with he2 | he2
      · simp only [he2, if_true, and_self]
      · rw [he2] at he
        simp at he
  · rw [if_neg e1] at h
    have hr := run_le dgt (l.drop i)
    rw [List.length_drop] at hr
    have hr1 : 1 ≤ run dgt (l.drop i) := by rw [ed, run_cons, if_pos hd]; omega
    obtain ⟨a, ha⟩ : ∃ a, i + run dgt (l.drop i) = a := ⟨_, rfl⟩
    have e2 : (l.drop i)[run dgt (l.drop i)]? = l[a]? := by rw [List.getElem?_drop, ha]
    rw [e2, List.drop_drop, show i + (run dgt (l.drop i) + 1) = a + 1 by omega] at h
    have hn0 := no0x l i hi e1
    by_cases e3 : l[a]? = some 46 ∧ run dgt (l.drop (a + 1)) ≠ 0
    · rw [if_pos e3] at h
      simp only [Prod.mk.injEq] at h
      obtain ⟨rfl, h⟩ := h
      have hr2 := run_le dgt (l.drop (a + 1))
      rw [List.length_drop] at hr2
      obtain ⟨d, hdd⟩ : ∃ d, l[a + 1]? = some d := ⟨l[a + 1]'(by omega), List.getElem?_eq_getElem (by omega)⟩
      have hdg : dgt d = true := by
        have := e3.2
        rw [drop_at hdd, run_cons] at this
        cases hdg : dgt d
        · rw [hdg] at this; simp at this
        · rfl
      have kd := rdigit_walk d.toNat _ rfl
      rw [(class_nat d).2.1, hdg] at kd
      have hx4 : ((l.drop i).take n).length ≤ 4096 := by rw [List.length_take, List.length_drop]; omega
      have hxt : ¬ ((l.drop i).take n).take 2 = [48, 120] := by rw [List.take_take, show min 2 n = 2 by omega]; exact e1
      have := numeral_flt l ((l.drop i).take n) i a (i + n) d.toNat (F.litS ((l.drop i).take n)).1 (F.litS ((l.drop i).take n)).2 hi (by omega) (by omega) hl hn0 ha (by omega) (by omega) e3.1 (str_index l a 46 e3.1) (index_succ l a d hdd) kd (by show _ = _; omega) (by show _ = _; rw [show i + n - i = n by omega]) rfl hx4 w
      refine this.mono fun r w' ⟨h1, h2⟩ => ⟨⟨_, _, _, h1, ?_, ?_⟩, h2⟩
      · unfold valS
        simp only [Nat.reduceEqDiff, if_false, if_true, if_neg hxt]
        split <;> simp_all
      · intro he
        unfold valS
        simp only [Nat.reduceEqDiff, if_false, if_true, if_neg hxt, he, and_self]
    · rw [if_neg e3] at h
      simp only [Prod.mk.injEq] at h
      obtain ⟨rfl, h⟩ := h
      have hx4 : ((l.drop i).take n).length ≤ 4096 := by rw [List.length_take, List.length_drop]; omega
      have hdx : ∀ c ∈ (l.drop i).take n, dgt c = true := by rw [← h]; exact take_run dgt (l.drop i)
      have hx0 : (l.drop i).take n ≠ [] := by
        intro e
        have := congrArg List.length e
        rw [List.length_take, List.length_drop] at this
        simp at this
        omega
      have hz : ∀ c, l[a]? = some c → dgt c = false := fun c hc' => run_stopped dgt (l.drop i) c (by rw [e2]; exact hc')
      have := numeral_int l ((l.drop i).take n) i a (numR ((l.drop i).take n)).1 (numR ((l.drop i).take n)).2 hi (by omega) hl hn0 ha (by omega) (noPt l a hz e3) (by show _ = _; rw [show a - i = n by omega]) hdx rfl hx4 w
      refine this.mono fun r w' ⟨h1, h2⟩ => ⟨⟨_, _, _, h1, ?_, ?_⟩, h2⟩
      · unfold valS numR
        simp only [Nat.reduceEqDiff, if_false, if_true]
        rw [nat_num _ hx0 hdx]
        by_cases hb : I.numD ((l.drop i).take n) ≤ 9223372036854775807
        · simp [hb]
        · simp [hb]
      · intro he
        unfold valS numR at *
        simp only [Nat.reduceEqDiff, if_false, if_true] at *
        rw [nat_num _ hx0 hdx]
        by_cases hb : I.numD ((l.drop i).take n) ≤ 9223372036854775807
        · simp [hb]
        · simp [hb] at he
end Go.Proofs.YteijjaabngkbjaaGreatDoor
