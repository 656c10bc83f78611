/- Texts of ours, in one. -/
import Derived.Test.YtoiglopilpoafaaGreatDoorPk1
import Derived.Recover
import Derived.Laws.Bits64b
import Derived.Laws.IdiomStrings
namespace Go.Proofs.YtoiglopilpoafaaGreatDoor.Wi
open Go.RowKit
set_option linter.unusedSimpArgs false
set_option linter.unusedVariables false
set_option maxRecDepth 20000

/-- A Reader at block q: what is left, and its error. -/
def Rd (w : World) (q : Nat) (rest : List UInt8) (e : Int) : Prop :=
  ∃ v, w.heap[q]? = some (.cells #[v, .int .i64 e] 120 (0, 0)) ∧ Sl w v (bc rest) ∧ ∀ k, v.ownBlock = some k → k < q
theorem Rd.keep {S : Nat → Prop} {w w' : World} {q : Nat} {rest : List UInt8} {e : Int} (h : Rd w q rest e) (hf : Fr S w w') (hq : ¬ S q) (hv : ∀ v k, w.heap[q]? = some (.cells #[v, .int .i64 e] 120 (0, 0)) → v.ownBlock = some k → ¬ S k) : Rd w' q rest e := by
  obtain ⟨v, h1, h2, h3⟩ := h
  exact ⟨v, hf.heap h1 hq, h2.keep hf (fun k hk => hv v k h1 hk), h3⟩

abbrev rp (q : Nat) : Value := .pointer (some ⟨q, 0, none⟩)

theorem Sl.drop {w : World} {ao : Option Addr} {len cap : Nat} {xs : List Value} (h : Sl w (.slice ao len cap) xs) (n : Nat) (hn : n ≤ len) : Sl w (.slice (if cap = n then ao else ao.map fun a => a.add n) (len - n) (cap - n)) (xs.drop n) := by
  obtain ⟨ao', cap', e, h1, h2, h3, h4⟩ := h
  cases e
  refine ⟨_, _, by rw [List.length_drop], by rw [List.length_drop]; omega, by omega, ?_, ?_⟩
  · intro h
    split at h
    · omega
    · have := h3 (by simpa using h)
      omega
  · by_cases hx : xs.drop n = []
    · exact Or.inl hx
    · right
      rcases h4 with rfl | ⟨b, off, rfl, hc⟩
      · simp at hx
      · have hlt : n < xs.length := by
          rcases Nat.lt_or_ge n xs.length with h | h
          · exact h
          · exact absurd (List.drop_eq_nil_of_le h) hx
        rw [if_neg (by omega)]
        refine ⟨b, off + n, by simp [Addr.add_lit], fun i x hi => ?_⟩
        rw [List.getElem?_drop] at hi
        rw [Nat.add_assoc]
        exact hc _ x hi
theorem Sl.take {w : World} {ao : Option Addr} {len cap : Nat} {xs : List Value} (h : Sl w (.slice ao len cap) xs) (n : Nat) (hn : n ≤ len) : Sl w (.slice ao n cap) (xs.take n) := by
  obtain ⟨ao', cap', e, h1, h2, h3, h4⟩ := h
  cases e
  refine ⟨ao, cap, by rw [List.length_take]; congr 1; omega, by rw [List.length_take]; omega, h2, h3, ?_⟩
  rcases h4 with rfl | ⟨b, off, rfl, hc⟩
  · exact Or.inl (by simp)
  · refine Or.inr ⟨b, off, rfl, fun i x hi => ?_⟩
    rw [List.getElem?_take] at hi
    split at hi
    · exact hc i x hi
    · cases hi

theorem ownBlock_slice (ao : Option Addr) (l c : Nat) : (Value.slice ao l c).ownBlock = ao.map (·.block) := by cases ao <;> rfl
theorem add_block (a : Addr) (n : Nat) : (a.add n).block = a.block := by
  unfold Addr.add
  split <;> rfl
theorem bc_take (l : List UInt8) (n : Nat) : bc (l.take n) = (bc l).take n := by simp [bc]
theorem bc_drop (l : List UInt8) (n : Nat) : bc (l.drop n) = (bc l).drop n := by simp [bc]

theorem rd_set {w : World} {q : Nat} {v : Value} {e : Int} {rest : List UInt8} {u : Value} (hq : w.heap[q]? = some (.cells #[u, .int .i64 e] 120 (0, 0))) (hs : Sl w v (bc rest)) (hne : ∀ k, v.ownBlock = some k → k < q) :
    Rd (w.setCell ⟨q, 0, none⟩ v) q rest e ∧ Fr (fun k => k = q) w (w.setCell ⟨q, 0, none⟩ v) := by
  have hf := Fr.setCell w ⟨q, 0, none⟩ v
  refine ⟨⟨v, ?_, hs.keep hf (fun k hk e => by have := hne k hk; have : k = q := e; omega), hne⟩, hf⟩
  have := heap_setCell_same w q 0 #[u, .int .i64 e] 120 v hq
  simpa using this

theorem take_end {w : World} {q : Nat} {ao : Option Addr} {cap n : Nat} {rest : List UInt8} {v2 : Value} (hs : Sl w (.slice ao rest.length cap) (bc rest)) (hq : w.heap[q]? = some (.cells #[.slice ao rest.length cap, .int .i64 0] 120 (0, 0)))
    (hne : ∀ k, (Value.slice ao rest.length cap).ownBlock = some k → k < q) (hn : n ≤ rest.length) (h2 : v2 = .slice (if cap = n then ao else ao.map fun x => x.add n) (rest.length - n) (cap - n)) :
    Sl (w.setCell ⟨q, 0, none⟩ v2) (.slice ao n cap) (bc (rest.take n)) ∧ Rd (w.setCell ⟨q, 0, none⟩ v2) q (rest.drop n) 0 ∧ Fr (fun k => k = q) w (w.setCell ⟨q, 0, none⟩ v2) := by
  have hd := hs.drop n hn
  rw [← bc_drop, ← h2] at hd
  have ht := hs.take n hn
  rw [← bc_take] at ht
  have hne2 : ∀ k, v2.ownBlock = some k → k < q := by
    intro k hk
    refine hne k ?_
    rw [h2] at hk
    rw [ownBlock_slice] at hk ⊢
    split at hk
    · exact hk
    · cases ao with
      | none => simp at hk
      | some a => simpa [add_block] using hk
  obtain ⟨hr, hf⟩ := rd_set hq hd hne2
  refine ⟨ht.keep hf (fun k hk e => by have := hne k (by rw [ownBlock_slice] at hk ⊢; exact hk); have : k = q := e; omega), hr, hf⟩

set_option maxHeartbeats 400000 in
theorem take_out (q : Nat) (rest : List UInt8) (n : Int) (w : World) (hr : Rd w q rest 0) (hn : (rest.length : Int) < n) :
    Calls Tryz.prog 99 #[rp q, .int .i64 n] w fun e w' => e = .panicked [{ v := .iface 153 (.agg #[.int .i64 40]), recovered := false }] ∧ w = w' := by
  obtain ⟨v, h1, ⟨ao, cap, rfl, a1, a2, a3, a4⟩, h3⟩ := hr
  rw [bc_length] at *
  have hcell : w.cell? ⟨q, 0, none⟩ = some (.slice ao rest.length cap) := by rw [cell_of_row w q 0 _ 120 (0, 0) h1]; rfl
  unfold maxLen at a2
  clear a3 a4 h1 h3
  go_enter Tryz.func99, Tryz.ntmps99
  go_wp2
  exact ⟨rfl, rfl, rfl⟩

set_option maxHeartbeats 400000 in
theorem take_in (q : Nat) (rest : List UInt8) (n : Nat) (w : World) (hr : Rd w q rest 0) (hn : n ≤ rest.length) :
    Calls Tryz.prog 99 #[rp q, .int .i64 (n : Int)] w fun e w' => ∃ v, e = .returned v ∧ Sl w' v (bc (rest.take n)) ∧ Rd w' q (rest.drop n) 0 ∧ Fr (fun k => k = q) w w' := by
  obtain ⟨v, h1, ⟨ao, cap, rfl, a1, a2, a3, a4⟩, h3⟩ := hr
  rw [bc_length] at *
  have hcell : w.cell? ⟨q, 0, none⟩ = some (.slice ao rest.length cap) := by rw [cell_of_row w q 0 _ 120 (0, 0) h1]; rfl
  have hfroz : w.frozen? ⟨q, 0, none⟩ = false := by simp [World.frozen?, h1]
  unfold maxLen at a2
  have hH : Hidden (Sl w (.slice ao rest.length cap) (bc rest) ∧ w.heap[q]? = some (.cells #[.slice ao rest.length cap, .int .i64 0] 120 (0, 0)) ∧ ∀ k, (Value.slice ao rest.length cap).ownBlock = some k → k < q) := ⟨⟨ao, cap, by rw [bc_length], by rw [bc_length]; exact a1, a2, a3, a4⟩, h1, h3⟩
  clear a3 a4 h1 h3
  go_enter Tryz.func99, Tryz.ntmps99
  go_wp2
  · go_ret
    refine ⟨_, rfl, ?_⟩
    obtain ⟨hs, hh, hne⟩ := hH
    subst h
    have := take_end hs hh hne hn rfl
    rw [if_pos rfl, Nat.sub_self] at this
    exact this
  · go_ret
    refine ⟨_, rfl, ?_⟩
    obtain ⟨hs, hh, hne⟩ := hH
    have := take_end hs hh hne hn rfl
    rw [if_neg h] at this
    exact this
end Go.Proofs.YtoiglopilpoafaaGreatDoor.Wi

namespace Go.Proofs.YtoiglopilpoafaaGreatDoor.Wi
open Go.RowKit
set_option linter.unusedSimpArgs false
set_option linter.unusedVariables false
set_option maxRecDepth 20000

/-- The number that bytes are, the highest first. -/
def numS (l : List UInt8) : Nat := l.foldl (fun n c => n * 256 + c.toNat) 0
theorem numS_snoc (l : List UInt8) (c : UInt8) : numS (l ++ [c]) = numS l * 256 + c.toNat := by simp [numS]
theorem fold_lt (l : List UInt8) : ∀ a : Nat, l.foldl (fun n c => n * 256 + c.toNat) a < (a + 1) * 256 ^ l.length := by
  induction l with
  | nil => intro a; simp
  | cons c r ih =>
    intro a
    have h := ih (a * 256 + c.toNat)
    have hc := c.toNat_lt
    simp only [List.foldl_cons, List.length_cons, Nat.pow_succ]
    have h2 : (a * 256 + c.toNat + 1) * 256 ^ r.length ≤ ((a + 1) * 256) * 256 ^ r.length := Nat.mul_le_mul_right _ (by omega)
    have h3 : ((a + 1) * 256) * 256 ^ r.length = (a + 1) * (256 ^ r.length * 256) := by rw [Nat.mul_assoc, Nat.mul_comm 256]
    omega
theorem numS_lt (l : List UInt8) : numS l < 256 ^ l.length := by
  have := fold_lt l 0
  simpa [numS] using this
theorem or_byte (A : Nat) (x : UInt8) (h : A < 72057594037927936) : bits .or .u64 ((A : Int) * 256) (IntKind.u64.wrap (x.toNat : Int)) = ((A * 256 + x.toNat : Nat) : Int) := by
  have hx := x.toNat_lt
  have hw : IntKind.u64.wrap (x.toNat : Int) = (x.toNat : Int) := by rw [IntKind.wrap_u64]; omega
  rw [hw]
  have := bits_or_u64_nat (A * 256) x.toNat (by omega) (by omega)
  rw [show ((A * 256 : Nat) : Int) = (A : Int) * 256 by omega] at this
  rw [this]
  congr 1
  have h8 : x.toNat < 2 ^ 8 := by omega
  have := Nat.two_pow_add_eq_or_of_lt h8 A
  rw [show 2 ^ 8 * A = A * 256 by omega] at this
  exact this.symm

def giveUp (code : Int) : Ending := .panicked [{ v := .iface 153 (.agg #[.int .i64 code]), recovered := false }]

theorem number_out (q : Nat) (rest : List UInt8) (n : Int) (w : World) (hr : Rd w q rest 0) (hn : (rest.length : Int) < n) :
    Calls Tryz.prog 77 #[rp q, .int .i64 n] w fun e w' => e = giveUp 40 ∧ w = w' := by
  have kt := take_out q rest n w hr hn
  clear hr hn
  go_enter Tryz.func77, Tryz.ntmps77
  go_wp2_with (go_at_call 99; refine kt.mono ?_; rintro e w' ⟨rfl, rfl⟩)
  exact ⟨rfl, rfl, rfl⟩

set_option maxHeartbeats 400000 in
theorem number_in (q : Nat) (rest : List UInt8) (n : Nat) (w : World) (hr : Rd w q rest 0) (hn : n ≤ rest.length) (h8 : n ≤ 8) :
    Calls Tryz.prog 77 #[rp q, .int .i64 (n : Int)] w fun e w' => e = .returned (.int .u64 (numS (rest.take n) : Int)) ∧ Rd w' q (rest.drop n) 0 ∧ Fr (fun k => k = q) w w' := by
  have kt := take_in q rest n w hr hn
  obtain ⟨l, hl⟩ : ∃ l, rest.take n = l := ⟨_, rfl⟩
  have hll : Hidden (l.length = n) := by
    show l.length = n
    rw [← hl, List.length_take]; omega
  rw [hl] at kt ⊢
  have kt2 : Calls Tryz.prog 99 #[rp q, .int .i64 (n : Int)] w fun e w' => ∃ ao cap, e = .returned (.slice ao n cap) ∧ Sl w' (.slice ao n cap) (bc l) ∧ Rd w' q (rest.drop n) 0 ∧ Fr (fun k => k = q) w w' := by
    refine kt.mono ?_
    rintro e w' ⟨v, rfl, h1, h2⟩
    obtain ⟨ao, cap, e1, _⟩ := id h1
    rw [bc_length, show l.length = n from hll] at e1
    subst e1
    exact ⟨_, _, rfl, h1, h2⟩
  clear kt hr hl
  go_enter Tryz.func77, Tryz.ntmps77
  go_wp2_with (go_at_call 99; refine kt2.mono ?_; rintro e w1 ⟨ao, cap, rfl, hs, hrd, hfr⟩)
  have hH : Hidden (Sl w1 (.slice ao n cap) (bc l) ∧ Rd w1 q (rest.drop n) 0 ∧ Fr (fun k => k = q) w w1) := ⟨hs, hrd, hfr⟩
  clear hs hrd hfr kt2
  go_loopg [5, 12] n (fun k nv iv wr => ∃ j : Nat, nv = .int .u64 (numS (l.take j) : Int) ∧ iv = .int .i64 (j : Int) ∧ j ≤ n ∧ k = n - j ∧ wr = w1)
  case atStart => exact ⟨0, by simp [numS], rfl, by omega, rfl, rfl⟩
  case round =>
    obtain ⟨j, rfl, rfl, hj, hk, rfl⟩ := hrel
    have hkH : Hidden (gk = n - j) := hk
    clear hk
    by_cases hjl : j < n
    · have hll' : l.length = n := hll
      obtain ⟨x, hx⟩ : ∃ x, l[j]? = some x := ⟨l[j], List.getElem?_eq_getElem (by omega)⟩
      obtain ⟨ao', cap', e1, a1, a2, a3, a4⟩ := hH.1
      have hA : Hidden (numS (l.take (j + 1)) = numS (l.take j) * 256 + x.toNat) := by
        rw [take_next hx, numS_snoc]; exact rfl
      have hlt : Hidden (numS (l.take j) < 256 ^ j) := by
        have := numS_lt (l.take j)
        rw [List.length_take] at this
        rw [Nat.min_eq_left (by omega)] at this
        exact this
      simp only [Value.slice.injEq] at e1
      obtain ⟨rfl, hbl, rfl⟩ := e1
      clear hbl
      rcases a4 with h4 | ⟨b, off, rfl, hc⟩
      · have : l = [] := by simpa [bc] using h4
        subst this
        simp at hx
      · have hcj : wr.cell? ⟨b, off + j, none⟩ = some (.int .u8 (x.toNat : Int)) := hc j _ (by simp [bc, hx])
        obtain ⟨A, hAe⟩ : ∃ A, numS (l.take j) = A := ⟨_, rfl⟩
        rw [hAe] at hA hlt ⊢
        have hA2 : A < 72057594037927936 := by
          have : A < 256 ^ j := hlt
          have : 256 ^ j ≤ 256 ^ 7 := Nat.pow_le_pow_right (by omega) (by omega)
          omega
        have e_or := or_byte A x hA2
        clear hx a1 a2 a3 hc hll' hAe
        go_wp2
        go_roundg (n - (j + 1))
        case measure =>
          have : gk = n - j := hkH
          omega
        case rel => exact ⟨j + 1, by rw [show numS (l.take (j + 1)) = A * 256 + x.toNat from hA]; simp, by go_num, by omega, rfl, rfl⟩
    · obtain rfl : j = n := by omega
      have hll' : l.length = j := hll
      have e : l.take j = l := by rw [← hll', List.take_length]
      rw [e]
      clear hll' e
      go_wp2
      go_ret
      exact ⟨rfl, hH.2⟩
end Go.Proofs.YtoiglopilpoafaaGreatDoor.Wi

namespace Go.Proofs.YtoiglopilpoafaaGreatDoor.Wi
open Go.RowKit
set_option linter.unusedSimpArgs false
set_option linter.unusedVariables false
set_option maxRecDepth 20000

theorem Rd.cells {w : World} {q : Nat} {rest : List UInt8} {e : Int} (h : Rd w q rest e) : ∃ ao cap, w.cell? ⟨q, 0, none⟩ = some (.slice ao rest.length cap) ∧ w.cell? ⟨q, 1, none⟩ = some (.int .i64 e) ∧ w.frozen? ⟨q, 0, none⟩ = false ∧ w.frozen? ⟨q, 1, none⟩ = false ∧ rest.length ≤ cap ∧ cap ≤ 9223372036854775807 := by
  obtain ⟨v, h1, ⟨ao, cap, rfl, a1, a2, a3, a4⟩, h3⟩ := h
  rw [bc_length] at *
  refine ⟨ao, cap, ?_, ?_, by simp [World.frozen?, h1], by simp [World.frozen?, h1], a1, by unfold maxLen at a2; omega⟩
  · rw [cell_of_row w q 0 _ 120 (0, 0) h1]; rfl
  · rw [cell_of_row w q 1 _ 120 (0, 0) h1]; rfl

theorem err_some (q : Nat) (rest : List UInt8) (c : Int) (w : World) (hr : Rd w q rest c) :
    Calls Tryz.prog 58 #[rp q] w fun e w' => e = .returned (.int .i64 c) ∧ w = w' := by
  obtain ⟨ao, cap, h0, h1, _⟩ := hr.cells
  clear hr
  go_enter Tryz.func58, Tryz.ntmps58
  go_wp2
  go_ret
  exact ⟨rfl, rfl⟩
theorem rd_fail {w : World} {q : Nat} {rest : List UInt8} {c : Int} (hr : Rd w q rest 0) : Rd ((w.setCell ⟨q, 1, none⟩ (.int .i64 c)).setCell ⟨q, 0, none⟩ (.slice none 0 0)) q [] c ∧ Fr (fun k => k = q) w ((w.setCell ⟨q, 1, none⟩ (.int .i64 c)).setCell ⟨q, 0, none⟩ (.slice none 0 0)) := by
  obtain ⟨v, h1, h2, h3⟩ := hr
  have e1 : (w.setCell ⟨q, 1, none⟩ (.int .i64 c)).heap[q]? = some (.cells #[v, .int .i64 c] 120 (0, 0)) := by
    have := heap_setCell_same w q 1 #[v, .int .i64 0] 120 (.int .i64 c) h1
    simpa using this
  obtain ⟨a, b⟩ := rd_set (rest := []) e1 (Sl.nil _) (fun k hk => by cases hk)
  exact ⟨a, (Fr.setCell w ⟨q, 1, none⟩ _).same b⟩

theorem fail_first (q : Nat) (rest : List UInt8) (c : Int) (w : World) (hr : Rd w q rest 0) (hc : (c == 0) = false) :
    Calls Tryz.prog 76 #[rp q, .int .i64 c] w fun e w' => e = .returned (.tuple #[]) ∧ Rd w' q [] c ∧ Fr (fun k => k = q) w w' := by
  obtain ⟨ao, cap, h0, h1, f0, f1, h2, h3⟩ := hr.cells
  have hf : Hidden _ := rd_fail (c := c) hr
  clear hr
  go_enter Tryz.func76, Tryz.ntmps76
  go_wp2
  go_end0
  exact ⟨rfl, hf⟩

/-- A frame that has given up. -/
def giving (c : Int) (done : Bool) : FrameMode := .panicking [{ v := .iface 153 (.agg #[.int .i64 c]), recovered := done }]

theorem assert_gave (v : Value) (w : World) : (Instr.typeAssert (.iface 153 v) 20 153 true).run Tryz.prog w = .ok (.tuple #[v, .bool true]) w := by kernel_rfl
end Go.Proofs.YtoiglopilpoafaaGreatDoor.Wi

namespace Go.Proofs.YtoiglopilpoafaaGreatDoor.Wi
open Go.RowKit
set_option linter.unusedSimpArgs false
set_option linter.unusedVariables false
set_option maxRecDepth 20000

/-- A value was taken. -/
def Took (q : Nat) (w : World) (A : Value → World → Prop) (rest' : List UInt8) (e : Ending) (w' : World) : Prop := (∃ v, e = .returned v ∧ A v w') ∧ Rd w' q rest' 0 ∧ Fr (fun k => k = q) w w'
/-- It gave up. -/
def Gave (q : Nat) (w : World) (c : Int) (e : Ending) (w' : World) : Prop := e = giveUp c ∧ (∃ rest', Rd w' q rest' 0) ∧ Fr (fun k => k = q) w w'
def Is (x : Value) : Value → World → Prop := fun v _ => v = x

theorem number_gave (q : Nat) (rest : List UInt8) (n : Int) (w : World) (hr : Rd w q rest 0) (hn : (rest.length : Int) < n) :
    Calls Tryz.prog 77 #[rp q, .int .i64 n] w (Gave q w 40) := by
  refine (number_out q rest n w hr hn).mono ?_
  rintro e w' ⟨rfl, rfl⟩
  exact ⟨rfl, ⟨_, hr⟩, Fr.refl _ _⟩

theorem takeByte_in (q : Nat) (c : UInt8) (r : List UInt8) (w : World) (hr : Rd w q (c :: r) 0) :
    Calls Tryz.prog 57 #[rp q] w (Took q w (Is (.int .u8 (c.toNat : Int))) r) := by
  have kn := number_in q (c :: r) 1 w hr (by simp) (by omega)
  simp only [List.take_succ_cons, List.take_zero, List.drop_succ_cons, List.drop_zero] at kn
  have e1 : numS [c] = c.toNat := by simp [numS]
  rw [e1] at kn
  have hc := c.toNat_lt
  clear hr e1
  go_enter Tryz.func57, Tryz.ntmps57
  go_wp2_with (go_at_call 77; refine kn.mono ?_; rintro e w1 ⟨rfl, h1, h2⟩)
  go_ret
  refine ⟨⟨_, rfl, ?_⟩, h1, h2⟩
  simp [Is]
theorem takeByte_out (q : Nat) (w : World) (hr : Rd w q [] 0) :
    Calls Tryz.prog 57 #[rp q] w (Gave q w 40) := by
  have kn := number_gave q [] 1 w hr (by simp)
  clear hr
  unfold Gave giveUp at *
  go_enter Tryz.func57, Tryz.ntmps57
  go_wp2_with (go_at_call 77; refine kn.mono ?_; rintro e w1 ⟨rfl, h1, h2⟩)
  exact ⟨rfl, rfl, h1, h2⟩

theorem takeLong_in (q : Nat) (rest : List UInt8) (w : World) (hl : 8 ≤ rest.length) (hr : Rd w q rest 0) :
    Calls Tryz.prog 80 #[rp q] w (Took q w (Is (.int .u64 (numS (rest.take 8) : Int))) (rest.drop 8)) := by
  have kn := number_in q rest 8 w hr hl (by omega)
  unfold Took Is at *
  clear hr
  go_enter Tryz.func80, Tryz.ntmps80
  go_wp2_with (go_at_call 77; refine kn.mono ?_; rintro e w1 ⟨rfl, h1, h2⟩)
  go_ret
  exact ⟨⟨_, rfl, rfl⟩, h1, h2⟩
theorem takeLong_out (q : Nat) (rest : List UInt8) (w : World) (hl : rest.length < 8) (hr : Rd w q rest 0) :
    Calls Tryz.prog 80 #[rp q] w (Gave q w 40) := by
  have kn := number_gave q rest 8 w hr (by omega)
  clear hr
  unfold Gave giveUp at *
  go_enter Tryz.func80, Tryz.ntmps80
  go_wp2_with (go_at_call 77; refine kn.mono ?_; rintro e w1 ⟨rfl, h1, h2⟩)
  exact ⟨rfl, rfl, h1, h2⟩

theorem takeInt_in (q : Nat) (rest : List UInt8) (N : Nat) (w : World) (hl : 4 ≤ rest.length) (hN : Hidden (numS (rest.take 4) = N)) (hlt : N < 2147483648) (hr : Rd w q rest 0) :
    Calls Tryz.prog 60 #[rp q] w (Took q w (Is (.int .i64 (N : Int))) (rest.drop 4)) := by
  have kn := number_in q rest 4 w hr hl (by omega)
  rw [show numS (rest.take 4) = N from hN] at kn
  unfold Took Is at *
  clear hr hN
  go_enter Tryz.func60, Tryz.ntmps60
  go_wp2_with (go_at_call 77; refine kn.mono ?_; rintro e w1 ⟨rfl, h1, h2⟩)
  go_ret
  refine ⟨⟨_, rfl, ?_⟩, h1, h2⟩
  rfl
theorem takeInt_bad (q : Nat) (rest : List UInt8) (N : Nat) (w : World) (hl : 4 ≤ rest.length) (hN : Hidden (numS (rest.take 4) = N)) (hlt : 2147483647 < N) (hr : Rd w q rest 0) :
    Calls Tryz.prog 60 #[rp q] w (Gave q w 42) := by
  have kn := number_in q rest 4 w hr hl (by omega)
  rw [show numS (rest.take 4) = N from hN] at kn
  unfold Gave giveUp at *
  clear hr hN
  go_enter Tryz.func60, Tryz.ntmps60
  go_wp2_with (go_at_call 77; refine kn.mono ?_; rintro e w1 ⟨rfl, h1, h2⟩)
  exact ⟨rfl, rfl, ⟨_, h1⟩, h2⟩
theorem takeInt_out (q : Nat) (rest : List UInt8) (w : World) (hl : rest.length < 4) (hr : Rd w q rest 0) :
    Calls Tryz.prog 60 #[rp q] w (Gave q w 40) := by
  have kn := number_gave q rest 4 w hr (by omega)
  clear hr
  unfold Gave giveUp at *
  go_enter Tryz.func60, Tryz.ntmps60
  go_wp2_with (go_at_call 77; refine kn.mono ?_; rintro e w1 ⟨rfl, h1, h2⟩)
  exact ⟨rfl, rfl, h1, h2⟩

theorem takeCount_in (q : Nat) (rest : List UInt8) (N : Nat) (most : Int) (w : World) (hl : 4 ≤ rest.length) (hN : Hidden (numS (rest.take 4) = N)) (hlt : N < 2147483648) (hm : (N : Int) ≤ most) (hr : Rd w q rest 0) :
    Calls Tryz.prog 103 #[rp q, .int .i64 most] w (Took q w (Is (.int .i64 (N : Int))) (rest.drop 4)) := by
  have kn := takeInt_in q rest N w hl hN hlt hr
  unfold Took Is at *
  clear hr hN
  go_enter Tryz.func103, Tryz.ntmps103
  go_wp2_with (go_at_call 60; refine kn.mono ?_; rintro e w1 ⟨⟨v, rfl, rfl⟩, h1, h2⟩)
  go_ret
  exact ⟨⟨_, rfl, rfl⟩, h1, h2⟩
theorem takeCount_big (q : Nat) (rest : List UInt8) (N : Nat) (most : Int) (w : World) (hl : 4 ≤ rest.length) (hN : Hidden (numS (rest.take 4) = N)) (hlt : N < 2147483648) (hm : most < (N : Int)) (hr : Rd w q rest 0) :
    Calls Tryz.prog 103 #[rp q, .int .i64 most] w (Gave q w 3) := by
  have kn := takeInt_in q rest N w hl hN hlt hr
  unfold Took Is Gave giveUp at *
  clear hr hN
  go_enter Tryz.func103, Tryz.ntmps103
  go_wp2_with (go_at_call 60; refine kn.mono ?_; rintro e w1 ⟨⟨v, rfl, rfl⟩, h1, h2⟩)
  exact ⟨rfl, rfl, ⟨_, h1⟩, h2⟩
theorem takeCount_gave (q : Nat) (c most : Int) (w : World) (kn : Calls Tryz.prog 60 #[rp q] w (Gave q w c)) :
    Calls Tryz.prog 103 #[rp q, .int .i64 most] w (Gave q w c) := by
  unfold Gave giveUp at *
  go_enter Tryz.func103, Tryz.ntmps103
  go_wp2_with (go_at_call 60; refine kn.mono ?_; rintro e w1 ⟨rfl, h1, h2⟩)
  exact ⟨rfl, rfl, h1, h2⟩
end Go.Proofs.YtoiglopilpoafaaGreatDoor.Wi
