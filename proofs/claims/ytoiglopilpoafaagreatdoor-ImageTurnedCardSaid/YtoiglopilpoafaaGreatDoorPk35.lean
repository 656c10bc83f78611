/- Texts of ours, in one. -/
import Derived.Test.YtoiglopilpoafaaGreatDoorPk13
import Derived.Test.YtoiglopilpoafaaGreatDoorPk34
namespace Go.Proofs.YtoiglopilpoafaaGreatDoor.Cd
open Go.RowKit Ty
set_option linter.unusedSimpArgs false
set_option linter.unusedVariables false

theorem pow8 (k : Nat) : (2 : Nat) ^ (8 * k) = 256 ^ k := by rw [Nat.pow_mul]
theorem be_cell (N k : Nat) : (Value.int .u8 ((N : Int) / 2 ^ (8 * k) % 256)) = .int .u8 ((UInt8.ofNat (N / 256 ^ k % 256)).toNat : Int) := by
  rw [u8_of _ (Nat.mod_lt _ (by decide))]
  congr 1
  have : ((2 : Int) ^ (8 * k)) = ((256 ^ k : Nat) : Int) := by rw [← pow8, Int.natCast_pow]; rfl
  rw [this]
  generalize 256 ^ k = q
  rw [Int.natCast_emod, Int.natCast_ediv]
  rfl
set_option maxRecDepth 20000 in
set_option maxHeartbeats 1000000 in
theorem apnum_any (B : Nat) (v : Value) (l : Bs) (N size : Nat) (hN : N < 18446744073709551616) (hs : size ≤ 8) (hl : l.length ≤ 1000000) (w : World) (hr : Bw w B v l) (hB : B ≤ w.heap.size) :
    Calls Tryz.prog 87 #[v, .int .u64 (N : Int), ci (size : Int)] w fun e w' => ∃ v', e = .returned v' ∧ Bw w' B v' (l ++ be size N) ∧ Ap w w' v v' := by
  have hrH : Hidden (Bw w B v l) := hr
  clear hr
  go_enter Tryz.func87, Tryz.ntmps87
  go_wp2
  go_loopg [0, 7] size (fun k x b wr => b = .int .i64 ((k : Int) - 1) ∧ k ≤ size ∧ ∃ pre, Bw wr B x (l ++ pre) ∧ Ap w wr v x ∧ pre ++ be k N = be size N)
  case atStart =>
    exact ⟨rfl, Nat.le_refl _, [], by rw [List.append_nil]; exact hrH, Ap.refl _ _, rfl⟩
  case round =>
    obtain ⟨rfl, hk, pre, hto, hap, hpre⟩ := hrel
    have hH : Hidden (Bw wr B u0 (l ++ pre) ∧ Ap w wr v u0 ∧ pre ++ be gk N = be size N) := ⟨hto, hap, hpre⟩
    clear hto hap hpre
    cases gk with
    | zero =>
      go_wp2
      go_ret
      obtain ⟨hto, hap, hpre⟩ := hH
      simp only [be, List.append_nil] at hpre
      subst hpre
      exact ⟨_, rfl, hto, hap⟩
    | succ k =>
      obtain ⟨hto, hap, hpre⟩ := id hH
      have hpl : pre.length ≤ 8 := by
        have := congrArg List.length hpre
        rw [List.length_append, be_len, be_len] at this
        omega
      have hplH : Hidden (pre.length ≤ 8) := hpl
      have hsz : B ≤ wr.heap.size := Nat.le_trans hB hap.fr.size
      clear hto hap hpre hpl
      go_wp2_with (at_builtin
                   refine wpl_append rfl _ _ 30 5 (.int .u8 0) 1 1 Tryz.underlying30 info_u8 rfl (by decide) rfl B u0 (l ++ pre).length (byC (l ++ pre)) ⟨wr.heap.size, 0, none⟩ 1 1 [.int .u8 ((N : Int) / 2 ^ (8 * k) % 256)] rfl ?c0 rfl rfl ?c1 ?c2 ?c3 ?c4 ?c5 ?_
                   case c0 => exact (show Bw wr B u0 (l ++ pre) from hH.1).keepN (Fr.alloc _ _ _)
                   case c1 =>
                     intro j u hu
                     cases j with
                     | zero =>
                       simp only [List.getElem?_cons_zero, Option.some.injEq] at hu
                       subst hu
                       exact cell_of_row _ _ 0 _ _ _ (alloc_new _ _)
                     | succ j => simp at hu
                   case c2 => intro u hu; simp at hu; subst hu; rfl
                   case c3 => have : pre.length ≤ 8 := hplH; simp only [List.length_append, maxLen]; omega
                   case c4 => have : pre.length ≤ 8 := hplH; simp only [List.length_append]; omega
                   case c5 => simp; omega
                   intro v1 w1 hr1 f1 o1)
      go_roundg k
      case measure => omega
      case rel =>
        obtain ⟨hto, hap, hpre⟩ := hH
        refine ⟨by go_num, by omega, pre ++ [UInt8.ofNat (N / 256 ^ k % 256)], ?_, ?_, by rw [← hpre, be]; simp⟩
        · rw [be_cell] at hr1
          show w1.ownsRow B _ 1 v1 (l ++ (pre ++ [_])).length (byC (l ++ (pre ++ [_])))
          rw [← List.append_assoc, byC_app, show (l ++ pre ++ [UInt8.ofNat (N / 256 ^ k % 256)]).length = (l ++ pre).length + 1 by rw [List.length_append]; rfl]
          exact hr1
        · exact hap.trans (Ap.after (Fr.alloc _ _ _) (Ap.of f1 (by
            rcases o1 with o | o
            · exact Or.inl o
            · exact Or.inr o)))
theorem wd_le (op : Int) : wd op ≤ 2 := by
  unfold wd
  by_cases h1 : op = 2 ∨ op = 3 ∨ op = 6 ∨ op = 7
  · rw [if_pos h1]; omega
  · rw [if_neg h1]
    by_cases h2 : op = 4 ∨ op = 5 ∨ op = 8 ∨ op = 9 ∨ op = 10 ∨ op = 15
    · rw [if_pos h2]; omega
    · rw [if_neg h2]; omega
/-- One byte more. -/
theorem one_more {w1 : World} {B : Nat} {v1 : Value} {l : Bs} {c : UInt8} {z : Int} (hz : (c.toNat : Int) = z) (h : w1.ownsRow B 5 1 v1 (l.length + 1) (byC l ++ [.int .u8 z])) : Bw w1 B v1 (l ++ [c]) := by
  subst hz
  show w1.ownsRow B _ 1 v1 (l ++ [c]).length (byC (l ++ [c]))
  rw [byC_app, show (l ++ [c]).length = l.length + 1 by rw [List.length_append]; rfl]
  exact h
/-- append of one byte to a row of the call's own. -/
theorem wpl_byte {w : World} {ops : Array Oper} {rest : List Oper} {o : Oper} {a : Act} {Q : Exit → Act → World → Prop} (hgd : o.guard = none) (s x : Operand)
    (ho : o.op = .call { callee := .builtin .append, args := #[s, x], argTypes := #[30, 30] }) (B : Nat) (v : Value) (l : Bs) (c : UInt8) (g : Nat) (z : Int)
    (hs : a.eval s = v) (hr : Bw w B v l) (hx : a.eval x = .slice (some ⟨g, 0, none⟩) 1 1) (hc : w.cell? ⟨g, 0, none⟩ = some (.int .u8 z)) (hz : (c.toNat : Int) = z) (hl : l.length ≤ 1000000) (hB : B ≤ w.heap.size)
    (h : ∀ v' w', Bw w' B v' (l ++ [c]) → Ap w w' v v' → wpList Tryz.prog ops Q rest (a.put o.dst v') w') : wpList Tryz.prog ops Q (o :: rest) a w := by
  refine wpl_append hgd s x 30 5 (.int .u8 0) 1 1 Tryz.underlying30 info_u8 rfl (by decide) ho B v l.length (byC l) ⟨g, 0, none⟩ 1 1 [.int .u8 z] hs hr hx rfl ?_ ?_ ?_ ?_ hB ?_
  · intro j u hu
    cases j with
    | zero =>
      simp only [List.getElem?_cons_zero, Option.some.injEq] at hu
      subst hu
      exact hc
    | succ j => simp at hu
  · intro u hu; simp at hu; subst hu; rfl
  · simp only [maxLen]; omega
  · omega
  · intro v' w' h1 h2 h3
    exact h v' w' (one_more hz h1) (Ap.of h2 h3)
set_option maxRecDepth 20000 in
set_option maxHeartbeats 1000000 in
theorem apins_any (B : Nat) (v : Value) (l : Bs) (i : In) (hi : rightS i = true) (hb : U64 i.b) (hl : l.length ≤ 100000) (w : World) (hr : Bw w B v l) (hB : B ≤ w.heap.size) :
    Calls Tryz.prog 66 #[v, inV i] w fun e w' => ∃ v', e = .returned v' ∧ Bw w' B v' (l ++ encI i) ∧ Ap w w' v v' := by
  have hk := (right_parts hi).1
  have hop : 1 ≤ i.op ∧ i.op ≤ 17 := by simpa [known] using hk
  have ks := fun w => size_any i w
  have hrH : Hidden (Bw w B v l) := hr
  have enc : Hidden (encI i = UInt8.ofNat i.op.toNat :: (if i.op = 1 then UInt8.ofNat i.t.toNat :: be 8 i.b.toNat else be (wd i.op) i.n.toNat)) := rfl
  have ho8 : Hidden (((UInt8.ofNat i.op.toNat).toNat : Int) = i.op) := by show _ = _; rw [u8_of _ (by omega)]; omega
  have hvs : Hidden (i.op = 1 → 0 ≤ i.t ∧ i.t < 256) := fun e => val_small hi e
  have hns : Hidden (i.op ≠ 1 → i.n.toNat < 256 ^ wd i.op ∧ 0 ≤ i.n) := fun e => hi_lt hi e
  have hsz : Hidden (i.op ≠ 1 → sizeS i.op = 1 + (wd i.op : Int)) := fun e => by unfold sizeS; rw [if_pos hk, if_neg e]
  have hwd : Hidden (wd i.op ≤ 2) := wd_le i.op
  generalize encI i = E at enc ⊢
  clear hi hk hr
  obtain ⟨op, n, t, b⟩ := i
  simp only [] at *
  have hm : op % 256 = op := by omega
  obtain ⟨c, hc⟩ : ∃ c : UInt8, c = UInt8.ofNat op.toNat := ⟨_, rfl⟩
  rw [← hc] at enc ho8
  clear hc
  by_cases h1 : op = 1
  · subst h1
    have hv := (show (1 : Int) = 1 → 0 ≤ t ∧ t < 256 from hvs) rfl
    have hm2 : t % 256 = t := by omega
    have kn := fun (v : Value) (l : Bs) (w : World) (hl : l.length ≤ 1000000) (hr : Bw w B v l) (hB : B ≤ w.heap.size) => apnum_any B v l b.toNat 8 (by obtain ⟨_, _⟩ := hb; omega) (by decide) hl w hr hB
    rw [show ((b.toNat : Nat) : Int) = b by obtain ⟨_, _⟩ := hb; omega] at kn
    have hBd := own_block (show Bw w B v l from hrH)
    go_enter Tryz.func66, Tryz.ntmps66
    go_wp2_with (first
      | (at_builtin
         have q := a1
         refine wpl_byte rfl _ _ rfl B v1 (l ++ [c]) (UInt8.ofNat t.toNat) W1.heap.size t rfl ?d0 rfl ?d1 ?d2 ?d3 ?d4 ?_
         case d0 => exact hr1.keepN (Fr.alloc _ _ _)
         case d1 => exact cell_of_row _ _ 0 _ _ _ (alloc_new _ _)
         case d2 => rw [u8_of _ (by omega)]; omega
         case d3 => simp; omega
         case d4 => have := a1.fr.size; simp at this ⊢; omega
         intro v2 W2 hr2 a2
         have e2 := a2.heap ((Fr.alloc (fun _ => False) W1 (.cells #[.int .u8 t] 5 (0, 0))).heap e1 (fun f => f)) (by
           rcases a1.own with o | ⟨k, o, hk⟩
           · rw [o]; intro e; have := (hBd _ e).2; omega
           · rw [o]; simp at hk; intro e; cases e; omega)
         obtain ⟨k0, k1, k2, k3⟩ := box4 e2)
      | (at_builtin
         refine wpl_byte rfl _ _ rfl B v l c (w.heap.size + 1) 1 rfl ?c0 rfl ?c1 ?c2 ?c3 ?c4 ?_
         case c0 => exact ((show Bw w B v l from hrH).keepN (Fr.alloc _ _ _)).keepN (Fr.alloc _ _ _)
         case c1 => exact cell_of_row _ _ 0 _ _ _ (heap_alloc2_new _ _ _)
         case c2 => exact ho8
         case c3 => omega
         case c4 => simp; omega
         intro v1 W1 hr1 a1
         have e1 := a1.heap (heap_alloc2_old w (.cells #[ci 1, ci n, ci t, .int .u64 b] 69 (0, 0)) (.cells #[.int .u8 1] 5 (0, 0))) (fun e => by have := (hBd _ e).2; omega)
         obtain ⟨j0, j1, j2, j3⟩ := box4 e1)
      | (go_at_call 87
         refine (kn v2 (l ++ [c] ++ [UInt8.ofNat t.toNat]) W2 (by simp; omega) hr2 (by have := a1.fr.size; have := a2.fr.size; simp at *; omega)).mono ?_
         rintro e W3 ⟨v3, rfl, hr3, a3⟩))
    go_ret
    refine ⟨_, rfl, ?_, ?_⟩
    · have ee : E = c :: UInt8.ofNat t.toNat :: be 8 b.toNat := by simpa [Hidden] using enc
      rw [ee]
      simpa using hr3
    · exact (Ap.after ((Fr.alloc _ _ _).same (Fr.alloc _ _ _)) a1).trans ((Ap.after (Fr.alloc _ _ _) a2).trans a3)
  · have hns := (show op ≠ 1 → _ from hns) h1
    have ee : Hidden (E = c :: be (wd op) n.toNat) := by
      have := enc
      simp only [Hidden] at this
      rw [if_neg h1] at this
      exact this
    have hsz' : sizeS op = 1 + (wd op : Int) := (show op ≠ 1 → _ from hsz) h1
    rw [hsz'] at ks
    have h1b : (op == 1) = false := by simp [h1]
    have hwd' : wd op ≤ 2 := hwd
    have hn64 : n.toNat < 18446744073709551616 := by
      have : 256 ^ wd op ≤ 256 ^ 2 := Nat.pow_le_pow_right (by decide) hwd'
      have e : (256 : Nat) ^ 2 = 65536 := rfl
      omega
    obtain ⟨k, hk⟩ : ∃ k, k = wd op := ⟨_, rfl⟩
    rw [← hk] at ks hwd' ee
    have kn := fun (v : Value) (l : Bs) (w : World) (hl : l.length ≤ 1000000) (hr : Bw w B v l) (hB : B ≤ w.heap.size) => apnum_any B v l n.toNat k hn64 (by omega) hl w hr hB
    rw [show ((n.toNat : Nat) : Int) = n by omega] at kn
    have hBd := own_block (show Bw w B v l from hrH)
    have hn0 : 0 ≤ n ∧ n < 18446744073709551616 := by omega
    clear hns hk hsz' hsz enc h1 hn64 hvs hwd
    go_enter Tryz.func66, Tryz.ntmps66
    go_upto_region 5 with (first
      | (at_builtin
         refine wpl_byte rfl _ _ rfl B v l c (w.heap.size + 1) op rfl ?c0 rfl ?c1 ?c2 ?c3 ?c4 ?_
         case c0 => exact ((show Bw w B v l from hrH).keepN (Fr.alloc _ _ _)).keepN (Fr.alloc _ _ _)
         case c1 => exact cell_of_row _ _ 0 _ _ _ (heap_alloc2_new _ _ _)
         case c2 => exact ho8
         case c3 => omega
         case c4 => simp; omega
         intro v1 W1 hr1 a1
         have e1 := a1.heap (heap_alloc2_old w (.cells #[ci op, ci n, ci t, .int .u64 b] 69 (0, 0)) (.cells #[.int .u8 op] 5 (0, 0))) (fun e => by have := (hBd _ e).2; omega)
         obtain ⟨j0, j1, j2, j3⟩ := box4 e1))
    have hB1 : B ≤ W1.heap.size := by have := a1.fr.size; simp at this; omega
    obtain ⟨z, hz⟩ : ∃ z, z = 1 + (k : Int) := ⟨_, rfl⟩
    rw [← hz] at ks
    have hw1 : IntKind.i64.wrap (z - 1) = (k : Int) := by rw [hz, IntKind.wrap_i64]; omega
    have hneH : Hidden (v1.ownBlock ≠ some w.heap.size) := by
      show _ ≠ _
      rcases a1.own with o | ⟨q, o, hq⟩
      · rw [o]; intro e; have := (hBd _ e).2; omega
      · rw [o]; simp at hq; intro e; cases e; omega
    have hw2 : IntKind.u64.wrap n = n := by rw [IntKind.wrap_u64]; omega
    obtain ⟨l1, hl1⟩ : ∃ l1, l1 = l ++ [c] := ⟨_, rfl⟩
    have hln : l1.length ≤ 1000000 := by rw [hl1]; simp; omega
    rw [← hl1] at hr1
    have hl1H : Hidden (l1 = l ++ [c]) := hl1
    have knW : ∀ W, Fr (fun _ => False) W1 W → Calls Tryz.prog 87 #[v1, .int .u64 n, ci (k : Int)] W fun e w' => ∃ v', e = .returned v' ∧ Bw w' B v' (l1 ++ be k n.toNat) ∧ Ap W w' v1 v' := fun W hW => kn v1 l1 W hln (hr1.keepN hW) (Nat.le_trans hB1 hW.size)
    have hn0H : Hidden (0 ≤ n ∧ n < 18446744073709551616) := hn0
    clear kn hl1 hm hz hwd' hn0 hr1 hln hB1 hB hl h1b e1 hBd
    go_region_held3 (fun w' => w'.cell? ⟨w.heap.size, 0, none⟩ = some (ci op) ∧ w'.cell? ⟨w.heap.size, 1, none⟩ = some (ci n) ∧ w'.cell? ⟨w.heap.size, 2, none⟩ = some (ci t) ∧ w'.cell? ⟨w.heap.size, 3, none⟩ = some (.int .u64 b)) (first | (refine ⟨by with_reducible assumption, by with_reducible assumption, by with_reducible assumption, by with_reducible assumption⟩) | go_keep) (first
      | (go_at_call 83; refine (ks _).mono ?_; rintro e W2 ⟨rfl, f2⟩
         have f2' : Fr (fun _ => False) W1 W2 := (Fr.drew _ _).same f2
         have i0 := f2'.cellN j0
         have i1 := f2'.cellN j1
         have i2 := f2'.cellN j2
         have i3 := f2'.cellN j3)
      | (go_at_call 87
         refine (knW W2 f2').mono ?_
         rintro e W3 ⟨v3, rfl, hr3, a3⟩
         have m0 := a3.fr.cell i0 hneH
         have m1 := a3.fr.cell i1 hneH
         have m2 := a3.fr.cell i2 hneH
         have m3 := a3.fr.cell i3 hneH))
    go_wp2_with fail
    go_ret
    have ee' : E = c :: be k n.toNat := ee
    have hl1' : l1 = l ++ [c] := hl1H
    refine ⟨_, rfl, ?_, (Ap.after ((Fr.alloc _ _ _).same (Fr.alloc _ _ _)) a1).trans (Ap.after f2' a3)⟩
    rw [ee']
    rw [hl1'] at hr3
    simpa using hr3
end Go.Proofs.YtoiglopilpoafaaGreatDoor.Cd

namespace Go.Proofs.YtoiglopilpoafaaGreatDoor.Cd
open Go.RowKit Ty
set_option linter.unusedSimpArgs false
set_option linter.unusedVariables false

theorem encS_len : ∀ (l : List In), (encS l).length ≤ l.length * 10
  | [] => by simp [encS]
  | i :: l => by
    have := encS_len l
    have e : encS (i :: l) = encI i ++ encS l := by simp [encS]
    rw [e, List.length_append, List.length_cons]
    have : (encI i).length ≤ 10 := by
      unfold encI
      rw [List.length_cons]
      split
      · rw [List.length_cons, be_len]; omega
      · rw [be_len]; have := wd_le i.op; omega
    omega
theorem encS_snoc (l : List In) (i : In) : encS (l ++ [i]) = encS l ++ encI i := by simp [encS]
theorem take_snoc {α : Type} {l : List α} {j : Nat} {x : α} (h : l[j]? = some x) : l.take (j + 1) = l.take j ++ [x] := by
  rw [List.take_add_one, h]; rfl
set_option maxRecDepth 20000 in
set_option maxHeartbeats 1000000 in
theorem encode_any (ao : Option Addr) (cap : Nat) (l : List In) (w : World) (h : IL w ao cap l) (hok : ∀ i ∈ l, U64 i.b) :
    Calls Tryz.prog 47 #[.slice ao l.length cap] w fun e w' => ∃ v, e = .returned (.tuple #[v, ci (encA l).1]) ∧ Bw w' w.heap.size v (encA l).2 ∧ Fr (fun _ => False) w w' := by
  obtain ⟨n, hn⟩ : ∃ n, n = l.length := ⟨_, rfl⟩
  obtain ⟨R, hR⟩ : ∃ R, R = encA l := ⟨_, rfl⟩
  rw [← hn, ← hR]
  have hil : Hidden (IL w ao cap l) := h
  have hcap : n ≤ cap := by rw [hn]; exact h.1
  have hcm : cap ≤ 9223372036854775807 := by have := h.2.1; simpa [maxLen] using this
  have hnH : Hidden (n = l.length) := hn
  have hRH : Hidden (R = encA l) := hR
  have hokH : Hidden (∀ i ∈ l, U64 i.b) := hok
  clear hn hR h hok
  by_cases h4 : 4096 < n
  · have h4b : decide (4096 < (n : Int)) = true := by simp; omega
    go_enter Tryz.func47, Tryz.ntmps47
    go_wp2_with fail
    go_ret2
    have e : R = (3, []) := by rw [show R = encA l from hRH]; unfold encA; rw [if_pos (by rw [← (show n = l.length from hnH)]; exact h4)]
    exact ⟨_, (by rw [e]; rfl), by rw [e]; exact Bw.nil _ _, Fr.refl _ _⟩
  · have h4b : decide (4096 < (n : Int)) = false := by simp; omega
    go_enter Tryz.func47, Tryz.ntmps47
    go_wp2_with fail
    go_loopg [4, 12] n (fun k v iv wr => ∃ j : Nat, iv = .int .i64 (j : Int) ∧ j ≤ n ∧ k = n - j ∧ (∀ i ∈ l.take j, rightS i = true) ∧ Bw wr w.heap.size v (encS (l.take j)) ∧ Ap w wr (.slice none 0 0) v)
    case atStart =>
      exact ⟨0, rfl, by omega, by omega, by simp, Bw.nil _ _, Ap.refl _ _⟩
    case round =>
      obtain ⟨j, rfl, hj, hk, hall, hbw, hap⟩ := hrel
      have hH : Hidden ((∀ i ∈ l.take j, rightS i = true) ∧ Bw wr w.heap.size u4 (encS (l.take j)) ∧ Ap w wr (.slice none 0 0) u4) := ⟨hall, hbw, hap⟩
      clear hall hbw hap
      by_cases hjn : j = n
      · subst hjn
        go_wp2_with fail
        go_ret2
        obtain ⟨hall, hbw, hap⟩ := hH
        have hnn : j = l.length := hnH
        have e : R = (0, encS l) := by
          rw [show R = encA l from hRH]
          unfold encA
          rw [if_neg (by omega), if_pos]
          rw [hnn, List.take_length] at hall
          exact List.all_eq_true.2 hall
        rw [hnn, List.take_length] at hbw
        exact ⟨_, (by rw [e]; rfl), by rw [e]; exact hbw, hap.none⟩
      · have hlt : j < n := by omega
        obtain ⟨x, hx⟩ : ∃ x, l[j]? = some x := ⟨_, List.getElem?_eq_getElem (by have : n = l.length := hnH; omega)⟩
        have hxm : x ∈ l := List.mem_of_getElem? hx
        have hxb := (show ∀ i ∈ l, U64 i.b from hokH) x hxm
        have hxH : Hidden (l[j]? = some x) := hx
        obtain ⟨bl, off, hao, hcells⟩ := (show IL w ao cap l from hil).2.2.2.resolve_left (by rintro rfl; simp at hx)
        have fwr : Fr (fun _ => False) w wr := hH.2.2.none
        obtain ⟨c0, c1, c2, c3⟩ := IL.at' (cap := cap) (fun i x hx j u hu => fwr.cellN (hcells i x hx j u hu)) hx
        subst hao
        obtain ⟨L, hL⟩ : ∃ L, L = encS (l.take j) := ⟨_, rfl⟩
        have hLl : L.length ≤ 100000 := by
          have := encS_len (l.take j)
          rw [← hL, List.length_take] at this
          omega
        have kr := fun w => right_any x hxb w
        have hszr : w.heap.size ≤ wr.heap.size := fwr.size
        clear hx hcells hlt hxm
        by_cases hrx : rightS x = true
        · have hrxH : Hidden (rightS x = true) := hrx
          rw [hrx] at kr
          have hbw : Hidden (Bw wr w.heap.size u4 L) := by rw [hL]; exact hH.2.1
          have hLH : Hidden (L = encS (l.take j)) := hL
          clear hL
          have kaW : ∀ W, Fr (fun _ => False) wr W → Calls Tryz.prog 66 #[u4, inV x] W fun e w' => ∃ v', e = .returned v' ∧ Bw w' w.heap.size v' (L ++ encI x) ∧ Ap W w' u4 v' := fun W hW => apins_any w.heap.size u4 L x hrx hxb hLl W ((show Bw wr _ u4 L from hbw).keepN hW) (Nat.le_trans hszr hW.size)
          clear hrx fwr
          obtain ⟨op, nn, t, b⟩ := x
          simp only [] at c0 c1 c2 c3
          go_wp2_with (first
            | (go_at_call 53; refine (kr _).mono ?_; rintro e W1 ⟨rfl, f1⟩; obtain ⟨d0, d1, d2, d3⟩ := box4_fr f1)
            | (go_at_call 66; refine (kaW W1 ((Fr.alloc _ _ _).same f1)).mono ?_; rintro e W2 ⟨v2, rfl, hr2, a2⟩))
          go_roundg (n - (j + 1))
          case measure => omega
          case rel =>
            obtain ⟨hall, hbw', hap⟩ := hH
            refine ⟨j + 1, by go_num, by omega, rfl, ?_, ?_, hap.trans (Ap.after ((Fr.alloc _ _ _).same f1) a2)⟩
            · rw [take_snoc (show l[j]? = _ from hxH)]
              intro i hi
              rcases List.mem_append.1 hi with hi | hi
              · exact hall i hi
              · simp at hi; subst hi; exact hrxH
            · rw [take_snoc (show l[j]? = _ from hxH), encS_snoc, ← (show L = _ from hLH)]
              exact hr2
        · have hrf : rightS x = false := by simpa using hrx
          have hrxH : Hidden (rightS x = false) := hrf
          clear hrf
          rw [show rightS x = false from hrxH] at kr
          clear hrx hL hLl fwr
          obtain ⟨op, nn, t, b⟩ := x
          simp only [] at c0 c1 c2 c3
          go_wp2_with (first
            | (go_at_call 53; refine (kr _).mono ?_; rintro e W1 ⟨rfl, f1⟩; obtain ⟨d0, d1, d2, d3⟩ := box4_fr f1))
          go_ret2
          have e : R = (51, []) := by
            rw [show R = encA l from hRH]
            unfold encA
            rw [if_neg (by have : n = l.length := hnH; omega), if_neg]
            intro hall
            have := List.all_eq_true.1 hall _ (List.mem_of_getElem? (show l[j]? = _ from hxH))
            rw [show rightS _ = false from hrxH] at this
            cases this
          exact ⟨_, (by rw [e]; rfl), by rw [e]; exact Bw.nil _ _, hH.2.2.none.same ((Fr.alloc _ _ _).same f1)⟩
end Go.Proofs.YtoiglopilpoafaaGreatDoor.Cd

namespace Go.Proofs.YtoiglopilpoafaaGreatDoor.Im
open Go.RowKit Ty Cd
set_option linter.unusedSimpArgs false
set_option linter.unusedVariables false
set_option maxRecDepth 20000

theorem wrF_len (f : Fu) : (wrF f).length = 1 + (f.sg.ps.length + (1 + (1 + (f.loc.length + (4 + ((encS f.cd).length + 0)))))) := by
  have e : ∀ l : List Int, (l.flatMap (fun x => [u8 x])).length = l.length := by
    intro l
    induction l with
    | nil => rfl
    | cons x l ih => rw [List.flatMap_cons, List.length_append, ih, List.length_cons]; simp; omega
  unfold wrF wrC wrT
  simp only [List.length_append, List.length_singleton, e, be_len]
  omega
theorem encA_ok {l : List In} (h : OkC l) : encA l = (0, encS l) := by
  unfold encA
  rw [if_neg (by have := h.2; omega), if_pos (List.all_eq_true.2 fun x hx => (h.1 x hx).1)]
set_option maxHeartbeats 4000000 in
theorem putFn_wr (W : World) (p : Nat) (f : Fu) (a0 a2 a3 : Option Addr) (c0 c2 c3 np nl nc : Nat) (hnp : f.sg.ps.length = np) (hnl : f.loc.length = nl) (hnc : f.cd.length = nc) (bs : Bs) (n : Nat) (w : World) (hok : OkFn f) (h0 : InL W a0 c0 f.sg.ps) (h2 : InL W a2 c2 f.loc) (h3 : IL W a3 c3 f.cd)
    (h : Wi.WOwn W (.pointer (some ⟨p, 0, none⟩)) w bs ((wrF f).length + n)) :
    Calls Tryz.prog 29 #[.pointer (some ⟨p, 0, none⟩), .agg #[.slice a0 np c0, ci f.sg.res, .slice a2 nl c2, .slice a3 nc c3]] w fun e w' => e = .returned (.tuple #[]) ∧ Wi.WOwn W (.pointer (some ⟨p, 0, none⟩)) w' (bs ++ wrF f) n := by
  obtain ⟨O, hO⟩ : ∃ O, O = Obj.cells #[.slice a0 np c0, ci f.sg.res, .slice a2 nl c2, .slice a3 nc c3] 46 (0, 0) := ⟨_, rfl⟩
  obtain ⟨V, hV⟩ : ∃ V, V = w.alloc O := ⟨_, rfl⟩
  obtain ⟨K, hK⟩ : ∃ K, K = fun k => k = w.heap.size := ⟨_, rfl⟩
  have b0 : WB W V K (.pointer (some ⟨p, 0, none⟩)) V bs ((wrF f).length + n) := by rw [hV, hK]; exact wb_open h O
  have xV : V.heap[w.heap.size]? = some O := by rw [hV]; exact alloc_new _ _
  have bx : ∀ (X : World) (q : Bs) (m : Nat), WB W V K (.pointer (some ⟨p, 0, none⟩)) X q m → X.heap[w.heap.size]? = some O := by
    intro X q m hX
    rw [hK] at hX
    exact wb_box hX xV
  have k1 := types_wb W V K p f.sg.ps a0 np c0 hnp bs (1 + (1 + (nl + (4 + ((encS f.cd).length + n))))) V hok.ps.1 hok.ps.2 h0 (by
    rw [wrF_len, hnp, hnl] at b0
    rw [show 1 + (np + (1 + (1 + (nl + (4 + ((encS f.cd).length + n)))))) = 1 + (np + (1 + (1 + (nl + (4 + ((encS f.cd).length + 0)))))) + n by omega]
    exact b0)
  have hm := u8_wrap hok.res
  have k2 := fun X (hX : WB W V K (.pointer (some ⟨p, 0, none⟩)) X (bs ++ wrT f.sg.ps) (1 + (1 + (nl + (4 + ((encS f.cd).length + n)))))) => byte_wz W V K (.pointer (some ⟨p, 0, none⟩)) (IntKind.u8.wrap f.sg.res) (u8 f.sg.res) hm _ _ X hX
  have k3 := fun X (hX : WB W V K (.pointer (some ⟨p, 0, none⟩)) X (bs ++ wrT f.sg.ps ++ [u8 f.sg.res]) (1 + (nl + (4 + ((encS f.cd).length + n))))) => types_wb W V K p f.loc a2 nl c2 hnl _ _ X hok.loc.1 hok.loc.2 h2 hX
  have k4 := fun X (hX : Fr (fun _ => False) W X) => encode_any a3 c3 f.cd X (h3.keep hX) (fun i hi => (hok.cd.1 i hi).2)
  rw [encA_ok hok.cd, hnc] at k4
  have hlE : (encS f.cd).length < 2147483648 := by have h1 := encS_le f.cd; have h2 := hok.cd.2; omega
  have k5 := fun X X' v (hX : WB W V K (.pointer (some ⟨p, 0, none⟩)) X (bs ++ wrT f.sg.ps ++ [u8 f.sg.res] ++ wrT f.loc) (4 + ((encS f.cd).length + n))) (hf : Fr (fun _ => False) X X') (ho : Bw X' X.heap.size v (encS f.cd)) => raw_wb W V X X' K (.pointer (some ⟨p, 0, none⟩)) v (encS f.cd) _ n hlE hX hf ho
  have hres : Hidden (bs ++ wrF f = bs ++ wrT f.sg.ps ++ [u8 f.sg.res] ++ wrT f.loc ++ (be 4 (encS f.cd).length ++ encS f.cd)) := by
    show _ = _
    unfold wrF wrC
    simp only [List.append_assoc]
  obtain ⟨z0, z1, z2, z3⟩ := Cd.box4 (by rw [hO] at xV; exact xV)
  have hVH : Hidden (V = _) := hV
  have hOH : Hidden (O = _) := hO
  have bxH : Hidden (∀ (X : World) (q : Bs) (m : Nat), WB W V K (.pointer (some ⟨p, 0, none⟩)) X q m → X.heap[w.heap.size]? = some O) := bx
  clear hm
  generalize u8 f.sg.res = c1 at *
  generalize f.sg.res = res at *
  generalize hG : w.heap.size = G at *
  have hGH : Hidden (w.heap.size = G) := hG
  clear hV hO h b0 xV bx hK hlE hnp hnl hnc hok h0 h2 h3 hG
  go_enter Tryz.func29, Tryz.ntmps29
  go_upto_region 1 with fail
  rw [← (show O = _ from hOH), ← (show V = _ from hVH), show w.heap.size = G from hGH]
  go_upto_region 2 with (first
    | (go_at_call 46; refine k1.mono ?_; rintro e w1 ⟨rfl, h1⟩
       have h1H : Hidden _ := h1
       obtain ⟨y0, y1, y2, y3⟩ := Cd.box4 (show w1.heap[G]? = some (.cells #[.slice a0 np c0, ci res, .slice a2 nl c2, .slice a3 nc c3] 46 (0, 0)) by rw [← (show O = _ from hOH)]; exact (show ∀ (X : World) (q : Bs) (m : Nat), _ → X.heap[G]? = some O from bxH) _ _ _ h1)
       clear k1 z0 z1 z2 z3 h1))
  have k2a := fun X (f : Fr (fun _ => False) w1 X) => k2 X (wb_later h1H f)
  clear k2
  go_region_held3 (fun w' => w'.cell? ⟨G, 1, none⟩ = some (ci res)) (first | (with_reducible assumption) | go_keep) (first
    | (go_at_call 26; refine (k2a _ (by first | exact Fr.refl _ _ | exact Fr.drew _ _)).mono ?_; rintro e w2 ⟨rfl, h2⟩
       have h2H : Hidden _ := h2
       obtain ⟨x0, x1, x2, x3⟩ := Cd.box4 (show w2.heap[G]? = some (.cells #[.slice a0 np c0, ci res, .slice a2 nl c2, .slice a3 nc c3] 46 (0, 0)) by rw [← (show O = _ from hOH)]; exact (show ∀ (X : World) (q : Bs) (m : Nat), _ → X.heap[G]? = some O from bxH) _ _ _ h2)
       clear h2))
  all_goals
    clear k2a y0 y1 y2 y3
    go_wp2_with (first
      | (go_at_call 46; refine (k3 _ h2H).mono ?_; rintro e w3 ⟨rfl, h3⟩
         have h3H : Hidden _ := h3
         obtain ⟨y0, y1, y2, y3⟩ := Cd.box4 (show w3.heap[G]? = some (.cells #[.slice a0 np c0, ci res, .slice a2 nl c2, .slice a3 nc c3] 46 (0, 0)) by rw [← (show O = _ from hOH)]; exact (show ∀ (X : World) (q : Bs) (m : Nat), _ → X.heap[G]? = some O from bxH) _ _ _ h3)
         have k4a := k4 _ (wb_fr h3)
         clear h3 x0 x1 x2 x3 k3 k4)
      | (go_at_call 47; refine k4a.mono ?_; rintro e w4 ⟨v, rfl, h4, f4⟩
         have k5a := k5 _ _ v h3H f4 h4
         clear h4 f4 k5 k4a)
      | (go_at_call 48; refine k5a.mono ?_; rintro e w5 ⟨rfl, h5⟩))
    go_end0
    refine ⟨rfl, ?_⟩
    rw [show bs ++ wrF f = _ from hres]
    exact wb_shut h5
end Go.Proofs.YtoiglopilpoafaaGreatDoor.Im
