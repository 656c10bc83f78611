/- Numbers and instructions as bytes: the program's. -/
import Derived.Test.YtooggbhplmmphaaGreatDoorCdM
import Derived.Test.YtooggbhplmmphaaGreatDoorCdB
namespace Go.Proofs.YtooggbhplmmphaaGreatDoor.Cd
open Go.RowKit Ty
set_option linter.unusedSimpArgs false
set_option linter.unusedVariables false

theorem pow8 (k : Nat) : (2 : Nat) ^ (8 * k) = 256 ^ k := by rw [Nat.pow_mul]
theorem be_cell (N k : Nat) : (Value.int .u8 ((N : Int) / 2 ^ (8 * k) % 256)) = .int .u8 ((UInt8.ofNat (N / 256 ^ k % 256)).toNat : Int) := by
  rw [u8_of _ (Nat.mod_lt _ (by decide))]
  congr 1
  have : ((2 : Int) ^ (8 * k)) = ((256 ^ k : Nat) : Int) := by rw [← pow8, Int.natCast_pow]; rfl
  rw [this]
  generalize 256 ^ k = q
  rw [Int.natCast_emod, Int.natCast_ediv]
  rfl
set_option maxRecDepth 20000 in
set_option maxHeartbeats 1000000 in
theorem apnum_any (B : Nat) (v : Value) (l : Bs) (N size : Nat) (hN : N < 18446744073709551616) (hs : size ≤ 8) (hl : l.length ≤ 1000000) (w : World) (hr : Bw w B v l) (hB : B ≤ w.heap.size) :
    Calls Tryz.prog 26 #[v, .int .u64 (N : Int), ci (size : Int)] w fun e w' => ∃ v', e = .returned v' ∧ Bw w' B v' (l ++ be size N) ∧ Ap w w' v v' := by
  have hrH : Hidden (Bw w B v l) := hr
  clear hr
  go_enter Tryz.func26, Tryz.ntmps26
  go_wp2
  go_loopg [0, 7] size (fun k x b wr => b = .int .i64 ((k : Int) - 1) ∧ k ≤ size ∧ ∃ pre, Bw wr B x (l ++ pre) ∧ Ap w wr v x ∧ pre ++ be k N = be size N)
  case atStart =>
    exact ⟨rfl, Nat.le_refl _, [], by rw [List.append_nil]; exact hrH, Ap.refl _ _, rfl⟩
  case round =>
    obtain ⟨rfl, hk, pre, hto, hap, hpre⟩ := hrel
    have hH : Hidden (Bw wr B u0 (l ++ pre) ∧ Ap w wr v u0 ∧ pre ++ be gk N = be size N) := ⟨hto, hap, hpre⟩
    clear hto hap hpre
    cases gk with
    | zero =>
      go_wp2
      go_ret
      obtain ⟨hto, hap, hpre⟩ := hH
      simp only [be, List.append_nil] at hpre
      subst hpre
      exact ⟨_, rfl, hto, hap⟩
    | succ k =>
      obtain ⟨hto, hap, hpre⟩ := id hH
      have hpl : pre.length ≤ 8 := by
        have := congrArg List.length hpre
        rw [List.length_append, be_len, be_len] at this
        omega
      have hplH : Hidden (pre.length ≤ 8) := hpl
      have hsz : B ≤ wr.heap.size := Nat.le_trans hB hap.fr.size
      clear hto hap hpre hpl
      go_wp2_with (at_builtin
                   refine wpl_append rfl _ _ 25 5 (.int .u8 0) 1 1 Tryz.underlying25 info_u8 rfl (by decide) rfl B u0 (l ++ pre).length (byC (l ++ pre)) ⟨wr.heap.size, 0, none⟩ 1 1 [.int .u8 ((N : Int) / 2 ^ (8 * k) % 256)] rfl ?c0 rfl rfl ?c1 ?c2 ?c3 ?c4 ?c5 ?_
                   case c0 => exact (show Bw wr B u0 (l ++ pre) from hH.1).keepN (Fr.alloc _ _ _)
                   case c1 =>
                     intro j u hu
                     cases j with
                     | zero =>
                       simp only [List.getElem?_cons_zero, Option.some.injEq] at hu
                       subst hu
                       exact cell_of_row _ _ 0 _ _ _ (alloc_new _ _)
                     | succ j => simp at hu
                   case c2 => intro u hu; simp at hu; subst hu; rfl
                   case c3 => have : pre.length ≤ 8 := hplH; simp only [List.length_append, maxLen]; omega
                   case c4 => have : pre.length ≤ 8 := hplH; simp only [List.length_append]; omega
                   case c5 => simp; omega
                   intro v1 w1 hr1 f1 o1)
      go_roundg k
      case measure => omega
      case rel =>
        obtain ⟨hto, hap, hpre⟩ := hH
        refine ⟨by go_num, by omega, pre ++ [UInt8.ofNat (N / 256 ^ k % 256)], ?_, ?_, by rw [← hpre, be]; simp⟩
        · rw [be_cell] at hr1
          show w1.ownsRow B _ 1 v1 (l ++ (pre ++ [_])).length (byC (l ++ (pre ++ [_])))
          rw [← List.append_assoc, byC_app, show (l ++ pre ++ [UInt8.ofNat (N / 256 ^ k % 256)]).length = (l ++ pre).length + 1 by rw [List.length_append]; rfl]
          exact hr1
        · exact hap.trans (Ap.after (Fr.alloc _ _ _) (Ap.of f1 (by
            rcases o1 with o | o
            · exact Or.inl o
            · exact Or.inr o)))
theorem wd_le (op : Int) : wd op ≤ 2 := by
  unfold wd
  by_cases h1 : op = 2 ∨ op = 3 ∨ op = 6 ∨ op = 7
  · rw [if_pos h1]; omega
  · rw [if_neg h1]
    by_cases h2 : op = 4 ∨ op = 5 ∨ op = 8 ∨ op = 9 ∨ op = 10 ∨ op = 15
    · rw [if_pos h2]; omega
    · rw [if_neg h2]; omega
/-- One byte more. -/
theorem one_more {w1 : World} {B : Nat} {v1 : Value} {l : Bs} {c : UInt8} {z : Int} (hz : (c.toNat : Int) = z) (h : w1.ownsRow B 5 1 v1 (l.length + 1) (byC l ++ [.int .u8 z])) : Bw w1 B v1 (l ++ [c]) := by
  subst hz
  show w1.ownsRow B _ 1 v1 (l ++ [c]).length (byC (l ++ [c]))
  rw [byC_app, show (l ++ [c]).length = l.length + 1 by rw [List.length_append]; rfl]
  exact h
/-- append of one byte to a row of the call's own. -/
theorem wpl_byte {w : World} {ops : Array Oper} {rest : List Oper} {o : Oper} {a : Act} {Q : Exit → Act → World → Prop} (hgd : o.guard = none) (s x : Operand)
    (ho : o.op = .call { callee := .builtin .append, args := #[s, x], argTypes := #[25, 25] }) (B : Nat) (v : Value) (l : Bs) (c : UInt8) (g : Nat) (z : Int)
    (hs : a.eval s = v) (hr : Bw w B v l) (hx : a.eval x = .slice (some ⟨g, 0, none⟩) 1 1) (hc : w.cell? ⟨g, 0, none⟩ = some (.int .u8 z)) (hz : (c.toNat : Int) = z) (hl : l.length ≤ 1000000) (hB : B ≤ w.heap.size)
    (h : ∀ v' w', Bw w' B v' (l ++ [c]) → Ap w w' v v' → wpList Tryz.prog ops Q rest (a.put o.dst v') w') : wpList Tryz.prog ops Q (o :: rest) a w := by
  refine wpl_append hgd s x 25 5 (.int .u8 0) 1 1 Tryz.underlying25 info_u8 rfl (by decide) ho B v l.length (byC l) ⟨g, 0, none⟩ 1 1 [.int .u8 z] hs hr hx rfl ?_ ?_ ?_ ?_ hB ?_
  · intro j u hu
    cases j with
    | zero =>
      simp only [List.getElem?_cons_zero, Option.some.injEq] at hu
      subst hu
      exact hc
    | succ j => simp at hu
  · intro u hu; simp at hu; subst hu; rfl
  · simp only [maxLen]; omega
  · omega
  · intro v' w' h1 h2 h3
    exact h v' w' (one_more hz h1) (Ap.of h2 h3)
set_option maxRecDepth 20000 in
set_option maxHeartbeats 1000000 in
theorem apins_any (B : Nat) (v : Value) (l : Bs) (i : In) (hi : rightS i = true) (hb : U64 i.b) (hl : l.length ≤ 100000) (w : World) (hr : Bw w B v l) (hB : B ≤ w.heap.size) :
    Calls Tryz.prog 13 #[v, inV i] w fun e w' => ∃ v', e = .returned v' ∧ Bw w' B v' (l ++ encI i) ∧ Ap w w' v v' := by
  have hk := (right_parts hi).1
  have hop : 1 ≤ i.op ∧ i.op ≤ 17 := by simpa [known] using hk
  have ks := fun w => size_any i w
  have hrH : Hidden (Bw w B v l) := hr
  have enc : Hidden (encI i = UInt8.ofNat i.op.toNat :: (if i.op = 1 then UInt8.ofNat i.t.toNat :: be 8 i.b.toNat else be (wd i.op) i.n.toNat)) := rfl
  have ho8 : Hidden (((UInt8.ofNat i.op.toNat).toNat : Int) = i.op) := by show _ = _; rw [u8_of _ (by omega)]; omega
  have hvs : Hidden (i.op = 1 → 0 ≤ i.t ∧ i.t < 256) := fun e => val_small hi e
  have hns : Hidden (i.op ≠ 1 → i.n.toNat < 256 ^ wd i.op ∧ 0 ≤ i.n) := fun e => hi_lt hi e
  have hsz : Hidden (i.op ≠ 1 → sizeS i.op = 1 + (wd i.op : Int)) := fun e => by unfold sizeS; rw [if_pos hk, if_neg e]
  have hwd : Hidden (wd i.op ≤ 2) := wd_le i.op
  generalize encI i = E at enc ⊢
  clear hi hk hr
  obtain ⟨op, n, t, b⟩ := i
  simp only [] at *
  have hm : op % 256 = op := by omega
  obtain ⟨c, hc⟩ : ∃ c : UInt8, c = UInt8.ofNat op.toNat := ⟨_, rfl⟩
  rw [← hc] at enc ho8
  clear hc
  by_cases h1 : op = 1
  · subst h1
    have hv := (show (1 : Int) = 1 → 0 ≤ t ∧ t < 256 from hvs) rfl
    have hm2 : t % 256 = t := by omega
    have kn := fun (v : Value) (l : Bs) (w : World) (hl : l.length ≤ 1000000) (hr : Bw w B v l) (hB : B ≤ w.heap.size) => apnum_any B v l b.toNat 8 (by obtain ⟨_, _⟩ := hb; omega) (by decide) hl w hr hB
    rw [show ((b.toNat : Nat) : Int) = b by obtain ⟨_, _⟩ := hb; omega] at kn
    have hBd := own_block (show Bw w B v l from hrH)
    go_enter Tryz.func13, Tryz.ntmps13
    go_wp2_with (first
      | (at_builtin
         have q := a1
         refine wpl_byte rfl _ _ rfl B v1 (l ++ [c]) (UInt8.ofNat t.toNat) W1.heap.size t rfl ?d0 rfl ?d1 ?d2 ?d3 ?d4 ?_
         case d0 => exact hr1.keepN (Fr.alloc _ _ _)
         case d1 => exact cell_of_row _ _ 0 _ _ _ (alloc_new _ _)
         case d2 => rw [u8_of _ (by omega)]; omega
         case d3 => simp; omega
         case d4 => have := a1.fr.size; simp at this ⊢; omega
         intro v2 W2 hr2 a2
         have e2 := a2.heap ((Fr.alloc (fun _ => False) W1 (.cells #[.int .u8 t] 5 (0, 0))).heap e1 (fun f => f)) (by
           rcases a1.own with o | ⟨k, o, hk⟩
           · rw [o]; intro e; have := (hBd _ e).2; omega
           · rw [o]; simp at hk; intro e; cases e; omega)
         obtain ⟨k0, k1, k2, k3⟩ := box4 e2)
      | (at_builtin
         refine wpl_byte rfl _ _ rfl B v l c (w.heap.size + 1) 1 rfl ?c0 rfl ?c1 ?c2 ?c3 ?c4 ?_
         case c0 => exact ((show Bw w B v l from hrH).keepN (Fr.alloc _ _ _)).keepN (Fr.alloc _ _ _)
         case c1 => exact cell_of_row _ _ 0 _ _ _ (heap_alloc2_new _ _ _)
         case c2 => exact ho8
         case c3 => omega
         case c4 => simp; omega
         intro v1 W1 hr1 a1
         have e1 := a1.heap (heap_alloc2_old w (.cells #[ci 1, ci n, ci t, .int .u64 b] 41 (0, 0)) (.cells #[.int .u8 1] 5 (0, 0))) (fun e => by have := (hBd _ e).2; omega)
         obtain ⟨j0, j1, j2, j3⟩ := box4 e1)
      | (go_at_call 26
         refine (kn v2 (l ++ [c] ++ [UInt8.ofNat t.toNat]) W2 (by simp; omega) hr2 (by have := a1.fr.size; have := a2.fr.size; simp at *; omega)).mono ?_
         rintro e W3 ⟨v3, rfl, hr3, a3⟩))
    go_ret
    refine ⟨_, rfl, ?_, ?_⟩
    · have ee : E = c :: UInt8.ofNat t.toNat :: be 8 b.toNat := by simpa [Hidden] using enc
      rw [ee]
      simpa using hr3
    · exact (Ap.after ((Fr.alloc _ _ _).same (Fr.alloc _ _ _)) a1).trans ((Ap.after (Fr.alloc _ _ _) a2).trans a3)
  · have hns := (show op ≠ 1 → _ from hns) h1
    have ee : Hidden (E = c :: be (wd op) n.toNat) := by
      have := enc
      simp only [Hidden] at this
      rw [if_neg h1] at this
      exact this
    have hsz' : sizeS op = 1 + (wd op : Int) := (show op ≠ 1 → _ from hsz) h1
    rw [hsz'] at ks
    have h1b : (op == 1) = false := by simp [h1]
    have hwd' : wd op ≤ 2 := hwd
    have hn64 : n.toNat < 18446744073709551616 := by
      have : 256 ^ wd op ≤ 256 ^ 2 := Nat.pow_le_pow_right (by decide) hwd'
      have e : (256 : Nat) ^ 2 = 65536 := rfl
      omega
    obtain ⟨k, hk⟩ : ∃ k, k = wd op := ⟨_, rfl⟩
    rw [← hk] at ks hwd' ee
    have kn := fun (v : Value) (l : Bs) (w : World) (hl : l.length ≤ 1000000) (hr : Bw w B v l) (hB : B ≤ w.heap.size) => apnum_any B v l n.toNat k hn64 (by omega) hl w hr hB
    rw [show ((n.toNat : Nat) : Int) = n by omega] at kn
    have hBd := own_block (show Bw w B v l from hrH)
    have hn0 : 0 ≤ n ∧ n < 18446744073709551616 := by omega
    clear hns hk hsz' hsz enc h1 hn64 hvs hwd
    go_enter Tryz.func13, Tryz.ntmps13
    go_upto_region 5 with (first
      | (at_builtin
         refine wpl_byte rfl _ _ rfl B v l c (w.heap.size + 1) op rfl ?c0 rfl ?c1 ?c2 ?c3 ?c4 ?_
         case c0 => exact ((show Bw w B v l from hrH).keepN (Fr.alloc _ _ _)).keepN (Fr.alloc _ _ _)
         case c1 => exact cell_of_row _ _ 0 _ _ _ (heap_alloc2_new _ _ _)
         case c2 => exact ho8
         case c3 => omega
         case c4 => simp; omega
         intro v1 W1 hr1 a1
         have e1 := a1.heap (heap_alloc2_old w (.cells #[ci op, ci n, ci t, .int .u64 b] 41 (0, 0)) (.cells #[.int .u8 op] 5 (0, 0))) (fun e => by have := (hBd _ e).2; omega)
         obtain ⟨j0, j1, j2, j3⟩ := box4 e1))
    have hB1 : B ≤ W1.heap.size := by have := a1.fr.size; simp at this; omega
    obtain ⟨z, hz⟩ : ∃ z, z = 1 + (k : Int) := ⟨_, rfl⟩
    rw [← hz] at ks
    have hw1 : IntKind.i64.wrap (z - 1) = (k : Int) := by rw [hz, IntKind.wrap_i64]; omega
    have hneH : Hidden (v1.ownBlock ≠ some w.heap.size) := by
      show _ ≠ _
      rcases a1.own with o | ⟨q, o, hq⟩
      · rw [o]; intro e; have := (hBd _ e).2; omega
      · rw [o]; simp at hq; intro e; cases e; omega
    have hw2 : IntKind.u64.wrap n = n := by rw [IntKind.wrap_u64]; omega
    obtain ⟨l1, hl1⟩ : ∃ l1, l1 = l ++ [c] := ⟨_, rfl⟩
    have hln : l1.length ≤ 1000000 := by rw [hl1]; simp; omega
    rw [← hl1] at hr1
    have hl1H : Hidden (l1 = l ++ [c]) := hl1
    have knW : ∀ W, Fr (fun _ => False) W1 W → Calls Tryz.prog 26 #[v1, .int .u64 n, ci (k : Int)] W fun e w' => ∃ v', e = .returned v' ∧ Bw w' B v' (l1 ++ be k n.toNat) ∧ Ap W w' v1 v' := fun W hW => kn v1 l1 W hln (hr1.keepN hW) (Nat.le_trans hB1 hW.size)
    have hn0H : Hidden (0 ≤ n ∧ n < 18446744073709551616) := hn0
    clear kn hl1 hm hz hwd' hn0 hr1 hln hB1 hB hl h1b e1 hBd
    go_region_held3 (fun w' => w'.cell? ⟨w.heap.size, 0, none⟩ = some (ci op) ∧ w'.cell? ⟨w.heap.size, 1, none⟩ = some (ci n) ∧ w'.cell? ⟨w.heap.size, 2, none⟩ = some (ci t) ∧ w'.cell? ⟨w.heap.size, 3, none⟩ = some (.int .u64 b)) (first | (refine ⟨by with_reducible assumption, by with_reducible assumption, by with_reducible assumption, by with_reducible assumption⟩) | go_keep) (first
      | (go_at_call 27; refine (ks _).mono ?_; rintro e W2 ⟨rfl, f2⟩
         have f2' : Fr (fun _ => False) W1 W2 := (Fr.drew _ _).same f2
         have i0 := f2'.cellN j0
         have i1 := f2'.cellN j1
         have i2 := f2'.cellN j2
         have i3 := f2'.cellN j3)
      | (go_at_call 26
         refine (knW W2 f2').mono ?_
         rintro e W3 ⟨v3, rfl, hr3, a3⟩
         have m0 := a3.fr.cell i0 hneH
         have m1 := a3.fr.cell i1 hneH
         have m2 := a3.fr.cell i2 hneH
         have m3 := a3.fr.cell i3 hneH))
    go_wp2_with fail
    go_ret
    have ee' : E = c :: be k n.toNat := ee
    have hl1' : l1 = l ++ [c] := hl1H
    refine ⟨_, rfl, ?_, (Ap.after ((Fr.alloc _ _ _).same (Fr.alloc _ _ _)) a1).trans (Ap.after f2' a3)⟩
    rw [ee']
    rw [hl1'] at hr3
    simpa using hr3
end Go.Proofs.YtooggbhplmmphaaGreatDoor.Cd
