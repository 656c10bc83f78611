/- Texts of ours, in one. -/
import Derived.Test.YtnmcehpdiopaiaaGreatDoorCdA
import Derived.Test.YtnmcehpdiopaiaaGreatDoorTyAll
namespace Go.Proofs.YtnmcehpdiopaiaaGreatDoor.Cd
open Go.RowKit Ty
set_option linter.unusedSimpArgs false
set_option linter.unusedVariables false

def byC (l : Bs) : List Value := l.map fun c => .int .u8 (c.toNat : Int)
/-- A row of bytes of the call's own. -/
def Bw (w : World) (B : Nat) (v : Value) (l : Bs) : Prop := w.ownsRow B 5 1 v l.length (byC l)
/-- A row of bytes. -/
def BL (w : World) (ao : Option Addr) (cap : Nat) (l : Bs) : Prop :=
  l.length ≤ cap ∧ cap ≤ maxLen ∧ (ao = none → cap = 0) ∧ (l = [] ∨ ∃ b off, ao = some ⟨b, off, none⟩ ∧ ∀ (i : Nat) (c : UInt8), l[i]? = some c → w.cell? ⟨b, off + i, none⟩ = some (.int .u8 (c.toNat : Int)))
def inC (i : In) : List Value := [ci i.op, ci i.n, ci i.t, .int .u64 i.b]
/-- A row of instructions of the call's own. -/
def IW (w : World) (B : Nat) (e : TypeId) (v : Value) (l : List In) : Prop := w.ownsRow B e 4 v l.length (l.flatMap inC)
/-- A row of instructions. -/
def IL (w : World) (ao : Option Addr) (cap : Nat) (l : List In) : Prop :=
  l.length ≤ cap ∧ cap ≤ maxLen ∧ (ao = none → cap = 0) ∧ (l = [] ∨ ∃ b off, ao = some ⟨b, off, none⟩ ∧ ∀ (i : Nat) (x : In), l[i]? = some x →
    ∀ (j : Nat) (u : Value), (inC x)[j]? = some u → w.cell? ⟨b, off + i * 4 + j, none⟩ = some u)
/-- A row of the call's own that went on growing. -/
structure Ap (w w' : World) (v v' : Value) : Prop where
  fr : Fr (fun b => v.ownBlock = some b) w w'
  own : v'.ownBlock = v.ownBlock ∨ ∃ b, v'.ownBlock = some b ∧ w.heap.size ≤ b
theorem Ap.refl (w : World) (v : Value) : Ap w w v v := ⟨Fr.refl _ _, Or.inl rfl⟩
theorem Ap.trans {a b c : World} {u v x : Value} (h : Ap a b u v) (g : Ap b c v x) : Ap a c u x := by
  refine ⟨h.fr.trans g.fr (fun k hk e => ?_), ?_⟩
  · rcases h.own with o | ⟨q, o, hq⟩
    · rw [← o]; exact e
    · rw [o] at e; cases e; omega
  · rcases g.own with o | ⟨q, o, hq⟩
    · rw [o]; exact h.own
    · exact Or.inr ⟨q, o, Nat.le_trans h.fr.size hq⟩
theorem Ap.then {a b c : World} {u v : Value} (h : Ap a b u v) (g : Fr (fun _ => False) b c) : Ap a c u v := ⟨h.fr.trans g (fun _ _ f => f.elim), h.own⟩
theorem Ap.after {a b c : World} {u v : Value} (g : Fr (fun _ => False) a b) (h : Ap b c u v) : Ap a c u v := ⟨(g.mono (fun _ _ f => f.elim)).same h.fr, by
  rcases h.own with o | ⟨q, o, hq⟩
  · exact Or.inl o
  · exact Or.inr ⟨q, o, Nat.le_trans g.size hq⟩⟩
theorem Ap.none {a b : World} {v : Value} (h : Ap a b (.slice none 0 0) v) : Fr (fun _ => False) a b := h.fr.mono (fun k _ e => by cases e)
theorem Ap.of {w w' : World} {v v' : Value} (f : Fr (fun b => v.ownBlock = some b) w w') (o : v'.ownBlock = v.ownBlock ∨ v'.ownBlock = some w.heap.size) : Ap w w' v v' := ⟨f, by
  rcases o with o | o
  · exact Or.inl o
  · exact Or.inr ⟨_, o, Nat.le_refl _⟩⟩
/-- What is older than the row's first world stays. -/
theorem Ap.heap {a b : World} {u v : Value} (h : Ap a b u v) {k : Nat} {o : Obj} (hk : a.heap[k]? = some o) (hn : u.ownBlock ≠ some k) : b.heap[k]? = some o := h.fr.heap hk hn
theorem byC_app (a b : Bs) : byC (a ++ b) = byC a ++ byC b := by simp [byC]
theorem byC_len (a : Bs) : (byC a).length = a.length := by simp [byC]
theorem Bw.nil (w : World) (B : Nat) : Bw w B (.slice none 0 0) [] := own_nil w B _ 1
theorem IW.nil (w : World) (B : Nat) (e : TypeId) : IW w B e (.slice none 0 0) [] := own_nil w B e 4
theorem Bw.keep {S : Nat → Prop} {w w' : World} {B : Nat} {v : Value} {l : Bs} (h : Bw w B v l) (hf : Fr S w w') (hn : ∀ k, v.ownBlock = some k → ¬ S k) : Bw w' B v l := own_keep h hf hn
theorem Bw.keepN {w w' : World} {B : Nat} {v : Value} {l : Bs} (h : Bw w B v l) (hf : Fr (fun _ => False) w w') : Bw w' B v l := own_keep h hf (fun _ _ f => f)
theorem IW.keepN {w w' : World} {B : Nat} {e : TypeId} {v : Value} {l : List In} (h : IW w B e v l) (hf : Fr (fun _ => False) w w') : IW w' B e v l := own_keep h hf (fun _ _ f => f)
theorem IW.keep {S : Nat → Prop} {w w' : World} {B : Nat} {e : TypeId} {v : Value} {l : List In} (h : IW w B e v l) (hf : Fr S w w') (hn : ∀ k, v.ownBlock = some k → ¬ S k) : IW w' B e v l := own_keep h hf hn
theorem IL.keep {w w' : World} {ao : Option Addr} {cap : Nat} {l : List In} (h : IL w ao cap l) (hf : Fr (fun _ => False) w w') : IL w' ao cap l := by
  obtain ⟨h1, h2, h3, h4⟩ := h
  refine ⟨h1, h2, h3, ?_⟩
  rcases h4 with h4 | ⟨b, off, rfl, h4⟩
  · exact Or.inl h4
  · exact Or.inr ⟨b, off, rfl, fun i x hx j u hu => hf.cellN (h4 i x hx j u hu)⟩
theorem BL.keep {w w' : World} {ao : Option Addr} {cap : Nat} {l : Bs} (h : BL w ao cap l) (hf : Fr (fun _ => False) w w') : BL w' ao cap l := by
  obtain ⟨h1, h2, h3, h4⟩ := h
  refine ⟨h1, h2, h3, ?_⟩
  rcases h4 with h4 | ⟨b, off, rfl, h4⟩
  · exact Or.inl h4
  · exact Or.inr ⟨b, off, rfl, fun i x hx => hf.cellN (h4 i x hx)⟩
/-- The four cells of one of a row. -/
theorem IL.at' {w : World} {b off cap : Nat} {l : List In} (h : ∀ (i : Nat) (x : In), l[i]? = some x → ∀ (j : Nat) (u : Value), (inC x)[j]? = some u → w.cell? ⟨b, off + i * 4 + j, none⟩ = some u) {i : Nat} {x : In} (hx : l[i]? = some x) :
    w.cell? ⟨b, off + i * 4, none⟩ = some (ci x.op) ∧ w.cell? ⟨b, off + i * 4 + 1, none⟩ = some (ci x.n) ∧ w.cell? ⟨b, off + i * 4 + 2, none⟩ = some (ci x.t) ∧ w.cell? ⟨b, off + i * 4 + 3, none⟩ = some (.int .u64 x.b) :=
  ⟨h i x hx 0 _ rfl, h i x hx 1 _ rfl, h i x hx 2 _ rfl, h i x hx 3 _ rfl⟩
theorem inC_len (i : In) : (inC i).length = 4 := rfl
theorem flat_len (l : List In) : (l.flatMap inC).length = l.length * 4 := by
  induction l with
  | nil => rfl
  | cons x r ih => simp [List.flatMap_cons, ih, inC_len]; omega
theorem flat_get : ∀ (l : List In) (i : Nat) (x : In), l[i]? = some x → ∀ (j : Nat) (u : Value), (inC x)[j]? = some u → (l.flatMap inC)[i * 4 + j]? = some u
  | [], i, x, h, _, _, _ => by simp at h
  | y :: r, 0, x, h, j, u, hu => by
    simp at h
    subst h
    have hj : j < (inC y).length := (List.getElem?_eq_some_iff.1 hu).1
    rw [List.flatMap_cons, List.getElem?_append_left (by omega), Nat.zero_mul, Nat.zero_add]
    exact hu
  | y :: r, i + 1, x, h, j, u, hu => by
    rw [List.flatMap_cons, List.getElem?_append_right (by rw [inC_len]; omega), inC_len, show (i + 1) * 4 + j - 4 = i * 4 + j by omega]
    exact flat_get r i x (by simpa using h) j u hu
theorem IW.il {w : World} {B : Nat} {e : TypeId} {v : Value} {l : List In} (h : IW w B e v l) : ∃ ao cap, v = .slice ao l.length cap ∧ IL w ao cap l := by
  rcases own_slice h (by decide) with ⟨ao, cap, rfl, h1, h2, h3, _, h4⟩
  refine ⟨ao, cap, rfl, h1, h2, h3, ?_⟩
  rcases h4 with h4 | ⟨g, rfl, _, _, h4⟩
  · exact Or.inl (List.length_eq_zero_iff.1 h4)
  · refine Or.inr ⟨g, 0, rfl, fun i x hx j u hu => ?_⟩
    rw [Nat.zero_add]
    exact h4 _ _ (flat_get l i x hx j u hu)
theorem Bw.bl {w : World} {B : Nat} {v : Value} {l : Bs} (h : Bw w B v l) : ∃ ao cap, v = .slice ao l.length cap ∧ BL w ao cap l := by
  rcases own_slice h (by decide) with ⟨ao, cap, rfl, h1, h2, h3, _, h4⟩
  refine ⟨ao, cap, rfl, h1, h2, h3, ?_⟩
  rcases h4 with h4 | ⟨g, rfl, _, _, h4⟩
  · exact Or.inl (List.length_eq_zero_iff.1 h4)
  · refine Or.inr ⟨g, 0, rfl, fun i x hx => ?_⟩
    rw [Nat.zero_add]
    exact h4 _ _ (by simp [byC, hx])
theorem info_u8 : (Tryz.prog.info? 5).map (fun i => (i.zero, i.size, i.bytes)) = some (some (.int .u8 0), 1, 1) := by kernel_rfl
theorem info_in : (Tryz.prog.info? 64).map (fun i => (i.zero, i.size, i.bytes)) = some (some (.agg #[.int .i64 0, .int .i64 0, .int .i64 0, .int .u64 0]), 4, 32) := by kernel_rfl
end Go.Proofs.YtnmcehpdiopaiaaGreatDoor.Cd

namespace Go.Proofs.YtnmcehpdiopaiaaGreatDoor.Cd
open Go.RowKit Ty
set_option linter.unusedSimpArgs false
set_option linter.unusedVariables false

theorem byR_le (op : Int) : 0 ≤ byR op ∧ byR op ≤ 9 := by
  unfold byR wd
  repeat' split
  all_goals omega
set_option maxRecDepth 20000 in
set_option maxHeartbeats 1000000 in
theorem size_any (i : In) (w : World) : Calls Tryz.prog 51 #[inV i] w fun e w' => e = .returned (ci (sizeS i.op)) ∧ Fr (fun _ => False) w w' := by
  obtain ⟨op, n, t, b⟩ := i
  have kr := fun w => row_is op w
  have hby := byR_le op
  have hs : sizeS op = if known op then 1 + byR op else 0 := by
    unfold sizeS byR
    split
    · split <;> simp_all
    · rfl
  simp only [] at *
  rw [hs]
  clear hs
  generalize nmR op = nm at kr
  generalize byR op = by' at kr hby ⊢
  generalize lo op = l at kr
  generalize hi op = h at kr
  generalize nuR op = nu at kr
  generalize taR op = ta at kr
  generalize puR op = pu at kr
  generalize trR op = tr at kr
  generalize enR op = en at kr
  generalize known op = kn at kr ⊢
  cases kn
  all_goals
    go_enter Tryz.func51, Tryz.ntmps51
    go_wp2_with (first
      | (go_at_call 31; refine (kr _).mono ?_; rintro e w1 ⟨rfl, f1⟩))
    go_ret
    exact ⟨by rfl, ((Fr.alloc _ _ _).same f1).same (Fr.alloc _ _ _)⟩
set_option maxRecDepth 20000 in
theorem rwidth_any (op : Int) (w : World) : Calls Tryz.prog 67 #[ci op] w fun e w' => e = .returned (ci (wd op : Int)) ∧ w' = w := by
  have key : (op = 1 ∨ op = 2 ∨ op = 3 ∨ op = 4 ∨ op = 5 ∨ op = 6 ∨ op = 7 ∨ op = 8 ∨ op = 9 ∨ op = 10 ∨ op = 15) ∨ (wd op = 0 ∧ (op == 2) = false ∧ (op == 3) = false ∧ (op == 6) = false ∧ (op == 7) = false ∧ (op == 4) = false ∧ (op == 5) = false ∧ (op == 8) = false ∧ (op == 9) = false ∧ (op == 10) = false ∧ (op == 15) = false) := by
    by_cases h : op = 2 ∨ op = 3 ∨ op = 6 ∨ op = 7 ∨ op = 4 ∨ op = 5 ∨ op = 8 ∨ op = 9 ∨ op = 10 ∨ op = 15
    · left; omega
    · right
      refine ⟨by unfold wd; rw [if_neg (by omega), if_neg (by omega)], ?_⟩
      simp only [beq_eq_false_iff_ne]
      omega
  rcases key with key | ⟨h0, k2, k3, k6, k7, k4, k5, k8, k9, k10, k15⟩
  · rcases key with rfl | rfl | rfl | rfl | rfl | rfl | rfl | rfl | rfl | rfl | rfl
    all_goals
      go_enter Tryz.func67, Tryz.ntmps67
      go_wp2
      go_ret
      exact ⟨rfl, rfl⟩
  · rw [h0]
    clear h0
    go_enter Tryz.func67, Tryz.ntmps67
    go_wp2
    go_ret
    exact ⟨rfl, rfl⟩
end Go.Proofs.YtnmcehpdiopaiaaGreatDoor.Cd

namespace Go.Proofs.YtnmcehpdiopaiaaGreatDoor.Cd
open Go.RowKit Ty
set_option linter.unusedSimpArgs false
set_option linter.unusedVariables false

theorem pow8 (k : Nat) : (2 : Nat) ^ (8 * k) = 256 ^ k := by rw [Nat.pow_mul]
theorem be_cell (N k : Nat) : (Value.int .u8 ((N : Int) / 2 ^ (8 * k) % 256)) = .int .u8 ((UInt8.ofNat (N / 256 ^ k % 256)).toNat : Int) := by
  rw [u8_of _ (Nat.mod_lt _ (by decide))]
  congr 1
  have : ((2 : Int) ^ (8 * k)) = ((256 ^ k : Nat) : Int) := by rw [← pow8, Int.natCast_pow]; rfl
  rw [this]
  generalize 256 ^ k = q
  rw [Int.natCast_emod, Int.natCast_ediv]
  rfl
set_option maxRecDepth 20000 in
set_option maxHeartbeats 1000000 in
theorem apnum_any (B : Nat) (v : Value) (l : Bs) (N size : Nat) (hN : N < 18446744073709551616) (hs : size ≤ 8) (hl : l.length ≤ 1000000) (w : World) (hr : Bw w B v l) (hB : B ≤ w.heap.size) :
    Calls Tryz.prog 50 #[v, .int .u64 (N : Int), ci (size : Int)] w fun e w' => ∃ v', e = .returned v' ∧ Bw w' B v' (l ++ be size N) ∧ Ap w w' v v' := by
  have hrH : Hidden (Bw w B v l) := hr
  clear hr
  go_enter Tryz.func50, Tryz.ntmps50
  go_wp2
  go_loopg [0, 7] size (fun k x b wr => b = .int .i64 ((k : Int) - 1) ∧ k ≤ size ∧ ∃ pre, Bw wr B x (l ++ pre) ∧ Ap w wr v x ∧ pre ++ be k N = be size N)
  case atStart =>
    exact ⟨rfl, Nat.le_refl _, [], by rw [List.append_nil]; exact hrH, Ap.refl _ _, rfl⟩
  case round =>
    obtain ⟨rfl, hk, pre, hto, hap, hpre⟩ := hrel
    have hH : Hidden (Bw wr B u0 (l ++ pre) ∧ Ap w wr v u0 ∧ pre ++ be gk N = be size N) := ⟨hto, hap, hpre⟩
    clear hto hap hpre
    cases gk with
    | zero =>
      go_wp2
      go_ret
      obtain ⟨hto, hap, hpre⟩ := hH
      simp only [be, List.append_nil] at hpre
      subst hpre
      exact ⟨_, rfl, hto, hap⟩
    | succ k =>
      obtain ⟨hto, hap, hpre⟩ := id hH
      have hpl : pre.length ≤ 8 := by
        have := congrArg List.length hpre
        rw [List.length_append, be_len, be_len] at this
        omega
      have hplH : Hidden (pre.length ≤ 8) := hpl
      have hsz : B ≤ wr.heap.size := Nat.le_trans hB hap.fr.size
      clear hto hap hpre hpl
      go_wp2_with (at_builtin
                   refine wpl_append rfl _ _ 65 5 (.int .u8 0) 1 1 Tryz.underlying65 info_u8 rfl (by decide) rfl B u0 (l ++ pre).length (byC (l ++ pre)) ⟨wr.heap.size, 0, none⟩ 1 1 [.int .u8 ((N : Int) / 2 ^ (8 * k) % 256)] rfl ?c0 rfl rfl ?c1 ?c2 ?c3 ?c4 ?c5 ?_
                   case c0 => exact (show Bw wr B u0 (l ++ pre) from hH.1).keepN (Fr.alloc _ _ _)
                   case c1 =>
                     intro j u hu
                     cases j with
                     | zero =>
                       simp only [List.getElem?_cons_zero, Option.some.injEq] at hu
                       subst hu
                       exact cell_of_row _ _ 0 _ _ _ (alloc_new _ _)
                     | succ j => simp at hu
                   case c2 => intro u hu; simp at hu; subst hu; rfl
                   case c3 => have : pre.length ≤ 8 := hplH; simp only [List.length_append, maxLen]; omega
                   case c4 => have : pre.length ≤ 8 := hplH; simp only [List.length_append]; omega
                   case c5 => simp; omega
                   intro v1 w1 hr1 f1 o1)
      go_roundg k
      case measure => omega
      case rel =>
        obtain ⟨hto, hap, hpre⟩ := hH
        refine ⟨by go_num, by omega, pre ++ [UInt8.ofNat (N / 256 ^ k % 256)], ?_, ?_, by rw [← hpre, be]; simp⟩
        · rw [be_cell] at hr1
          show w1.ownsRow B _ 1 v1 (l ++ (pre ++ [_])).length (byC (l ++ (pre ++ [_])))
          rw [← List.append_assoc, byC_app, show (l ++ pre ++ [UInt8.ofNat (N / 256 ^ k % 256)]).length = (l ++ pre).length + 1 by rw [List.length_append]; rfl]
          exact hr1
        · exact hap.trans (Ap.after (Fr.alloc _ _ _) (Ap.of f1 (by
            rcases o1 with o | o
            · exact Or.inl o
            · exact Or.inr o)))
theorem wd_le (op : Int) : wd op ≤ 2 := by
  unfold wd
  by_cases h1 : op = 2 ∨ op = 3 ∨ op = 6 ∨ op = 7
  · rw [if_pos h1]; omega
  · rw [if_neg h1]
    by_cases h2 : op = 4 ∨ op = 5 ∨ op = 8 ∨ op = 9 ∨ op = 10 ∨ op = 15
    · rw [if_pos h2]; omega
    · rw [if_neg h2]; omega
/-- One byte more. -/
theorem one_more {w1 : World} {B : Nat} {v1 : Value} {l : Bs} {c : UInt8} {z : Int} (hz : (c.toNat : Int) = z) (h : w1.ownsRow B 5 1 v1 (l.length + 1) (byC l ++ [.int .u8 z])) : Bw w1 B v1 (l ++ [c]) := by
  subst hz
  show w1.ownsRow B _ 1 v1 (l ++ [c]).length (byC (l ++ [c]))
  rw [byC_app, show (l ++ [c]).length = l.length + 1 by rw [List.length_append]; rfl]
  exact h
/-- append of one byte to a row of the call's own. -/
theorem wpl_byte {w : World} {ops : Array Oper} {rest : List Oper} {o : Oper} {a : Act} {Q : Exit → Act → World → Prop} (hgd : o.guard = none) (s x : Operand)
    (ho : o.op = .call { callee := .builtin .append, args := #[s, x], argTypes := #[65, 65] }) (B : Nat) (v : Value) (l : Bs) (c : UInt8) (g : Nat) (z : Int)
    (hs : a.eval s = v) (hr : Bw w B v l) (hx : a.eval x = .slice (some ⟨g, 0, none⟩) 1 1) (hc : w.cell? ⟨g, 0, none⟩ = some (.int .u8 z)) (hz : (c.toNat : Int) = z) (hl : l.length ≤ 1000000) (hB : B ≤ w.heap.size)
    (h : ∀ v' w', Bw w' B v' (l ++ [c]) → Ap w w' v v' → wpList Tryz.prog ops Q rest (a.put o.dst v') w') : wpList Tryz.prog ops Q (o :: rest) a w := by
  refine wpl_append hgd s x 65 5 (.int .u8 0) 1 1 Tryz.underlying65 info_u8 rfl (by decide) ho B v l.length (byC l) ⟨g, 0, none⟩ 1 1 [.int .u8 z] hs hr hx rfl ?_ ?_ ?_ ?_ hB ?_
  · intro j u hu
    cases j with
    | zero =>
      simp only [List.getElem?_cons_zero, Option.some.injEq] at hu
      subst hu
      exact hc
    | succ j => simp at hu
  · intro u hu; simp at hu; subst hu; rfl
  · simp only [maxLen]; omega
  · omega
  · intro v' w' h1 h2 h3
    exact h v' w' (one_more hz h1) (Ap.of h2 h3)
set_option maxRecDepth 20000 in
set_option maxHeartbeats 1000000 in
theorem apins_any (B : Nat) (v : Value) (l : Bs) (i : In) (hi : rightS i = true) (hb : U64 i.b) (hl : l.length ≤ 100000) (w : World) (hr : Bw w B v l) (hB : B ≤ w.heap.size) :
    Calls Tryz.prog 30 #[v, inV i] w fun e w' => ∃ v', e = .returned v' ∧ Bw w' B v' (l ++ encI i) ∧ Ap w w' v v' := by
  have hk := (right_parts hi).1
  have hop : 1 ≤ i.op ∧ i.op ≤ 17 := by simpa [known] using hk
  have ks := fun w => size_any i w
  have hrH : Hidden (Bw w B v l) := hr
  have enc : Hidden (encI i = UInt8.ofNat i.op.toNat :: (if i.op = 1 then UInt8.ofNat i.t.toNat :: be 8 i.b.toNat else be (wd i.op) i.n.toNat)) := rfl
  have ho8 : Hidden (((UInt8.ofNat i.op.toNat).toNat : Int) = i.op) := by show _ = _; rw [u8_of _ (by omega)]; omega
  have hvs : Hidden (i.op = 1 → 0 ≤ i.t ∧ i.t < 256) := fun e => val_small hi e
  have hns : Hidden (i.op ≠ 1 → i.n.toNat < 256 ^ wd i.op ∧ 0 ≤ i.n) := fun e => hi_lt hi e
  have hsz : Hidden (i.op ≠ 1 → sizeS i.op = 1 + (wd i.op : Int)) := fun e => by unfold sizeS; rw [if_pos hk, if_neg e]
  have hwd : Hidden (wd i.op ≤ 2) := wd_le i.op
  generalize encI i = E at enc ⊢
  clear hi hk hr
  obtain ⟨op, n, t, b⟩ := i
  simp only [] at *
  have hm : op % 256 = op := by omega
  obtain ⟨c, hc⟩ : ∃ c : UInt8, c = UInt8.ofNat op.toNat := ⟨_, rfl⟩
  rw [← hc] at enc ho8
  clear hc
  by_cases h1 : op = 1
  · subst h1
    have hv := (show (1 : Int) = 1 → 0 ≤ t ∧ t < 256 from hvs) rfl
    have hm2 : t % 256 = t := by omega
    have kn := fun (v : Value) (l : Bs) (w : World) (hl : l.length ≤ 1000000) (hr : Bw w B v l) (hB : B ≤ w.heap.size) => apnum_any B v l b.toNat 8 (by obtain ⟨_, _⟩ := hb; omega) (by decide) hl w hr hB
    rw [show ((b.toNat : Nat) : Int) = b by obtain ⟨_, _⟩ := hb; omega] at kn
    have hBd := own_block (show Bw w B v l from hrH)
    go_enter Tryz.func30, Tryz.ntmps30
    go_wp2_with (first
      | (at_builtin
         have q := a1
         refine wpl_byte rfl _ _ rfl B v1 (l ++ [c]) (UInt8.ofNat t.toNat) W1.heap.size t rfl ?d0 rfl ?d1 ?d2 ?d3 ?d4 ?_
         case d0 => exact hr1.keepN (Fr.alloc _ _ _)
         case d1 => exact cell_of_row _ _ 0 _ _ _ (alloc_new _ _)
         case d2 => rw [u8_of _ (by omega)]; omega
         case d3 => simp; omega
         case d4 => have := a1.fr.size; simp at this ⊢; omega
         intro v2 W2 hr2 a2
         have e2 := a2.heap ((Fr.alloc (fun _ => False) W1 (.cells #[.int .u8 t] 5 (0, 0))).heap e1 (fun f => f)) (by
           rcases a1.own with o | ⟨k, o, hk⟩
           · rw [o]; intro e; have := (hBd _ e).2; omega
           · rw [o]; simp at hk; intro e; cases e; omega)
         obtain ⟨k0, k1, k2, k3⟩ := box4 e2)
      | (at_builtin
         refine wpl_byte rfl _ _ rfl B v l c (w.heap.size + 1) 1 rfl ?c0 rfl ?c1 ?c2 ?c3 ?c4 ?_
         case c0 => exact ((show Bw w B v l from hrH).keepN (Fr.alloc _ _ _)).keepN (Fr.alloc _ _ _)
         case c1 => exact cell_of_row _ _ 0 _ _ _ (heap_alloc2_new _ _ _)
         case c2 => exact ho8
         case c3 => omega
         case c4 => simp; omega
         intro v1 W1 hr1 a1
         have e1 := a1.heap (heap_alloc2_old w (.cells #[ci 1, ci n, ci t, .int .u64 b] 64 (0, 0)) (.cells #[.int .u8 1] 5 (0, 0))) (fun e => by have := (hBd _ e).2; omega)
         obtain ⟨j0, j1, j2, j3⟩ := box4 e1)
      | (go_at_call 50
         refine (kn v2 (l ++ [c] ++ [UInt8.ofNat t.toNat]) W2 (by simp; omega) hr2 (by have := a1.fr.size; have := a2.fr.size; simp at *; omega)).mono ?_
         rintro e W3 ⟨v3, rfl, hr3, a3⟩))
    go_ret
    refine ⟨_, rfl, ?_, ?_⟩
    · have ee : E = c :: UInt8.ofNat t.toNat :: be 8 b.toNat := by simpa [Hidden] using enc
      rw [ee]
      simpa using hr3
    · exact (Ap.after ((Fr.alloc _ _ _).same (Fr.alloc _ _ _)) a1).trans ((Ap.after (Fr.alloc _ _ _) a2).trans a3)
  · have hns := (show op ≠ 1 → _ from hns) h1
    have ee : Hidden (E = c :: be (wd op) n.toNat) := by
      have := enc
      simp only [Hidden] at this
      rw [if_neg h1] at this
      exact this
    have hsz' : sizeS op = 1 + (wd op : Int) := (show op ≠ 1 → _ from hsz) h1
    rw [hsz'] at ks
    have h1b : (op == 1) = false := by simp [h1]
    have hwd' : wd op ≤ 2 := hwd
    have hn64 : n.toNat < 18446744073709551616 := by
      have : 256 ^ wd op ≤ 256 ^ 2 := Nat.pow_le_pow_right (by decide) hwd'
      have e : (256 : Nat) ^ 2 = 65536 := rfl
      omega
    obtain ⟨k, hk⟩ : ∃ k, k = wd op := ⟨_, rfl⟩
    rw [← hk] at ks hwd' ee
    have kn := fun (v : Value) (l : Bs) (w : World) (hl : l.length ≤ 1000000) (hr : Bw w B v l) (hB : B ≤ w.heap.size) => apnum_any B v l n.toNat k hn64 (by omega) hl w hr hB
    rw [show ((n.toNat : Nat) : Int) = n by omega] at kn
    have hBd := own_block (show Bw w B v l from hrH)
    have hn0 : 0 ≤ n ∧ n < 18446744073709551616 := by omega
    clear hns hk hsz' hsz enc h1 hn64 hvs hwd
    go_enter Tryz.func30, Tryz.ntmps30
    go_upto_region 5 with (first
      | (at_builtin
         refine wpl_byte rfl _ _ rfl B v l c (w.heap.size + 1) op rfl ?c0 rfl ?c1 ?c2 ?c3 ?c4 ?_
         case c0 => exact ((show Bw w B v l from hrH).keepN (Fr.alloc _ _ _)).keepN (Fr.alloc _ _ _)
         case c1 => exact cell_of_row _ _ 0 _ _ _ (heap_alloc2_new _ _ _)
         case c2 => exact ho8
         case c3 => omega
         case c4 => simp; omega
         intro v1 W1 hr1 a1
         have e1 := a1.heap (heap_alloc2_old w (.cells #[ci op, ci n, ci t, .int .u64 b] 64 (0, 0)) (.cells #[.int .u8 op] 5 (0, 0))) (fun e => by have := (hBd _ e).2; omega)
         obtain ⟨j0, j1, j2, j3⟩ := box4 e1))
    have hB1 : B ≤ W1.heap.size := by have := a1.fr.size; simp at this; omega
    obtain ⟨z, hz⟩ : ∃ z, z = 1 + (k : Int) := ⟨_, rfl⟩
    rw [← hz] at ks
    have hw1 : IntKind.i64.wrap (z - 1) = (k : Int) := by rw [hz, IntKind.wrap_i64]; omega
    have hneH : Hidden (v1.ownBlock ≠ some w.heap.size) := by
      show _ ≠ _
      rcases a1.own with o | ⟨q, o, hq⟩
      · rw [o]; intro e; have := (hBd _ e).2; omega
      · rw [o]; simp at hq; intro e; cases e; omega
    have hw2 : IntKind.u64.wrap n = n := by rw [IntKind.wrap_u64]; omega
    obtain ⟨l1, hl1⟩ : ∃ l1, l1 = l ++ [c] := ⟨_, rfl⟩
    have hln : l1.length ≤ 1000000 := by rw [hl1]; simp; omega
    rw [← hl1] at hr1
    have hl1H : Hidden (l1 = l ++ [c]) := hl1
    have knW : ∀ W, Fr (fun _ => False) W1 W → Calls Tryz.prog 50 #[v1, .int .u64 n, ci (k : Int)] W fun e w' => ∃ v', e = .returned v' ∧ Bw w' B v' (l1 ++ be k n.toNat) ∧ Ap W w' v1 v' := fun W hW => kn v1 l1 W hln (hr1.keepN hW) (Nat.le_trans hB1 hW.size)
    have hn0H : Hidden (0 ≤ n ∧ n < 18446744073709551616) := hn0
    clear kn hl1 hm hz hwd' hn0 hr1 hln hB1 hB hl h1b e1 hBd
    go_region_held3 (fun w' => w'.cell? ⟨w.heap.size, 0, none⟩ = some (ci op) ∧ w'.cell? ⟨w.heap.size, 1, none⟩ = some (ci n) ∧ w'.cell? ⟨w.heap.size, 2, none⟩ = some (ci t) ∧ w'.cell? ⟨w.heap.size, 3, none⟩ = some (.int .u64 b)) (first | (refine ⟨by with_reducible assumption, by with_reducible assumption, by with_reducible assumption, by with_reducible assumption⟩) | go_keep) (first
      | (go_at_call 51; refine (ks _).mono ?_; rintro e W2 ⟨rfl, f2⟩
         have f2' : Fr (fun _ => False) W1 W2 := (Fr.drew _ _).same f2
         have i0 := f2'.cellN j0
         have i1 := f2'.cellN j1
         have i2 := f2'.cellN j2
         have i3 := f2'.cellN j3)
      | (go_at_call 50
         refine (knW W2 f2').mono ?_
         rintro e W3 ⟨v3, rfl, hr3, a3⟩
         have m0 := a3.fr.cell i0 hneH
         have m1 := a3.fr.cell i1 hneH
         have m2 := a3.fr.cell i2 hneH
         have m3 := a3.fr.cell i3 hneH))
    go_wp2_with fail
    go_ret
    have ee' : E = c :: be k n.toNat := ee
    have hl1' : l1 = l ++ [c] := hl1H
    refine ⟨_, rfl, ?_, (Ap.after ((Fr.alloc _ _ _).same (Fr.alloc _ _ _)) a1).trans (Ap.after f2' a3)⟩
    rw [ee']
    rw [hl1'] at hr3
    simpa using hr3
end Go.Proofs.YtnmcehpdiopaiaaGreatDoor.Cd

namespace Go.Proofs.YtnmcehpdiopaiaaGreatDoor.Cd
open Go.RowKit Ty
set_option linter.unusedSimpArgs false
set_option linter.unusedVariables false

theorem encS_len : ∀ (l : List In), (encS l).length ≤ l.length * 10
  | [] => by simp [encS]
  | i :: l => by
    have := encS_len l
    have e : encS (i :: l) = encI i ++ encS l := by simp [encS]
    rw [e, List.length_append, List.length_cons]
    have : (encI i).length ≤ 10 := by
      unfold encI
      rw [List.length_cons]
      split
      · rw [List.length_cons, be_len]; omega
      · rw [be_len]; have := wd_le i.op; omega
    omega
theorem encS_snoc (l : List In) (i : In) : encS (l ++ [i]) = encS l ++ encI i := by simp [encS]
theorem take_snoc {α : Type} {l : List α} {j : Nat} {x : α} (h : l[j]? = some x) : l.take (j + 1) = l.take j ++ [x] := by
  rw [List.take_add_one, h]; rfl
set_option maxRecDepth 20000 in
set_option maxHeartbeats 1000000 in
theorem encode_any (ao : Option Addr) (cap : Nat) (l : List In) (w : World) (h : IL w ao cap l) (hok : ∀ i ∈ l, U64 i.b) :
    Calls Tryz.prog 17 #[.slice ao l.length cap] w fun e w' => ∃ v, e = .returned (.tuple #[v, ci (encA l).1]) ∧ Bw w' w.heap.size v (encA l).2 ∧ Fr (fun _ => False) w w' := by
  obtain ⟨n, hn⟩ : ∃ n, n = l.length := ⟨_, rfl⟩
  obtain ⟨R, hR⟩ : ∃ R, R = encA l := ⟨_, rfl⟩
  rw [← hn, ← hR]
  have hil : Hidden (IL w ao cap l) := h
  have hcap : n ≤ cap := by rw [hn]; exact h.1
  have hcm : cap ≤ 9223372036854775807 := by have := h.2.1; simpa [maxLen] using this
  have hnH : Hidden (n = l.length) := hn
  have hRH : Hidden (R = encA l) := hR
  have hokH : Hidden (∀ i ∈ l, U64 i.b) := hok
  clear hn hR h hok
  by_cases h4 : 4096 < n
  · have h4b : decide (4096 < (n : Int)) = true := by simp; omega
    go_enter Tryz.func17, Tryz.ntmps17
    go_wp2_with fail
    go_ret2
    have e : R = (3, []) := by rw [show R = encA l from hRH]; unfold encA; rw [if_pos (by rw [← (show n = l.length from hnH)]; exact h4)]
    exact ⟨_, (by rw [e]; rfl), by rw [e]; exact Bw.nil _ _, Fr.refl _ _⟩
  · have h4b : decide (4096 < (n : Int)) = false := by simp; omega
    go_enter Tryz.func17, Tryz.ntmps17
    go_wp2_with fail
    go_loopg [4, 12] n (fun k v iv wr => ∃ j : Nat, iv = .int .i64 (j : Int) ∧ j ≤ n ∧ k = n - j ∧ (∀ i ∈ l.take j, rightS i = true) ∧ Bw wr w.heap.size v (encS (l.take j)) ∧ Ap w wr (.slice none 0 0) v)
    case atStart =>
      exact ⟨0, rfl, by omega, by omega, by simp, Bw.nil _ _, Ap.refl _ _⟩
    case round =>
      obtain ⟨j, rfl, hj, hk, hall, hbw, hap⟩ := hrel
      have hH : Hidden ((∀ i ∈ l.take j, rightS i = true) ∧ Bw wr w.heap.size u4 (encS (l.take j)) ∧ Ap w wr (.slice none 0 0) u4) := ⟨hall, hbw, hap⟩
      clear hall hbw hap
      by_cases hjn : j = n
      · subst hjn
        go_wp2_with fail
        go_ret2
        obtain ⟨hall, hbw, hap⟩ := hH
        have hnn : j = l.length := hnH
        have e : R = (0, encS l) := by
          rw [show R = encA l from hRH]
          unfold encA
          rw [if_neg (by omega), if_pos]
          rw [hnn, List.take_length] at hall
          exact List.all_eq_true.2 hall
        rw [hnn, List.take_length] at hbw
        exact ⟨_, (by rw [e]; rfl), by rw [e]; exact hbw, hap.none⟩
      · have hlt : j < n := by omega
        obtain ⟨x, hx⟩ : ∃ x, l[j]? = some x := ⟨_, List.getElem?_eq_getElem (by have : n = l.length := hnH; omega)⟩
        have hxm : x ∈ l := List.mem_of_getElem? hx
        have hxb := (show ∀ i ∈ l, U64 i.b from hokH) x hxm
        have hxH : Hidden (l[j]? = some x) := hx
        obtain ⟨bl, off, hao, hcells⟩ := (show IL w ao cap l from hil).2.2.2.resolve_left (by rintro rfl; simp at hx)
        have fwr : Fr (fun _ => False) w wr := hH.2.2.none
        obtain ⟨c0, c1, c2, c3⟩ := IL.at' (cap := cap) (fun i x hx j u hu => fwr.cellN (hcells i x hx j u hu)) hx
        subst hao
        obtain ⟨L, hL⟩ : ∃ L, L = encS (l.take j) := ⟨_, rfl⟩
        have hLl : L.length ≤ 100000 := by
          have := encS_len (l.take j)
          rw [← hL, List.length_take] at this
          omega
        have kr := fun w => right_any x hxb w
        have hszr : w.heap.size ≤ wr.heap.size := fwr.size
        clear hx hcells hlt hxm
        by_cases hrx : rightS x = true
        · have hrxH : Hidden (rightS x = true) := hrx
          rw [hrx] at kr
          have hbw : Hidden (Bw wr w.heap.size u4 L) := by rw [hL]; exact hH.2.1
          have hLH : Hidden (L = encS (l.take j)) := hL
          clear hL
          have kaW : ∀ W, Fr (fun _ => False) wr W → Calls Tryz.prog 30 #[u4, inV x] W fun e w' => ∃ v', e = .returned v' ∧ Bw w' w.heap.size v' (L ++ encI x) ∧ Ap W w' u4 v' := fun W hW => apins_any w.heap.size u4 L x hrx hxb hLl W ((show Bw wr _ u4 L from hbw).keepN hW) (Nat.le_trans hszr hW.size)
          clear hrx fwr
          obtain ⟨op, nn, t, b⟩ := x
          simp only [] at c0 c1 c2 c3
          go_wp2_with (first
            | (go_at_call 23; refine (kr _).mono ?_; rintro e W1 ⟨rfl, f1⟩; obtain ⟨d0, d1, d2, d3⟩ := box4_fr f1)
            | (go_at_call 30; refine (kaW W1 ((Fr.alloc _ _ _).same f1)).mono ?_; rintro e W2 ⟨v2, rfl, hr2, a2⟩))
          go_roundg (n - (j + 1))
          case measure => omega
          case rel =>
            obtain ⟨hall, hbw', hap⟩ := hH
            refine ⟨j + 1, by go_num, by omega, rfl, ?_, ?_, hap.trans (Ap.after ((Fr.alloc _ _ _).same f1) a2)⟩
            · rw [take_snoc (show l[j]? = _ from hxH)]
              intro i hi
              rcases List.mem_append.1 hi with hi | hi
              · exact hall i hi
              · simp at hi; subst hi; exact hrxH
            · rw [take_snoc (show l[j]? = _ from hxH), encS_snoc, ← (show L = _ from hLH)]
              exact hr2
        · have hrf : rightS x = false := by simpa using hrx
          have hrxH : Hidden (rightS x = false) := hrf
          clear hrf
          rw [show rightS x = false from hrxH] at kr
          clear hrx hL hLl fwr
          obtain ⟨op, nn, t, b⟩ := x
          simp only [] at c0 c1 c2 c3
          go_wp2_with (first
            | (go_at_call 23; refine (kr _).mono ?_; rintro e W1 ⟨rfl, f1⟩; obtain ⟨d0, d1, d2, d3⟩ := box4_fr f1))
          go_ret2
          have e : R = (51, []) := by
            rw [show R = encA l from hRH]
            unfold encA
            rw [if_neg (by have : n = l.length := hnH; omega), if_neg]
            intro hall
            have := List.all_eq_true.1 hall _ (List.mem_of_getElem? (show l[j]? = _ from hxH))
            rw [show rightS _ = false from hrxH] at this
            cases this
          exact ⟨_, (by rw [e]; rfl), by rw [e]; exact Bw.nil _ _, hH.2.2.none.same ((Fr.alloc _ _ _).same f1)⟩
end Go.Proofs.YtnmcehpdiopaiaaGreatDoor.Cd
