/- Rows of bytes and of instructions in memory. -/
import Derived.Test.YtooggbhplmmphaaGreatDoorCdA
import Derived.Test.YtooggbhplmmphaaGreatDoorTyAll
namespace Go.Proofs.YtooggbhplmmphaaGreatDoor.Cd
open Go.RowKit Ty
set_option linter.unusedSimpArgs false
set_option linter.unusedVariables false

def byC (l : Bs) : List Value := l.map fun c => .int .u8 (c.toNat : Int)
/-- A row of bytes of the call's own. -/
def Bw (w : World) (B : Nat) (v : Value) (l : Bs) : Prop := w.ownsRow B 5 1 v l.length (byC l)
/-- A row of bytes. -/
def BL (w : World) (ao : Option Addr) (cap : Nat) (l : Bs) : Prop :=
  l.length ≤ cap ∧ cap ≤ maxLen ∧ (ao = none → cap = 0) ∧ (l = [] ∨ ∃ b off, ao = some ⟨b, off, none⟩ ∧ ∀ (i : Nat) (c : UInt8), l[i]? = some c → w.cell? ⟨b, off + i, none⟩ = some (.int .u8 (c.toNat : Int)))
def inC (i : In) : List Value := [ci i.op, ci i.n, ci i.t, .int .u64 i.b]
/-- A row of instructions of the call's own. -/
def IW (w : World) (B : Nat) (e : TypeId) (v : Value) (l : List In) : Prop := w.ownsRow B e 4 v l.length (l.flatMap inC)
/-- A row of instructions. -/
def IL (w : World) (ao : Option Addr) (cap : Nat) (l : List In) : Prop :=
  l.length ≤ cap ∧ cap ≤ maxLen ∧ (ao = none → cap = 0) ∧ (l = [] ∨ ∃ b off, ao = some ⟨b, off, none⟩ ∧ ∀ (i : Nat) (x : In), l[i]? = some x →
    ∀ (j : Nat) (u : Value), (inC x)[j]? = some u → w.cell? ⟨b, off + i * 4 + j, none⟩ = some u)
/-- A row of the call's own that went on growing. -/
structure Ap (w w' : World) (v v' : Value) : Prop where
  fr : Fr (fun b => v.ownBlock = some b) w w'
  own : v'.ownBlock = v.ownBlock ∨ ∃ b, v'.ownBlock = some b ∧ w.heap.size ≤ b
theorem Ap.refl (w : World) (v : Value) : Ap w w v v := ⟨Fr.refl _ _, Or.inl rfl⟩
theorem Ap.trans {a b c : World} {u v x : Value} (h : Ap a b u v) (g : Ap b c v x) : Ap a c u x := by
  refine ⟨h.fr.trans g.fr (fun k hk e => ?_), ?_⟩
  · rcases h.own with o | ⟨q, o, hq⟩
    · rw [← o]; exact e
    · rw [o] at e; cases e; omega
  · rcases g.own with o | ⟨q, o, hq⟩
    · rw [o]; exact h.own
    · exact Or.inr ⟨q, o, Nat.le_trans h.fr.size hq⟩
theorem Ap.then {a b c : World} {u v : Value} (h : Ap a b u v) (g : Fr (fun _ => False) b c) : Ap a c u v := ⟨h.fr.trans g (fun _ _ f => f.elim), h.own⟩
theorem Ap.after {a b c : World} {u v : Value} (g : Fr (fun _ => False) a b) (h : Ap b c u v) : Ap a c u v := ⟨(g.mono (fun _ _ f => f.elim)).same h.fr, by
  rcases h.own with o | ⟨q, o, hq⟩
  · exact Or.inl o
  · exact Or.inr ⟨q, o, Nat.le_trans g.size hq⟩⟩
theorem Ap.none {a b : World} {v : Value} (h : Ap a b (.slice none 0 0) v) : Fr (fun _ => False) a b := h.fr.mono (fun k _ e => by cases e)
theorem Ap.of {w w' : World} {v v' : Value} (f : Fr (fun b => v.ownBlock = some b) w w') (o : v'.ownBlock = v.ownBlock ∨ v'.ownBlock = some w.heap.size) : Ap w w' v v' := ⟨f, by
  rcases o with o | o
  · exact Or.inl o
  · exact Or.inr ⟨_, o, Nat.le_refl _⟩⟩
/-- What is older than the row's first world stays. -/
theorem Ap.heap {a b : World} {u v : Value} (h : Ap a b u v) {k : Nat} {o : Obj} (hk : a.heap[k]? = some o) (hn : u.ownBlock ≠ some k) : b.heap[k]? = some o := h.fr.heap hk hn
theorem byC_app (a b : Bs) : byC (a ++ b) = byC a ++ byC b := by simp [byC]
theorem byC_len (a : Bs) : (byC a).length = a.length := by simp [byC]
theorem Bw.nil (w : World) (B : Nat) : Bw w B (.slice none 0 0) [] := own_nil w B _ 1
theorem IW.nil (w : World) (B : Nat) (e : TypeId) : IW w B e (.slice none 0 0) [] := own_nil w B e 4
theorem Bw.keep {S : Nat → Prop} {w w' : World} {B : Nat} {v : Value} {l : Bs} (h : Bw w B v l) (hf : Fr S w w') (hn : ∀ k, v.ownBlock = some k → ¬ S k) : Bw w' B v l := own_keep h hf hn
theorem Bw.keepN {w w' : World} {B : Nat} {v : Value} {l : Bs} (h : Bw w B v l) (hf : Fr (fun _ => False) w w') : Bw w' B v l := own_keep h hf (fun _ _ f => f)
theorem IW.keepN {w w' : World} {B : Nat} {e : TypeId} {v : Value} {l : List In} (h : IW w B e v l) (hf : Fr (fun _ => False) w w') : IW w' B e v l := own_keep h hf (fun _ _ f => f)
theorem IW.keep {S : Nat → Prop} {w w' : World} {B : Nat} {e : TypeId} {v : Value} {l : List In} (h : IW w B e v l) (hf : Fr S w w') (hn : ∀ k, v.ownBlock = some k → ¬ S k) : IW w' B e v l := own_keep h hf hn
theorem IL.keep {w w' : World} {ao : Option Addr} {cap : Nat} {l : List In} (h : IL w ao cap l) (hf : Fr (fun _ => False) w w') : IL w' ao cap l := by
  obtain ⟨h1, h2, h3, h4⟩ := h
  refine ⟨h1, h2, h3, ?_⟩
  rcases h4 with h4 | ⟨b, off, rfl, h4⟩
  · exact Or.inl h4
  · exact Or.inr ⟨b, off, rfl, fun i x hx j u hu => hf.cellN (h4 i x hx j u hu)⟩
theorem BL.keep {w w' : World} {ao : Option Addr} {cap : Nat} {l : Bs} (h : BL w ao cap l) (hf : Fr (fun _ => False) w w') : BL w' ao cap l := by
  obtain ⟨h1, h2, h3, h4⟩ := h
  refine ⟨h1, h2, h3, ?_⟩
  rcases h4 with h4 | ⟨b, off, rfl, h4⟩
  · exact Or.inl h4
  · exact Or.inr ⟨b, off, rfl, fun i x hx => hf.cellN (h4 i x hx)⟩
/-- The four cells of one of a row. -/
theorem IL.at' {w : World} {b off cap : Nat} {l : List In} (h : ∀ (i : Nat) (x : In), l[i]? = some x → ∀ (j : Nat) (u : Value), (inC x)[j]? = some u → w.cell? ⟨b, off + i * 4 + j, none⟩ = some u) {i : Nat} {x : In} (hx : l[i]? = some x) :
    w.cell? ⟨b, off + i * 4, none⟩ = some (ci x.op) ∧ w.cell? ⟨b, off + i * 4 + 1, none⟩ = some (ci x.n) ∧ w.cell? ⟨b, off + i * 4 + 2, none⟩ = some (ci x.t) ∧ w.cell? ⟨b, off + i * 4 + 3, none⟩ = some (.int .u64 x.b) :=
  ⟨h i x hx 0 _ rfl, h i x hx 1 _ rfl, h i x hx 2 _ rfl, h i x hx 3 _ rfl⟩
theorem inC_len (i : In) : (inC i).length = 4 := rfl
theorem flat_len (l : List In) : (l.flatMap inC).length = l.length * 4 := by
  induction l with
  | nil => rfl
  | cons x r ih => simp [List.flatMap_cons, ih, inC_len]; omega
theorem flat_get : ∀ (l : List In) (i : Nat) (x : In), l[i]? = some x → ∀ (j : Nat) (u : Value), (inC x)[j]? = some u → (l.flatMap inC)[i * 4 + j]? = some u
  | [], i, x, h, _, _, _ => by simp at h
  | y :: r, 0, x, h, j, u, hu => by
    simp at h
    subst h
    have hj : j < (inC y).length := (List.getElem?_eq_some_iff.1 hu).1
    rw [List.flatMap_cons, List.getElem?_append_left (by omega), Nat.zero_mul, Nat.zero_add]
    exact hu
  | y :: r, i + 1, x, h, j, u, hu => by
    rw [List.flatMap_cons, List.getElem?_append_right (by rw [inC_len]; omega), inC_len, show (i + 1) * 4 + j - 4 = i * 4 + j by omega]
    exact flat_get r i x (by simpa using h) j u hu
theorem IW.il {w : World} {B : Nat} {e : TypeId} {v : Value} {l : List In} (h : IW w B e v l) : ∃ ao cap, v = .slice ao l.length cap ∧ IL w ao cap l := by
  rcases own_slice h (by decide) with ⟨ao, cap, rfl, h1, h2, h3, _, h4⟩
  refine ⟨ao, cap, rfl, h1, h2, h3, ?_⟩
  rcases h4 with h4 | ⟨g, rfl, _, _, h4⟩
  · exact Or.inl (List.length_eq_zero_iff.1 h4)
  · refine Or.inr ⟨g, 0, rfl, fun i x hx j u hu => ?_⟩
    rw [Nat.zero_add]
    exact h4 _ _ (flat_get l i x hx j u hu)
theorem Bw.bl {w : World} {B : Nat} {v : Value} {l : Bs} (h : Bw w B v l) : ∃ ao cap, v = .slice ao l.length cap ∧ BL w ao cap l := by
  rcases own_slice h (by decide) with ⟨ao, cap, rfl, h1, h2, h3, _, h4⟩
  refine ⟨ao, cap, rfl, h1, h2, h3, ?_⟩
  rcases h4 with h4 | ⟨g, rfl, _, _, h4⟩
  · exact Or.inl (List.length_eq_zero_iff.1 h4)
  · refine Or.inr ⟨g, 0, rfl, fun i x hx => ?_⟩
    rw [Nat.zero_add]
    exact h4 _ _ (by simp [byC, hx])
theorem info_u8 : (Tryz.prog.info? 5).map (fun i => (i.zero, i.size, i.bytes)) = some (some (.int .u8 0), 1, 1) := by kernel_rfl
theorem info_in : (Tryz.prog.info? 41).map (fun i => (i.zero, i.size, i.bytes)) = some (some (.agg #[.int .i64 0, .int .i64 0, .int .i64 0, .int .u64 0]), 4, 32) := by kernel_rfl
end Go.Proofs.YtooggbhplmmphaaGreatDoor.Cd
