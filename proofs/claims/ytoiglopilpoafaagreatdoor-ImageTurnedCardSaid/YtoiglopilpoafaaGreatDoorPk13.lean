/- Texts of ours, in one. -/
import Derived.Test.YtoiglopilpoafaaGreatDoorCdR
import Derived.Test.YtoiglopilpoafaaGreatDoorPk11
import Derived.Test.YtoiglopilpoafaaGreatDoorPk10
import Derived.Shelf.Strconv.Itoa0
import Derived.Shelf.Strconv.Itoa1
import Derived.Shelf.LaysM
import Derived.Shelf.Strconv.Itoa2
import Derived.Shelf.Strconv.Itoa3
import Derived.Shelf.Strconv.Itoa4
import Derived.Shelf.Strings.LastIndex
import Derived.Shelf.Strings.Prefix
import Derived.Shelf.Bytes.SlIndexAt
import Derived.Shelf.Bytes.Small
import Derived.Shelf.Bytes.IndexByte
import Derived.Shelf.Slices.Equal
import Derived.Test.YtoiglopilpoafaaGreatDoorProg
import Derived.Test.YtoiglopilpoafaaGreatDoorPk8
namespace Go.Proofs.YtoiglopilpoafaaGreatDoor.Cd
open Go.RowKit Ty
set_option linter.unusedSimpArgs false
set_option linter.unusedVariables false

abbrev inV (i : In) : Value := .agg #[ci i.op, ci i.n, ci i.t, .int .u64 i.b]
theorem row_is (op : Int) (w : World) : Calls Tryz.prog 71 #[ci op] w fun e w' => e = .returned (.tuple #[.agg #[ct (nmR op), ci (byR op), ci (lo op), ci (hi op), ci (nuR op), ci (taR op), ci (puR op), ci (trR op), .bool (enR op)], .bool (known op)]) ∧ Fr (fun _ => False) w w' := row_any op w
theorem box4 {w : World} {b : Nat} {x0 x1 x2 x3 : Value} {t : TypeId} (hb : w.heap[b]? = some (.cells #[x0, x1, x2, x3] t (0, 0))) :
    w.cell? ⟨b, 0, none⟩ = some x0 ∧ w.cell? ⟨b, 1, none⟩ = some x1 ∧ w.cell? ⟨b, 2, none⟩ = some x2 ∧ w.cell? ⟨b, 3, none⟩ = some x3 :=
  ⟨cell_of_row _ _ 0 _ _ _ hb, cell_of_row _ _ 1 _ _ _ hb, cell_of_row _ _ 2 _ _ _ hb, cell_of_row _ _ 3 _ _ _ hb⟩
theorem box4_fr {w w1 : World} {x0 x1 x2 x3 : Value} {t : TypeId} (f : Fr (fun _ => False) (w.alloc (.cells #[x0, x1, x2, x3] t (0, 0))) w1) :
    w1.cell? ⟨w.heap.size, 0, none⟩ = some x0 ∧ w1.cell? ⟨w.heap.size, 1, none⟩ = some x1 ∧ w1.cell? ⟨w.heap.size, 2, none⟩ = some x2 ∧ w1.cell? ⟨w.heap.size, 3, none⟩ = some x3 :=
  box4 (f.heap (alloc_new _ _) (fun f => f))
set_option maxRecDepth 20000 in
set_option maxHeartbeats 1000000 in
theorem right_any (i : In) (hb : U64 i.b) (w : World) : Calls Tryz.prog 53 #[inV i] w fun e w' => e = .returned (.bool (rightS i)) ∧ Fr (fun _ => False) w w' := by
  obtain ⟨op, n, t, b⟩ := i
  have kr := fun w => row_is op w
  have kv := fun w => rightv_any t b hb w
  have hz : t = 0 ∧ b = 0 → rightV t b = false := by rintro ⟨rfl, rfl⟩; rfl
  unfold rightS
  simp only [] at hb ⊢
  generalize nmR op = nm at kr
  generalize byR op = by' at kr
  generalize lo op = l at kr ⊢
  generalize hi op = h at kr ⊢
  generalize nuR op = nu at kr
  generalize taR op = ta at kr
  generalize puR op = pu at kr
  generalize trR op = tr at kr
  generalize enR op = en at kr
  generalize known op = kn at kr ⊢
  generalize rightV t b = rv at kv hz ⊢
  have hv : (t = 0 ∧ b = 0) ∨ (t = 0 ∧ (b == 0) = false) ∨ (t == 0) = false := by
    by_cases h1 : t = 0
    · by_cases h2 : b = 0
      · exact Or.inl ⟨h1, h2⟩
      · exact Or.inr (Or.inl ⟨h1, by simp [h2]⟩)
    · exact Or.inr (Or.inr (by simp [h1]))
  by_cases h1 : op = 1
  · subst h1
    rw [if_pos rfl]
    clear hz
    rcases hv with ⟨rfl, rfl⟩ | ⟨rfl, h0⟩ | h0 <;> (cases kn <;> cases rv)
    all_goals
      go_enter Tryz.func53, Tryz.ntmps53
      go_wp2_with (first
        | (go_at_call 71; refine (kr _).mono ?_; rintro e w1 ⟨rfl, f1⟩; obtain ⟨c0, c1, c2, c3⟩ := box4_fr (f1.same (Fr.alloc _ w1 (.cells #[ct nm, ci by', ci l, ci h, ci nu, ci ta, ci pu, ci tr, .bool en] 136 (0, 0)))))
        | (go_at_call 32; refine (kv _).mono ?_; rintro e w2 ⟨rfl, f2⟩
           obtain ⟨c0, c1, c2, c3⟩ := box4_fr ((f1.same (Fr.alloc _ w1 (.cells #[ct nm, ci by', ci l, ci h, ci nu, ci ta, ci pu, ci tr, .bool en] 136 (0, 0)))).same f2)
           have hrw := f2.heap (alloc_new w1 (.cells #[ct nm, ci by', ci l, ci h, ci nu, ci ta, ci pu, ci tr, .bool en] 136 (0, 0))) (fun f => f)
           have r2 := cell_of_row _ _ 2 _ _ _ hrw
           have r3 := cell_of_row _ _ 3 _ _ _ hrw
           clear hrw))
    all_goals
      go_ret
      refine ⟨ret_bl ?_, ((Fr.alloc _ _ _).same f1).same ((Fr.alloc _ _ _).same f2)⟩
      first
        | rfl
        | (simp_all; done)
        | (simp_all; intros; omega)
  · rw [if_neg h1]
    have h1b : (op == 1) = false := by simp [h1]
    clear hz h1
    have hq : (t == 0 && b == 0) = true ↔ (t = 0 ∧ b = 0) := by simp
    rcases hv with ⟨rfl, rfl⟩ | ⟨rfl, h0⟩ | h0 <;> cases kn
    all_goals
      clear hq
      go_enter Tryz.func53, Tryz.ntmps53
      go_wp2_with (first
        | (go_at_call 71; refine (kr _).mono ?_; rintro e w1 ⟨rfl, f1⟩; obtain ⟨c0, c1, c2, c3⟩ := box4_fr (f1.same (Fr.alloc _ w1 (.cells #[ct nm, ci by', ci l, ci h, ci nu, ci ta, ci pu, ci tr, .bool en] 136 (0, 0))))))
    all_goals
      go_ret
      refine ⟨ret_bl ?_, ((Fr.alloc _ _ _).same f1).same (Fr.alloc _ _ _)⟩
      first
        | rfl
        | (simp_all; done)
        | (simp_all; intros; omega)
end Go.Proofs.YtoiglopilpoafaaGreatDoor.Cd

namespace Go.Proofs.YtoiglopilpoafaaGreatDoor.Cd
open Go.RowKit Ty
set_option linter.unusedSimpArgs false
set_option linter.unusedVariables false

def byC (l : Bs) : List Value := l.map fun c => .int .u8 (c.toNat : Int)
/-- A row of bytes of the call's own. -/
def Bw (w : World) (B : Nat) (v : Value) (l : Bs) : Prop := w.ownsRow B 5 1 v l.length (byC l)
/-- A row of bytes. -/
def BL (w : World) (ao : Option Addr) (cap : Nat) (l : Bs) : Prop :=
  l.length ≤ cap ∧ cap ≤ maxLen ∧ (ao = none → cap = 0) ∧ (l = [] ∨ ∃ b off, ao = some ⟨b, off, none⟩ ∧ ∀ (i : Nat) (c : UInt8), l[i]? = some c → w.cell? ⟨b, off + i, none⟩ = some (.int .u8 (c.toNat : Int)))
def inC (i : In) : List Value := [ci i.op, ci i.n, ci i.t, .int .u64 i.b]
/-- A row of instructions of the call's own. -/
def IW (w : World) (B : Nat) (e : TypeId) (v : Value) (l : List In) : Prop := w.ownsRow B e 4 v l.length (l.flatMap inC)
/-- A row of instructions. -/
def IL (w : World) (ao : Option Addr) (cap : Nat) (l : List In) : Prop :=
  l.length ≤ cap ∧ cap ≤ maxLen ∧ (ao = none → cap = 0) ∧ (l = [] ∨ ∃ b off, ao = some ⟨b, off, none⟩ ∧ ∀ (i : Nat) (x : In), l[i]? = some x →
    ∀ (j : Nat) (u : Value), (inC x)[j]? = some u → w.cell? ⟨b, off + i * 4 + j, none⟩ = some u)
/-- A row of the call's own that went on growing. -/
structure Ap (w w' : World) (v v' : Value) : Prop where
  fr : Fr (fun b => v.ownBlock = some b) w w'
  own : v'.ownBlock = v.ownBlock ∨ ∃ b, v'.ownBlock = some b ∧ w.heap.size ≤ b
theorem Ap.refl (w : World) (v : Value) : Ap w w v v := ⟨Fr.refl _ _, Or.inl rfl⟩
theorem Ap.trans {a b c : World} {u v x : Value} (h : Ap a b u v) (g : Ap b c v x) : Ap a c u x := by
  refine ⟨h.fr.trans g.fr (fun k hk e => ?_), ?_⟩
  · rcases h.own with o | ⟨q, o, hq⟩
    · rw [← o]; exact e
    · rw [o] at e; cases e; omega
  · rcases g.own with o | ⟨q, o, hq⟩
    · rw [o]; exact h.own
    · exact Or.inr ⟨q, o, Nat.le_trans h.fr.size hq⟩
theorem Ap.then {a b c : World} {u v : Value} (h : Ap a b u v) (g : Fr (fun _ => False) b c) : Ap a c u v := ⟨h.fr.trans g (fun _ _ f => f.elim), h.own⟩
theorem Ap.after {a b c : World} {u v : Value} (g : Fr (fun _ => False) a b) (h : Ap b c u v) : Ap a c u v := ⟨(g.mono (fun _ _ f => f.elim)).same h.fr, by
  rcases h.own with o | ⟨q, o, hq⟩
  · exact Or.inl o
  · exact Or.inr ⟨q, o, Nat.le_trans g.size hq⟩⟩
theorem Ap.none {a b : World} {v : Value} (h : Ap a b (.slice none 0 0) v) : Fr (fun _ => False) a b := h.fr.mono (fun k _ e => by cases e)
theorem Ap.of {w w' : World} {v v' : Value} (f : Fr (fun b => v.ownBlock = some b) w w') (o : v'.ownBlock = v.ownBlock ∨ v'.ownBlock = some w.heap.size) : Ap w w' v v' := ⟨f, by
  rcases o with o | o
  · exact Or.inl o
  · exact Or.inr ⟨_, o, Nat.le_refl _⟩⟩
/-- What is older than the row's first world stays. -/
theorem Ap.heap {a b : World} {u v : Value} (h : Ap a b u v) {k : Nat} {o : Obj} (hk : a.heap[k]? = some o) (hn : u.ownBlock ≠ some k) : b.heap[k]? = some o := h.fr.heap hk hn
theorem byC_app (a b : Bs) : byC (a ++ b) = byC a ++ byC b := by simp [byC]
theorem byC_len (a : Bs) : (byC a).length = a.length := by simp [byC]
theorem Bw.nil (w : World) (B : Nat) : Bw w B (.slice none 0 0) [] := own_nil w B _ 1
theorem IW.nil (w : World) (B : Nat) (e : TypeId) : IW w B e (.slice none 0 0) [] := own_nil w B e 4
theorem Bw.keep {S : Nat → Prop} {w w' : World} {B : Nat} {v : Value} {l : Bs} (h : Bw w B v l) (hf : Fr S w w') (hn : ∀ k, v.ownBlock = some k → ¬ S k) : Bw w' B v l := own_keep h hf hn
theorem Bw.keepN {w w' : World} {B : Nat} {v : Value} {l : Bs} (h : Bw w B v l) (hf : Fr (fun _ => False) w w') : Bw w' B v l := own_keep h hf (fun _ _ f => f)
theorem IW.keepN {w w' : World} {B : Nat} {e : TypeId} {v : Value} {l : List In} (h : IW w B e v l) (hf : Fr (fun _ => False) w w') : IW w' B e v l := own_keep h hf (fun _ _ f => f)
theorem IW.keep {S : Nat → Prop} {w w' : World} {B : Nat} {e : TypeId} {v : Value} {l : List In} (h : IW w B e v l) (hf : Fr S w w') (hn : ∀ k, v.ownBlock = some k → ¬ S k) : IW w' B e v l := own_keep h hf hn
theorem IL.keep {w w' : World} {ao : Option Addr} {cap : Nat} {l : List In} (h : IL w ao cap l) (hf : Fr (fun _ => False) w w') : IL w' ao cap l := by
  obtain ⟨h1, h2, h3, h4⟩ := h
  refine ⟨h1, h2, h3, ?_⟩
  rcases h4 with h4 | ⟨b, off, rfl, h4⟩
  · exact Or.inl h4
  · exact Or.inr ⟨b, off, rfl, fun i x hx j u hu => hf.cellN (h4 i x hx j u hu)⟩
theorem BL.keep {w w' : World} {ao : Option Addr} {cap : Nat} {l : Bs} (h : BL w ao cap l) (hf : Fr (fun _ => False) w w') : BL w' ao cap l := by
  obtain ⟨h1, h2, h3, h4⟩ := h
  refine ⟨h1, h2, h3, ?_⟩
  rcases h4 with h4 | ⟨b, off, rfl, h4⟩
  · exact Or.inl h4
  · exact Or.inr ⟨b, off, rfl, fun i x hx => hf.cellN (h4 i x hx)⟩
/-- The four cells of one of a row. -/
theorem IL.at' {w : World} {b off cap : Nat} {l : List In} (h : ∀ (i : Nat) (x : In), l[i]? = some x → ∀ (j : Nat) (u : Value), (inC x)[j]? = some u → w.cell? ⟨b, off + i * 4 + j, none⟩ = some u) {i : Nat} {x : In} (hx : l[i]? = some x) :
    w.cell? ⟨b, off + i * 4, none⟩ = some (ci x.op) ∧ w.cell? ⟨b, off + i * 4 + 1, none⟩ = some (ci x.n) ∧ w.cell? ⟨b, off + i * 4 + 2, none⟩ = some (ci x.t) ∧ w.cell? ⟨b, off + i * 4 + 3, none⟩ = some (.int .u64 x.b) :=
  ⟨h i x hx 0 _ rfl, h i x hx 1 _ rfl, h i x hx 2 _ rfl, h i x hx 3 _ rfl⟩
theorem inC_len (i : In) : (inC i).length = 4 := rfl
theorem flat_len (l : List In) : (l.flatMap inC).length = l.length * 4 := by
  induction l with
  | nil => rfl
  | cons x r ih => simp [List.flatMap_cons, ih, inC_len]; omega
theorem flat_get : ∀ (l : List In) (i : Nat) (x : In), l[i]? = some x → ∀ (j : Nat) (u : Value), (inC x)[j]? = some u → (l.flatMap inC)[i * 4 + j]? = some u
  | [], i, x, h, _, _, _ => by simp at h
  | y :: r, 0, x, h, j, u, hu => by
    simp at h
    subst h
    have hj : j < (inC y).length := (List.getElem?_eq_some_iff.1 hu).1
    rw [List.flatMap_cons, List.getElem?_append_left (by omega), Nat.zero_mul, Nat.zero_add]
    exact hu
  | y :: r, i + 1, x, h, j, u, hu => by
    rw [List.flatMap_cons, List.getElem?_append_right (by rw [inC_len]; omega), inC_len, show (i + 1) * 4 + j - 4 = i * 4 + j by omega]
    exact flat_get r i x (by simpa using h) j u hu
theorem IW.il {w : World} {B : Nat} {e : TypeId} {v : Value} {l : List In} (h : IW w B e v l) : ∃ ao cap, v = .slice ao l.length cap ∧ IL w ao cap l := by
  rcases own_slice h (by decide) with ⟨ao, cap, rfl, h1, h2, h3, _, h4⟩
  refine ⟨ao, cap, rfl, h1, h2, h3, ?_⟩
  rcases h4 with h4 | ⟨g, rfl, _, _, h4⟩
  · exact Or.inl (List.length_eq_zero_iff.1 h4)
  · refine Or.inr ⟨g, 0, rfl, fun i x hx j u hu => ?_⟩
    rw [Nat.zero_add]
    exact h4 _ _ (flat_get l i x hx j u hu)
theorem Bw.bl {w : World} {B : Nat} {v : Value} {l : Bs} (h : Bw w B v l) : ∃ ao cap, v = .slice ao l.length cap ∧ BL w ao cap l := by
  rcases own_slice h (by decide) with ⟨ao, cap, rfl, h1, h2, h3, _, h4⟩
  refine ⟨ao, cap, rfl, h1, h2, h3, ?_⟩
  rcases h4 with h4 | ⟨g, rfl, _, _, h4⟩
  · exact Or.inl (List.length_eq_zero_iff.1 h4)
  · refine Or.inr ⟨g, 0, rfl, fun i x hx => ?_⟩
    rw [Nat.zero_add]
    exact h4 _ _ (by simp [byC, hx])
theorem info_u8 : (Tryz.prog.info? 5).map (fun i => (i.zero, i.size, i.bytes)) = some (some (.int .u8 0), 1, 1) := by kernel_rfl
theorem info_in : (Tryz.prog.info? 69).map (fun i => (i.zero, i.size, i.bytes)) = some (some (.agg #[.int .i64 0, .int .i64 0, .int .i64 0, .int .u64 0]), 4, 32) := by kernel_rfl
end Go.Proofs.YtoiglopilpoafaaGreatDoor.Cd

namespace Go.Proofs.YtoiglopilpoafaaGreatDoor.Cd
open Go.RowKit Ty
set_option linter.unusedSimpArgs false
set_option linter.unusedVariables false

/-- What is there stays. -/
structure Mn (L L' : Cs) : Prop where
  len : L'.length = L.length
  at' : ∀ (k : Nat) g x, L[k]? = some (some (g, x)) → ∃ g', L'[k]? = some (some (g', x))
theorem Mn.refl (L : Cs) : Mn L L := ⟨rfl, fun k g x h => ⟨g, h⟩⟩
theorem Mn.trans {a b c : Cs} (h : Mn a b) (g : Mn b c) : Mn a c := ⟨by rw [g.len, h.len], fun k q x hx => by
  obtain ⟨q', h'⟩ := h.at' k q x hx
  exact g.at' k q' x h'⟩
theorem Mn.gone {L : Cs} {k : Nat} {s : Sp} (h : L[k]? = some (some (false, s))) : Mn L (L.set k (some (true, s))) := by
  refine ⟨by simp, fun j g x hx => ?_⟩
  rw [List.getElem?_set]
  by_cases e : k = j
  · subst e
    rw [h] at hx
    cases hx
    have hk : k < L.length := (List.getElem?_eq_some_iff.1 h).1
    exact ⟨true, by simp [hk]⟩
  · exact ⟨g, by simp [e, hx]⟩
theorem Mn.note {L L' : Cs} {k : Nat} {s : Sp} (h : noteS L k s = some L') : Mn L L' ∧ ∃ g, L'[k]? = some (some (g, s)) := by
  unfold noteS at h
  split at h
  · cases h
  · rename_i h0
    cases h
    have hk : k < L.length := (List.getElem?_eq_some_iff.1 h0).1
    refine ⟨⟨by simp, fun j g x hx => ?_⟩, ⟨false, by simp [hk]⟩⟩
    rw [List.getElem?_set]
    by_cases e : k = j
    · subst e
      rw [h0] at hx
      cases hx
    · exact ⟨g, by simp [e, hx]⟩
  · rename_i g s' h0
    split at h
    · rename_i e
      cases h
      subst e
      exact ⟨Mn.refl _, g, h0⟩
    · cases h
theorem Mn.noteO {L L' : Cs} {k : Nat} {a : Option Sp} (h : noteO L k a = some L') : Mn L L' ∧ ∀ x, a = some x → ∃ g, L'[k]? = some (some (g, x)) := by
  cases a with
  | none => cases h; exact ⟨Mn.refl _, fun x hx => by cases hx⟩
  | some s =>
    have := Mn.note (show noteS L k s = some L' from h)
    exact ⟨this.1, fun x hx => by cases hx; exact this.2⟩
/-- A place whose shape goes with those behind it. -/
def Fits (f : Fu) (p : Fm) (L : Cs) (k : Nat) (s : Sp) : Prop :=
  ∃ a b, stepS f p (f.cd.getD k default) s = some (a, b) ∧ (∀ x, a = some x → over x = false ∧ ∃ g, L[k + 1]? = some (some (g, x))) ∧
    (∀ x, b = some x → over x = false ∧ (f.cd.getD k default).n < f.cd.length ∧ ∃ g, L[(f.cd.getD k default).n.toNat]? = some (some (g, x)))
theorem Fits.mono {f : Fu} {p : Fm} {L L' : Cs} {k : Nat} {s : Sp} (h : Fits f p L k s) (m : Mn L L') : Fits f p L' k s := by
  obtain ⟨a, b, h1, h2, h3⟩ := h
  refine ⟨a, b, h1, fun x hx => ?_, fun x hx => ?_⟩
  · obtain ⟨o, g, hg⟩ := h2 x hx
    exact ⟨o, m.at' _ _ _ hg⟩
  · obtain ⟨o, n, g, hg⟩ := h3 x hx
    exact ⟨o, n, m.at' _ _ _ hg⟩
theorem round_fits {f : Fu} {p : Fm} {L L' : Cs} {k : Nat} {s : Sp} (hl : L[k]? = some (some (false, s))) (h : roundS f p L k s = .ok L') : Mn L L' ∧ Fits f p L' k s ∧ (∀ (j : Nat) x, L'[j]? = some (some (true, x)) → (j = k ∧ x = s) ∨ L[j]? = some (some (true, x))) := by
  unfold roundS at h
  split at h
  · cases h
  rename_i a b hs
  split at h
  · cases h
  rename_i c1
  split at h
  · cases h
  rename_i c2
  split at h
  · cases h
  rename_i L1 h1
  split at h
  · cases h
  rename_i L2 h2
  cases h
  have m0 := Mn.gone hl
  obtain ⟨m1, g1⟩ := Mn.noteO h1
  obtain ⟨m2, g2⟩ := Mn.noteO h2
  simp only [Bool.or_eq_true, not_or, Bool.not_eq_true] at c1 c2
  refine ⟨(m0.trans m1).trans m2, ⟨a, b, hs, fun x hx => ?_, fun x hx => ?_⟩, ?_⟩
  · subst hx
    obtain ⟨g, hg⟩ := g1 x rfl
    exact ⟨c2.1, m2.at' _ _ _ hg⟩
  · subst hx
    obtain ⟨g, hg⟩ := g2 x rfl
    have := c1.2
    simp at this
    exact ⟨c2.2, by simpa using this, g, hg⟩
  · have note_back : ∀ {A B : Cs} {j' : Nat} {z : Option Sp}, noteO A j' z = some B → ∀ (j : Nat) x, B[j]? = some (some (true, x)) → A[j]? = some (some (true, x)) := by
      intro A B j' z hz j x hx
      cases z with
      | none => cases hz; exact hx
      | some z =>
        have hz : noteS A j' z = some B := hz
        unfold noteS at hz
        split at hz
        · cases hz
        · cases hz
          rw [List.getElem?_set] at hx
          split at hx
          · split at hx
            · cases hx
            · cases hx
          · exact hx
        · split at hz
          · cases hz; exact hx
          · cases hz
    intro j x hx
    have := note_back h1 j x (note_back h2 j x hx)
    rw [List.getElem?_set] at this
    split at this
    · rename_i e
      split at this
      · cases this; exact Or.inl ⟨e.symm, rfl⟩
      · cases this
    · exact Or.inr this
theorem goS_fits {f : Fu} {p : Fm} {R : Cs} : ∀ {j : Nat} {L : Cs}, goS f p j L = some (.ok R) → (∀ (k : Nat) s, L[k]? = some (some (true, s)) → Fits f p L k s) → Mn L R ∧ ∀ (k : Nat) g s, R[k]? = some (some (g, s)) → Fits f p R k s
  | 0, L, h, _ => by cases h
  | j + 1, L, h, hL => by
    unfold goS at h
    cases e : leastS L with
    | none =>
      rw [e] at h
      cases h
      refine ⟨Mn.refl _, fun k g s hk => ?_⟩
      cases g with
      | true => exact hL k s hk
      | false => exact absurd hk (leastS_no e k s)
    | some x =>
      obtain ⟨k, s⟩ := x
      rw [e] at h
      simp only [] at h
      cases e2 : roundS f p L k s with
      | error e => rw [e2] at h; cases h
      | ok L' =>
        rw [e2] at h
        obtain ⟨m, fk, back⟩ := round_fits (leastS_at e).1 e2
        have := goS_fits (j := j) (L := L') h (fun k' s' hk' => by
          rcases back k' s' hk' with ⟨rfl, rfl⟩ | hb
          · exact fk
          · exact (hL k' s' hb).mono m)
        exact ⟨m.trans this.1, this.2⟩
theorem goS_mn {f : Fu} {p : Fm} {R : Cs} : ∀ {j : Nat} {L : Cs}, goS f p j L = some (.ok R) → Mn L R
  | 0, L, h => by cases h
  | j + 1, L, h => by
    unfold goS at h
    cases e : leastS L with
    | none => rw [e] at h; cases h; exact Mn.refl _
    | some x =>
      obtain ⟨k, s⟩ := x
      rw [e] at h
      simp only [] at h
      cases e2 : roundS f p L k s with
      | error e => rw [e2] at h; cases h
      | ok L' =>
        rw [e2] at h
        exact (round_fits (leastS_at e).1 e2).1.trans (goS_mn (j := j) h)
/-- What is never come to does not matter. -/
theorem goS_dead {f f' : Fu} {p : Fm} {R : Cs} {d : Nat} (hd : R[d]? = some none) (h1 : f'.sg = f.sg) (h2 : f'.loc = f.loc) (h3 : f'.cd.length = f.cd.length) (h4 : ∀ k, k ≠ d → f'.cd.getD k default = f.cd.getD k default) :
    ∀ {j : Nat} {L : Cs}, goS f p j L = some (.ok R) → goS f' p j L = some (.ok R)
  | 0, L, h => by cases h
  | j + 1, L, h => by
    have hm := goS_mn h
    unfold goS at h ⊢
    cases e : leastS L with
    | none => rw [e] at h; exact h
    | some x =>
      obtain ⟨k, s⟩ := x
      rw [e] at h
      simp only [] at h ⊢
      have hk : k ≠ d := by
        rintro rfl
        obtain ⟨g, hg⟩ := hm.at' _ _ _ (leastS_at e).1
        rw [hd] at hg
        cases hg
      have er : roundS f' p L k s = roundS f p L k s := by
        unfold roundS
        rw [h4 k hk, h3]
        have : ∀ i, stepS f' p i s = stepS f p i s := fun i => by unfold stepS; rw [h1, h2]
        rw [this]
      rw [er]
      cases e2 : roundS f p L k s with
      | error e => rw [e2] at h; cases h
      | ok L' =>
        rw [e2] at h
        exact goS_dead hd h1 h2 h3 h4 (j := j) h
/-- All shapes that are found are such as may be. -/
theorem goS_ok {f : Fu} {p : Fm} (hf : OkF f p) (hi : ∀ k : Nat, k < f.cd.length → OkI (f.cd.getD k default)) : ∀ {L L' : Cs} {k : Nat} {s : Sp}, L.length = f.cd.length → (∀ (j : Nat) g x, L[j]? = some (some (g, x)) → OkS x) → L[k]? = some (some (false, s)) → roundS f p L k s = .ok L' → ∀ (j : Nat) g x, L'[j]? = some (some (g, x)) → OkS x := by
  intro L L' k s hn hL hk h
  have hlt : k < f.cd.length := by rw [← hn]; exact (List.getElem?_eq_some_iff.1 hk).1
  unfold roundS at h
  split at h
  · cases h
  rename_i a b hs
  have ho := step_ok hf (hi k hlt) (hL _ _ _ hk) hs
  split at h
  · cases h
  split at h
  · cases h
  split at h
  · cases h
  rename_i L1 h1
  split at h
  · cases h
  rename_i L2 h2
  cases h
  have note_all : ∀ {A B : Cs} {j' : Nat} {z : Option Sp}, noteO A j' z = some B → (∀ x, z = some x → OkS x) → (∀ (j : Nat) g x, A[j]? = some (some (g, x)) → OkS x) → ∀ (j : Nat) g x, B[j]? = some (some (g, x)) → OkS x := by
    intro A B j' z hz ok hA j g x hx
    cases z with
    | none => cases hz; exact hA j g x hx
    | some z =>
      have hz : noteS A j' z = some B := hz
      unfold noteS at hz
      split at hz
      · cases hz
      · cases hz
        rw [List.getElem?_set] at hx
        split at hx
        · split at hx
          · cases hx; exact ok _ rfl
          · cases hx
        · exact hA j g x hx
      · split at hz
        · cases hz; exact hA j g x hx
        · cases hz
  refine note_all h2 ho.2 (note_all h1 ho.1 ?_)
  intro j g x hx
  rw [List.getElem?_set] at hx
  split at hx
  · split at hx
    · cases hx; exact hL _ _ _ hk
    · cases hx
  · exact hL j g x hx
end Go.Proofs.YtoiglopilpoafaaGreatDoor.Cd

namespace Go.Proofs
open Go.Shelf
def Tryz.lays148_ren : Go.Shelf.Ren := ⟨fun | 148 => 110 | 222 => 117 | 223 => 118 | 269 => 125 | n => n, fun | 9 => 9 | 3 => 3 | 4 => 4 | 5 => 5 | 146 => 192 | 51 => 70 | 46 => 89 | n => n, fun | n => n⟩
theorem Tryz.lays148 : Go.Proofs.Lays.n148 Tryz.prog Tryz.lays148_ren := {
  mixed := by kernel_rfl
  f148 := Tryz.func110.trans (congrArg some (by kernel_rfl))
  f222 := Tryz.func117.trans (congrArg some (by kernel_rfl))
  f223 := Tryz.func118.trans (congrArg some (by kernel_rfl))
  f269 := Tryz.func125.trans (congrArg some (by kernel_rfl))
  t3 := Tryz.underlying3
  a3 := Tryz.isAgg3
  z3 := Tryz.sizeOf3
  v3 := Tryz.zeroValue3
  t4 := Tryz.underlying4
  a4 := Tryz.isAgg4
  z4 := Tryz.sizeOf4
  v4 := Tryz.zeroValue4
  t5 := Tryz.underlying5
  a5 := Tryz.isAgg5
  z5 := Tryz.sizeOf5
  v5 := Tryz.zeroValue5
  t9 := Tryz.underlying9
  a9 := Tryz.isAgg9
  z9 := Tryz.sizeOf9
  v9 := Tryz.zeroValue9
  t46 := Tryz.underlying89
  a46 := Tryz.isAgg89
  z46 := Tryz.sizeOf89
  v46 := Tryz.zeroValue89
  t51 := Tryz.underlying70
  a51 := Tryz.isAgg70
  z51 := Tryz.sizeOf70
  v51 := Tryz.zeroValue70
  t146 := Tryz.underlying192
  a146 := Tryz.isAgg192
  z146 := Tryz.sizeOf192
  v146 := Tryz.zeroValue192 }
open Go.RowKit Go.Lib in
theorem Tryz.strings_LastIndex_one (s sub : ByteArray) (h1 : sub.size = 1) (hs : s.size < 4611686018427387904) (w : World) :
    Calls Tryz.prog 110 #[.string s, .string sub] w fun e w' => e = .returned (.int .i64 (Lib.lastIndexByte s ((sub[0]'(by omega)).toNat : Int))) ∧ w' = w := Any.strings_LastIndex_one Tryz.lays148 s sub h1 hs w
def Tryz.lays100_ren : Go.Shelf.Ren := ⟨fun | 100 => 113 | 207 => 121 | n => n, fun | 9 => 9 | 4 => 4 | 3 => 3 | n => n, fun | n => n⟩
theorem Tryz.lays100 : Go.Proofs.Lays.n100 Tryz.prog Tryz.lays100_ren := {
  mixed := by kernel_rfl
  f100 := Tryz.func113.trans (congrArg some (by kernel_rfl))
  f207 := Tryz.func121.trans (congrArg some (by kernel_rfl))
  t3 := Tryz.underlying3
  a3 := Tryz.isAgg3
  z3 := Tryz.sizeOf3
  v3 := Tryz.zeroValue3
  t4 := Tryz.underlying4
  a4 := Tryz.isAgg4
  z4 := Tryz.sizeOf4
  v4 := Tryz.zeroValue4
  t9 := Tryz.underlying9
  a9 := Tryz.isAgg9
  z9 := Tryz.sizeOf9
  v9 := Tryz.zeroValue9 }
open Go.RowKit Go.Lib in
theorem Tryz.strings_HasSuffix (s p : ByteArray) (w : World) (hs : s.size ≤ 9223372036854775807) :
    Calls Tryz.prog 113 #[.string s, .string p] w fun e w' => e = .returned (.bool (Lib.hasSuffix s.data.toList p.data.toList)) ∧ w' = w := Any.strings_HasSuffix Tryz.lays100 s p w hs
def Tryz.lays102_ren : Go.Shelf.Ren := ⟨fun | 102 => 109 | 209 => 116 | 207 => 121 | n => n, fun | 9 => 9 | 4 => 4 | 3 => 3 | n => n, fun | n => n⟩
theorem Tryz.lays102 : Go.Proofs.Lays.n102 Tryz.prog Tryz.lays102_ren := {
  mixed := by kernel_rfl
  f102 := Tryz.func109.trans (congrArg some (by kernel_rfl))
  f207 := Tryz.func121.trans (congrArg some (by kernel_rfl))
  f209 := Tryz.func116.trans (congrArg some (by kernel_rfl))
  t3 := Tryz.underlying3
  a3 := Tryz.isAgg3
  z3 := Tryz.sizeOf3
  v3 := Tryz.zeroValue3
  t4 := Tryz.underlying4
  a4 := Tryz.isAgg4
  z4 := Tryz.sizeOf4
  v4 := Tryz.zeroValue4
  t9 := Tryz.underlying9
  a9 := Tryz.isAgg9
  z9 := Tryz.sizeOf9
  v9 := Tryz.zeroValue9 }
open Go.RowKit Go.Lib in
theorem Tryz.strings_TrimSuffix (s p : ByteArray) (w : World) (hs : s.size ≤ 9223372036854775807) :
    Calls Tryz.prog 109 #[.string s, .string p] w fun e w' => e = .returned (.string ⟨(Lib.trimSuffix s.data.toList p.data.toList).toArray⟩) ∧ w' = w := Any.strings_TrimSuffix Tryz.lays102 s p w hs
def Tryz.lays111_ren : Go.Shelf.Ren := ⟨fun | 111 => 42 | n => n, fun | 28 => 41 | 3 => 3 | 4 => 4 | 0 => 0 | n => n, fun | n => n⟩
theorem Tryz.lays111 : Go.Proofs.Lays.n111 Tryz.prog Tryz.lays111_ren := {
  mixed := by kernel_rfl
  f111 := Tryz.func42.trans (congrArg some (by kernel_rfl))
  t0 := Tryz.underlying0
  a0 := Tryz.isAgg0
  z0 := Tryz.sizeOf0
  v0 := Tryz.zeroValue0
  t3 := Tryz.underlying3
  a3 := Tryz.isAgg3
  z3 := Tryz.sizeOf3
  v3 := Tryz.zeroValue3
  t4 := Tryz.underlying4
  a4 := Tryz.isAgg4
  z4 := Tryz.sizeOf4
  v4 := Tryz.zeroValue4
  t28 := Tryz.underlying41
  a28 := Tryz.isAgg41
  z28 := Tryz.sizeOf41
  v28 := Tryz.zeroValue41 }
open Go.RowKit Go.Lib in
theorem Tryz.slices_Equal_int (b1 o1 n c b2 o2 m d : Nat) (xs ys : List Int) (w : World) (hx : n ≤ xs.length) (hy : m ≤ ys.length) (hbig : n ≤ 9223372036854775807) (hbig2 : m ≤ 9223372036854775807) (hc1 : ∀ j, j < xs.length → w.cell? ⟨b1, o1 + j, none⟩ = some (.int .i64 (xs.getD j 0))) (hc2 : ∀ j, j < ys.length → w.cell? ⟨b2, o2 + j, none⟩ = some (.int .i64 (ys.getD j 0))) :
    Calls Tryz.prog 42 #[.slice (some ⟨b1, o1, none⟩) n c, .slice (some ⟨b2, o2, none⟩) m d] w fun e w' => e = .returned (.bool (xs.take n == ys.take m)) ∧ ∃ q, w' = w.drewN q := Any.slices_Equal_int Tryz.lays111 b1 o1 n c b2 o2 m d xs ys w hx hy hbig hbig2 hc1 hc2
open Go.RowKit Go.Lib in
theorem Tryz.slices_Equal_int_empty (a1 a2 : Option Addr) (c m d : Nat) (w : World) (hbig2 : m ≤ 9223372036854775807) :
    Calls Tryz.prog 42 #[.slice a1 0 c, .slice a2 m d] w fun e w' => e = .returned (.bool (decide (m = 0))) ∧ w' = w := Any.slices_Equal_int_empty Tryz.lays111 a1 a2 c m d w hbig2
def Tryz.lays187_ren : Go.Shelf.Ren := ⟨fun | 187 => 92 | 255 => 105 | n => n, fun | 37 => 30 | 5 => 5 | 3 => 3 | n => n, fun | n => n⟩
theorem Tryz.lays187 : Go.Proofs.Lays.n187 Tryz.prog Tryz.lays187_ren := {
  mixed := by kernel_rfl
  f187 := Tryz.func92.trans (congrArg some (by kernel_rfl))
  f255 := Tryz.func105.trans (congrArg some (by kernel_rfl))
  t3 := Tryz.underlying3
  a3 := Tryz.isAgg3
  z3 := Tryz.sizeOf3
  v3 := Tryz.zeroValue3
  t5 := Tryz.underlying5
  a5 := Tryz.isAgg5
  z5 := Tryz.sizeOf5
  v5 := Tryz.zeroValue5
  t37 := Tryz.underlying30
  a37 := Tryz.isAgg30
  z37 := Tryz.sizeOf30
  v37 := Tryz.zeroValue30 }
open Go.RowKit Go.Lib in
theorem Tryz.bytes_IndexByte_at (a : Addr) (n c : Nat) (xs : List Int) (cv : Int) (w : World) (hx : xs.length = n) (hc : ∀ i, i < n → w.cell? (a.add i) = some (.int .u8 (xs.getD i 0))) :
    Calls Tryz.prog 92 #[.slice (some a) n c, .int .u8 cv] w fun e w' => e = .returned (.int .i64 (Lib.indexByte (Lib.bytesOf xs) cv.toNat.toUInt8)) ∧ w' = w := Any.bytes_IndexByte_at Tryz.lays187 a n c xs cv w hx hc
end Go.Proofs
