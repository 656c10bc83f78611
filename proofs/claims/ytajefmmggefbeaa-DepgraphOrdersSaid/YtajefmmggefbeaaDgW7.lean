/- The document's New: what it makes. -/
import Derived.Test.YtajefmmggefbeaaDgW6
import Derived.Test.YtajefmmggefbeaaDgOw
import Derived.Test.YtajefmmggefbeaaNmRight2
namespace Go.Proofs.Ytajefmmggefbeaa.Dg
open Go.RowKit Go.Sort
set_option linter.unusedSimpArgs false
set_option linter.unusedVariables false

theorem perm_of_len : ∀ {a b : List Str}, a.Nodup → (∀ x ∈ a, x ∈ b) → b.length ≤ a.length → b.Perm a
  | [], b, _, _, h => by
    obtain rfl : b = [] := List.eq_nil_of_length_eq_zero (by simpa using h)
    exact List.Perm.refl _
  | x :: a, b, hn, h, hl => by
    obtain ⟨h1, h2⟩ := List.nodup_cons.1 hn
    obtain ⟨i, hi⟩ := List.getElem?_of_mem (h x (by simp))
    have hp := eraseIdx_perm hi
    have hlen := hp.length_eq
    have := perm_of_len (a := a) (b := b.eraseIdx i) h2 (fun y hy => by
      rcases mem_eraseIdx_or hi (h y (by simp [hy])) with e | e
      · exact absurd (e ▸ hy) h1
      · exact e) (by simp only [List.length_cons] at hl hlen; omega)
    exact hp.trans (this.cons x)
theorem set_len_iff (l : List Str) : (setS l).length = l.length ↔ l.Nodup := by
  constructor
  · intro h
    have := perm_of_len (a := setS l) (b := l) (nodup_of_ss (setS_ss l)) (fun x hx => mem_setS.1 hx) (by omega)
    exact this.nodup_iff.2 (nodup_of_ss (setS_ss l))
  · intro h
    exact ((List.perm_ext_iff_of_nodup (nodup_of_ss (setS_ss l)) h).2 fun x => mem_setS).length_eq
/-- A box of one cell that may be written. -/
def BoxV (w : World) (B : Nat) (v : Value) : Prop := w.cell? ⟨B, 0, none⟩ = some v ∧ w.frozen? ⟨B, 0, none⟩ = false ∧ B < w.heap.size
theorem BoxV.keep {S : Nat → Prop} {w w' : World} {B : Nat} {v : Value} (h : BoxV w B v) (hf : Fr S w w') (hn : ¬ S B) : BoxV w' B v := by
  refine ⟨hf.cell h.1 hn, ?_, Nat.lt_of_lt_of_le h.2.2 hf.size⟩
  rw [World.frozen?_of_block (w := w) (hf.block B h.2.2 hn)]
  exact h.2.1
theorem BoxV.new (w : World) (v : Value) (t : TypeId) : BoxV (w.alloc (.cells #[v] t)) w.heap.size v := by
  refine ⟨by rw [cell_of_row _ _ _ _ _ _ (alloc_new w _)]; rfl, ?_, by simp⟩
  unfold World.frozen?
  rw [alloc_new w _]
  simp
theorem BoxV.set {w : World} {B : Nat} {v : Value} (h : BoxV w B v) (u : Value) : BoxV (w.setCell ⟨B, 0, none⟩ u) B u := by
  refine ⟨World.cell?_setCell_same' w _ _ (by rw [h.1]; rfl), ?_, by simpa using h.2.2⟩
  have : (w.setCell ⟨B, 0, none⟩ u).frozen? ⟨B, 0, none⟩ = w.frozen? ⟨B, 0, none⟩ := by simp
  rw [this]
  exact h.2.1
theorem Try.info_rn : (Try.prog.info? 57).map (fun i => (i.zero, i.size, i.bytes)) = some (some (.agg #[.string ⟨#[]⟩, .slice none 0 0]), 2, 40) := by kernel_rfl
abbrev RowR (w : World) (B : Nat) (v : Value) (xs : List (Str × Value)) : Prop := Rw.Row RN 57 2 w B v xs
/-- The document's nodes, as far as they are made. -/
structure OwR (w : World) (B : Nat) (v : Value) (xs : List (Str × Value)) (nl : List Nd) : Prop where
  row : RowR w B v xs
  len : xs.length = nl.length
  each : ∀ (i : Nat) (x : Str × Value) (n : Nd), xs[i]? = some x → nl[i]? = some n → x.1 = n.1 ∧ To w B x.2 n.2 ∧ ∀ k, x.2.ownBlock = some k → v.ownBlock ≠ some k
theorem OwR.nil (w : World) (B : Nat) : OwR w B (.slice none 0 0) [] [] := ⟨⟨[], ⟨by simp, Or.inl ⟨rfl, rfl⟩⟩, rfl⟩, rfl, fun i x n hx => by simp at hx⟩
theorem OwR.keep {S : Nat → Prop} {w w' : World} {B : Nat} {v : Value} {xs : List (Str × Value)} {nl : List Nd} (h : OwR w B v xs nl) (hf : Fr S w w') (hS : ∀ k, B ≤ k → k < w.heap.size → ¬ S k) : OwR w' B v xs nl :=
  ⟨h.row.keep hf (fun k hk => hS k (h.row.low k hk).1 (h.row.low k hk).2), h.len, fun i x n hx hn => ⟨(h.each i x n hx hn).1, (h.each i x n hx hn).2.1.keep hf (fun k hk => hS k ((h.each i x n hx hn).2.1.own k hk).1 ((h.each i x n hx hn).2.1.own k hk).2), (h.each i x n hx hn).2.2⟩⟩
theorem OwR.snoc {w w' : World} {B : Nat} {v v' : Value} {xs : List (Str × Value)} {nl : List Nd} {s : Str} {y : Value} {imps : List Str} (h : OwR w B v xs nl) (hf : Fr (fun k => v.ownBlock = some k) w w') (hrow : RowR w' B v' (xs ++ [(s, y)])) (ho : v'.ownBlock = v.ownBlock ∨ v'.ownBlock = some w.heap.size) (hy : To w B y imps) (hyv : ∀ k, y.ownBlock = some k → v.ownBlock ≠ some k) : OwR w' B v' (xs ++ [(s, y)]) (nl ++ [(s, imps)]) := by
  have hnb : ∀ k, k < w.heap.size → v.ownBlock ≠ some k → v'.ownBlock ≠ some k := by
    intro k hk hne e
    rcases ho with o | o
    · exact hne (by rw [← o]; exact e)
    · rw [o] at e; have := Option.some.inj e; omega
  refine ⟨hrow, by simp [h.len], fun i x n hx hn => ?_⟩
  by_cases hil : i < xs.length
  · rw [List.getElem?_append_left hil] at hx
    rw [List.getElem?_append_left (by have := h.len; omega)] at hn
    obtain ⟨k1, k2, k3⟩ := h.each i x n hx hn
    exact ⟨k1, k2.keep hf k3, fun k hk => hnb k (k2.own k hk).2 (k3 k hk)⟩
  · have e : i = xs.length := by
      have := (List.getElem?_eq_some_iff.1 hx).1
      simp at this; omega
    subst e
    rw [List.getElem?_append_right (Nat.le_refl _), Nat.sub_self] at hx
    rw [h.len, List.getElem?_append_right (Nat.le_refl _), Nat.sub_self] at hn
    simp at hx hn
    subst hx hn
    exact ⟨rfl, hy.keep hf hyv, fun k hk => hnb k (hy.own k hk).2 (hyv k hk)⟩
theorem OwR.rl {w : World} {B : Nat} {v : Value} {xs : List (Str × Value)} {g : Gr} (h : OwR w B v xs (g.ks.map fun s => (s, g.im s))) : ∃ ao cap, v = .slice ao g.ks.length cap ∧ RL w ao cap g := by
  obtain ⟨ao, cap, rfl, h1, h2, h3⟩ := h.row.slice
  have hl : xs.length = g.ks.length := by rw [h.len, List.length_map]
  refine ⟨ao, cap, by rw [hl], by omega, by unfold maxLen at h2; omega, ?_⟩
  rcases h3 with h3 | ⟨b, rfl, hc⟩
  · left
    subst h3
    exact List.eq_nil_of_length_eq_zero hl.symm
  · refine Or.inr ⟨b, 0, rfl, fun i s hs => ?_⟩
    obtain ⟨x, hx⟩ : ∃ x, xs[i]? = some x := ⟨xs[i]'(by have := (List.getElem?_eq_some_iff.1 hs).1; omega), List.getElem?_eq_getElem _⟩
    obtain ⟨k1, k2, _⟩ := h.each i x (s, g.im s) hx (by rw [List.getElem?_map, hs]; rfl)
    obtain ⟨c, ⟨rfl, _⟩, _, hcc⟩ := hc i x hx
    obtain ⟨aoi, capi, e, _, _⟩ := k2.shape
    refine ⟨aoi, capi, ?_, ?_, ?_⟩
    · have := hcc 0 _ rfl
      rw [k1] at this
      simpa using this
    · have := hcc 1 _ rfl
      rw [e] at this
      simpa using this
    · have := k2.tn.tl
      rw [e] at this
      exact this
/-- What the document's New answers. -/
def RNewR (w0 : World) (nl : List Nd) (e : Ending) (w' : World) : Prop :=
  (newE nl ≠ 0 ∧ e = .returned (.tuple #[.pointer none, .int .i64 (newE nl)])) ∨ (newE nl = 0 ∧ ∃ B, e = .returned (.tuple #[.pointer (some ⟨B, 0, none⟩), .int .i64 0]) ∧ ∀ W, Fr (fun k => k < w0.heap.size) w' W → Rg W (.pointer (some ⟨B, 0, none⟩)) (gOf nl))
theorem newE_parts {nl : List Nd} (h : newE nl = 0) : bigS nl = false ∧ badS nl = false ∧ (nl.map (·.1)).Nodup := by
  unfold newE at h
  split at h
  · cases h
  · split at h
    · cases h
    · split at h
      · rename_i h1 h2 h3
        exact ⟨by simpa using h1, by simpa using h2, h3⟩
      · cases h
theorem big_parts {nl : List Nd} (h : bigS nl = false) : nl.length ≤ 32 ∧ ∀ n ∈ nl, n.2.length ≤ 16 := by
  unfold bigS at h
  rw [Bool.or_eq_false_iff] at h
  exact ⟨by simpa using h.1, fun n hn => by have := List.any_eq_false.1 h.2 n hn; simpa using this⟩
theorem bad_parts {nl : List Nd} (h : badS nl = false) : ∀ n ∈ nl, badN n.1 = false ∧ ∀ s ∈ n.2, badN s = false := fun nd hm => by
  have := List.any_eq_false.1 h nd hm
  simp only [Bool.or_eq_true, not_or, Bool.not_eq_true] at this
  exact ⟨this.1, fun s hs => by have := List.any_eq_false.1 this.2 s hs; simpa using this⟩
theorem gOf_im {nl : List Nd} (hnd : (nl.map (·.1)).Nodup) (s : Str) : (s ∉ nl.map (·.1) ∧ (gOf nl).im s = []) ∨ ∃ nd ∈ nl, nd.1 = s ∧ (gOf nl).im s = setS nd.2 := by
  by_cases hs : s ∈ nl.map (·.1)
  · obtain ⟨nd, q1, q2⟩ := List.mem_map.1 hs
    refine Or.inr ⟨nd, q1, q2, ?_⟩
    subst q2
    show (match nl.find? (fun m => decide (m.1 = nd.1)) with | some n => setS n.2 | none => []) = _
    rw [find_nodup hnd q1]
  · refine Or.inl ⟨hs, ?_⟩
    show (match nl.find? (fun m => decide (m.1 = s)) with | some n => setS n.2 | none => []) = _
    rw [find_none hs]
theorem Rg.make {W : World} {nl : List Nd} {Bx B : Nat} {v : Value} {xs : List (Str × Value)} (he : newE nl = 0) (hb : W.cell? ⟨Bx, 0, none⟩ = some v) (ho : OwR W B v xs ((gOf nl).ks.map fun s => (s, (gOf nl).im s))) : Rg W (.pointer (some ⟨Bx, 0, none⟩)) (gOf nl) := by
  obtain ⟨h1, h2, h3⟩ := newE_parts he
  obtain ⟨hb1, hb2⟩ := big_parts h1
  have hg := bad_parts h2
  obtain ⟨ao, cap, rfl, hrl⟩ := ho.rl
  refine ⟨gOf_wf nl, ?_, fun s => ?_, fun s hs => ?_, fun s m hm => ?_, Bx, ao, cap, rfl, hb, hrl⟩
  · have := setS_len (nl.map (·.1))
    rw [List.length_map] at this
    exact Nat.le_trans this hb1
  · rcases gOf_im h3 s with ⟨_, e⟩ | ⟨nd, q1, _, e⟩
    · rw [e]; simp
    · rw [e]; exact Nat.le_trans (setS_len _) (hb2 nd q1)
  · have hs' : s ∈ nl.map (·.1) := mem_setS.1 hs
    obtain ⟨nd, q1, q2⟩ := List.mem_map.1 hs'
    subst q2
    exact right_len (hg nd q1).1
  · rcases gOf_im h3 s with ⟨_, e⟩ | ⟨nd, q1, _, e⟩
    · rw [e] at hm; cases hm
    · rw [e] at hm; exact right_len ((hg nd q1).2 m (mem_setS.1 hm))
theorem rnew_32 (ao : Option Addr) (cap : Nat) (nl : List Nd) (w : World) (h32 : 32 < nl.length) :
    Calls Try.prog 28 #[.slice ao nl.length cap] w fun e w' => RNewR w nl e w' ∧ Fr (fun _ => False) w w' := by
  have he : newE nl = 3 := by unfold newE; rw [if_pos]; unfold bigS; rw [decide_eq_true h32]; rfl
  have hpost : Hidden (∀ w', Fr (fun _ => False) w w' → RNewR w nl (.returned (.tuple #[.pointer none, .int .i64 3])) w') := fun w' _ => Or.inl ⟨by rw [he]; decide, by rw [he]⟩
  have hz : (32 : Int) < (nl.length : Int) := by omega
  clear he
  generalize nl.length = n at *
  go_enter Try.func28, Try.ntmps28
  go_wp2
  go_ret2
  exact ⟨(show ∀ w', _ → _ from hpost) _ (Fr.refl _ _), Fr.refl _ _⟩
end Go.Proofs.Ytajefmmggefbeaa.Dg
