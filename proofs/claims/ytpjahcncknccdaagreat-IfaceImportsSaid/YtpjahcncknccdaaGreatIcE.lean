/- iface.shown. -/
import Derived.Test.YtpjahcncknccdaaGreatIcD
import Derived.Test.YtpjahcncknccdaaGreatFoQ5
namespace Go.Proofs.YtpjahcncknccdaaGreat.Fo.Ic
open Go.RowKit Te
set_option linter.unusedSimpArgs false
set_option linter.unusedVariables false

/-- The item of a declaration, with the constants that are left. -/
def itOf (d : De) (cs : List Con) : Ty.It := ⟨d.kind, d.name, d.type, if d.kind = 1 then (cs.headD zC).b else 0, d.params.map (·.type)⟩
def itemsS : List De → List Con → List Ty.It
  | [], _ => []
  | d :: r, cs => (if d.ex then [itOf d cs] else []) ++ itemsS r (if d.kind = 1 then cs.tail else cs)
def cntC (l : List De) : Nat := (l.filter fun d => d.kind == 1).length
/-- Where an item's parameters lie: in a row of the call's own, which is not the items' row. -/
def PmO (w : World) (B : Nat) (lv : Value) (x : IV) : Prop := Ty.InL w x.2.1 x.2.2 x.1.params ∧ ∀ k, (Value.slice x.2.1 x.1.params.length x.2.2).ownBlock = some k → B ≤ k ∧ k < w.heap.size ∧ lv.ownBlock ≠ some k
theorem InL_keepS {S : Nat → Prop} {w w' : World} {ao : Option Addr} {cap : Nat} {l : List Int} (h : Ty.InL w ao cap l) (hf : Fr S w w') (hn : ∀ k, (Value.slice ao l.length cap).ownBlock = some k → ¬ S k) : Ty.InL w' ao cap l := by
  obtain ⟨h1, h2, h3, h4⟩ := h
  refine ⟨h1, h2, h3, ?_⟩
  rcases h4 with h4 | ⟨b, off, rfl, h4⟩
  · exact Or.inl h4
  · exact Or.inr ⟨b, off, rfl, fun i x hx => hf.cell (h4 i x hx) (hn b rfl)⟩
theorem PmO.keep {S : Nat → Prop} {w w' : World} {B : Nat} {lv : Value} {x : IV} (h : PmO w B lv x) (hf : Fr S w w') (hn : ∀ k, B ≤ k → k < w.heap.size → lv.ownBlock ≠ some k → ¬ S k) : PmO w' B lv x :=
  ⟨InL_keepS h.1 hf fun k hk => hn k (h.2 k hk).1 (h.2 k hk).2.1 (h.2 k hk).2.2, fun k hk => ⟨(h.2 k hk).1, Nat.lt_of_lt_of_le (h.2 k hk).2.1 hf.size, (h.2 k hk).2.2⟩⟩
theorem PmO.grow {w w' : World} {B : Nat} {lv lv' : Value} {x : IV} (h : PmO w B lv x) (hf : Fr (fun b => lv.ownBlock = some b) w w') (hv : lv'.ownBlock = lv.ownBlock ∨ lv'.ownBlock = some w.heap.size) : PmO w' B lv' x := by
  obtain ⟨h1, h2⟩ := h.keep hf (fun k _ _ e q => e q)
  refine ⟨h1, fun k hk => ⟨(h2 k hk).1, (h2 k hk).2.1, fun e => ?_⟩⟩
  rcases hv with q | q
  · rw [q] at e; exact (h2 k hk).2.2 e
  · rw [q] at e
    have e : w.heap.size = k := by simpa using e
    have := (h.2 k hk).2.1
    omega
theorem cntC_drop {l : List De} {i : Nat} {d : De} (h : l[i]? = some d) : cntC (l.drop i) = (if d.kind = 1 then 1 else 0) + cntC (l.drop (i + 1)) := by
  rw [dropAt h]
  unfold cntC
  rw [List.filter_cons]
  by_cases hk : d.kind = 1
  · simp [hk]; omega
  · simp [hk]
abbrev zIt : Obj := .cells #[ci 0, .string ⟨#[]⟩, ci 0, .int .u64 0, .slice none 0 0] 59 (0, 0)
theorem five_put {w : World} {g : Nat} {a b c d e : Value} {t : TypeId} (h : w.heap[g]? = some (.cells #[a, b, c, d, e] t (0, 0))) (v0 v1 v2 v3 v4 : Value) :
    (((((w.setCell ⟨g, 0, none⟩ v0).setCell ⟨g, 1, none⟩ v1).setCell ⟨g, 2, none⟩ v2).setCell ⟨g, 3, none⟩ v3).setCell ⟨g, 4, none⟩ v4).heap[g]? = some (.cells #[v0, v1, v2, v3, v4] t (0, 0)) := Ty.set_five h v0 v1 v2 v3 v4
theorem five_at (w : World) (g : Nat) (v0 v1 v2 v3 v4 : Value) : Fr (fun k => k = g) w (((((w.setCell ⟨g, 0, none⟩ v0).setCell ⟨g, 1, none⟩ v1).setCell ⟨g, 2, none⟩ v2).setCell ⟨g, 3, none⟩ v3).setCell ⟨g, 4, none⟩ v4) :=
  ((((Fr.setCell w ⟨g, 0, none⟩ _).same (Fr.setCell _ ⟨g, 1, none⟩ _)).same (Fr.setCell _ ⟨g, 2, none⟩ _)).same (Fr.setCell _ ⟨g, 3, none⟩ _)).same (Fr.setCell _ ⟨g, 4, none⟩ _)
theorem info_it : (Tryz.prog.info? 59).map (fun i => (i.zero, i.size, i.bytes)) = some (some (.agg #[.int .i64 0, .string ⟨#[]⟩, .int .i64 0, .int .u64 0, .slice none 0 0]), 5, 64) := by kernel_rfl
/-- A row of items, read. -/
theorem row_itl {w : World} {B : Nat} {v : Value} {l : List IV} (h : Rw.Row RP 59 5 w B v l) (hp : ∀ x ∈ l, PmO w B v x) : ∃ ao cap, v = .slice ao (l.map (·.1)).length cap ∧ Ty.ItL w ao cap (l.map (·.1)) := by
  obtain ⟨cells, h1, h2⟩ := h
  obtain ⟨ao, cap, e, hnc, hcm, hnn, hl, hh⟩ := own_slice h1 (by decide)
  refine ⟨ao, cap, by rw [List.length_map]; exact e, by rw [List.length_map]; exact hnc, hcm, hnn, ?_⟩
  rcases hh with h0 | ⟨g, rfl, hB, hg, hc⟩
  · left
    rw [List.eq_nil_of_length_eq_zero h0]; rfl
  · refine Or.inr ⟨g, 0, rfl, fun i x hx => ?_⟩
    rw [List.getElem?_map] at hx
    cases hy : l[i]? with
    | none => rw [hy] at hx; cases hx
    | some y =>
      rw [hy] at hx
      simp only [Option.map_some, Option.some.injEq] at hx
      subst hx
      obtain ⟨c, r1, r2, r3⟩ := h2.get hy
      have r1 : c = encI y := r1
      subst r1
      refine ⟨y.2.1, y.2.2, (hp y (List.mem_of_getElem? hy)).1, fun j u hu => ?_⟩
      rw [Nat.zero_add]
      exact hc _ _ (r3 j u hu)
end Go.Proofs.YtpjahcncknccdaaGreat.Fo.Ic
