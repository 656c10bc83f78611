/- Items by their names: a map of the call's own. -/
import Derived.Test.YtakkiipkmogagaaGreatTyD
import Derived.Maps.RangeWalk
import Derived.Maps.OwnSet
import Derived.Maps.Views
namespace Go.Proofs.YtakkiipkmogagaaGreat.Ty
open Go.RowKit
set_option linter.unusedSimpArgs false
set_option linter.unusedVariables false

/-- An item's value, as its parts say it. -/
structure IP where
  kind : Int
  name : ByteArray
  typ : Int
  bits : Int
  ao : Option Addr
  len : Nat
  cap : Nat
abbrev ipV (c : IP) : Value := .agg #[ci c.kind, .string c.name, ci c.typ, .int .u64 c.bits, .slice c.ao c.len c.cap]
/-- How an element of the map is read: as it is. -/
def RI (v : Value) : Option (DataW Value × List MemPlace) :=
  match v with
  | .agg ⟨[.int .i64 _, .string _, .int .i64 _, .int .u64 _, .slice _ _ _]⟩ => some (.held v, [])
  | _ => none
theorem RI_mk (c : IP) : RI (ipV c) = some (.held (ipV c), []) := rfl
theorem RI_inv (v : Value) (y : DataW Value × List MemPlace) (h : RI v = some y) : ∃ c, v = ipV c ∧ y = (.held (ipV c), []) := by
  unfold RI at h
  split at h
  · rename_i k s t b ao n cap
    exact ⟨⟨k, s, t, b, ao, n, cap⟩, rfl, (Option.some.inj h).symm⟩
  · cases h
abbrev zeroIP : IP := ⟨0, ⟨#[]⟩, 0, 0, none, 0, 0⟩
abbrev SK : Maps.Keyed Tryz.prog 9 := Maps.string_keyed Tryz.underlying9
theorem key_str (s : Bs) (h : OkN s) : keyOf Tryz.prog 9 (ct s) = some (.string s) := by
  rw [keyOf_string Tryz.underlying9]
  have hs : s.length ≤ maxLen := by unfold OkN at h; unfold maxLen; omega
  simp [mapKey, Tryz.underlying9, ByteArray.size, hs]
theorem str_ok' {s : ByteArray} (h : s.size ≤ maxLen) : OkN s.data.toList := by
  have : s.data.toList.length ≤ maxLen := by rw [Array.length_toList]; exact h
  unfold maxLen at this
  unfold OkN
  omega
theorem key_inv (key : Value) (kl : Lit) (h : keyOf Tryz.prog 9 key = some kl) : ∃ s : Bs, key = ct s ∧ kl = .string s ∧ OkN s := by
  rw [keyOf_string Tryz.underlying9] at h
  cases key <;> simp [mapKey, Tryz.underlying9] at h
  rename_i b
  obtain ⟨h1, rfl⟩ := h
  refine ⟨b.data.toList, by simp [ct], rfl, ?_⟩
  exact str_ok' h1
theorem keylit (s : Bs) : WideAt.IsKeyLit (.string s) := trivial
theorem zero_item (w : World) : (zeroValue 47).run Tryz.prog w = .ok (ipV zeroIP) w := by kernel_rfl
/-- The first item of a name. -/
def firstI (l : List It) (s : Bs) : Option It := l.find? fun i => i.name == s
/-- The map holds, under each name, the first item of it. -/
def FM (W w : World) (b n : Nat) (l : List It) : Prop :=
  ∃ D, w.ownsMap Tryz.prog 9 RI b n D ∧ ∀ s : Bs, (firstI l s = none ∧ Maps.has D (.string s) = false) ∨ ∃ i c, firstI l s = some i ∧ Maps.has D (.string s) = true ∧ (∀ zd, D.atKey (.string s) zd = .held (ipV c)) ∧ ItI W i (ipV c)
theorem own_fr {S : Nat → Prop} {w w' : World} {b n : Nat} {D : DataW Value} (h : w.ownsMap Tryz.prog 9 RI b n D) (hf : Fr S w w') (hb : ¬ S b) : w'.ownsMap Tryz.prog 9 RI b n D := by
  obtain ⟨es, clock, h1, h2⟩ := h
  exact ⟨es, clock, hf.heap h1 hb, h2⟩
theorem FM.keep {S : Nat → Prop} {W w w' : World} {b n : Nat} {l : List It} (h : FM W w b n l) (hf : Fr S w w') (hb : ¬ S b) : FM W w' b n l := by
  obtain ⟨D, h1, h2⟩ := h
  exact ⟨D, own_fr h1 hf hb, h2⟩
theorem FM.lt {W w : World} {b n : Nat} {l : List It} (h : FM W w b n l) : b < w.heap.size := by
  obtain ⟨D, h1, _⟩ := h
  exact h1.lt
theorem FM.new (W w : World) : FM W (w.alloc (.map #[] 0)) w.heap.size 0 [] := ⟨_, World.ownsMap_made w _ _ _, fun s => Or.inl ⟨rfl, rfl⟩⟩
theorem grown_fr {w w' : World} {row : Option Nat} (h : w.grownBy w' row) : Fr (fun k => row = some k) w w' := (Fr.grown h).mono fun k _ e => e.symm
theorem firstI_snoc (l : List It) (i : It) (s : Bs) : firstI (l ++ [i]) s = (firstI l s).or (if i.name = s then some i else none) := by
  unfold firstI
  rw [List.find?_append]
  by_cases h : i.name = s
  · simp [h]
  · have : (i.name == s) = false := by simpa using h
    simp [this, h]
/-- One more item whose name is there already. -/
theorem FM.old {W w : World} {b n : Nat} {l : List It} {i : It} (h : FM W w b n l) (hs : (firstI l i.name).isSome = true) : FM W w b n (l ++ [i]) := by
  obtain ⟨D, h1, h2⟩ := h
  refine ⟨D, h1, fun s => ?_⟩
  rw [firstI_snoc]
  by_cases e : i.name = s
  · subst e
    obtain ⟨j, hj⟩ := Option.isSome_iff_exists.1 hs
    rw [hj, Option.some_or]
    have := h2 i.name
    rw [hj] at this
    exact this
  · rw [if_neg e, Option.or_none]
    exact h2 s
/-- One more item whose name is new. -/
theorem FM.put {W w w' : World} {b n : Nat} {l : List It} {D : DataW Value} {i : It} {c : IP} (h1 : ∀ s : Bs, (firstI l s = none ∧ Maps.has D (.string s) = false) ∨ ∃ i c, firstI l s = some i ∧ Maps.has D (.string s) = true ∧ (∀ zd, D.atKey (.string s) zd = .held (ipV c)) ∧ ItI W i (ipV c))
    (hD : Maps.IsMap D) (h2 : w'.ownsMap Tryz.prog 9 RI b (n + 1) (D.put (.string i.name) (.held (ipV c)))) (hn : firstI l i.name = none) (hi : ItI W i (ipV c)) : FM W w' b (n + 1) (l ++ [i]) := by
  refine ⟨_, h2, fun s => ?_⟩
  rw [firstI_snoc]
  by_cases e : i.name = s
  · subst e
    rw [hn, if_pos rfl]
    exact Or.inr ⟨i, c, rfl, Maps.has_put_same hD (keylit _) _, fun zd => Maps.atKey_put_same hD (keylit _) _ zd, hi⟩
  · rw [if_neg e, Option.or_none]
    have hne : (Lit.string s) ≠ .string i.name := fun h => e (by cases h; rfl)
    rcases h1 s with ⟨a1, a2⟩ | ⟨j, c', a1, a2, a3, a4⟩
    · exact Or.inl ⟨a1, by rw [Maps.has_put_other hne]; exact a2⟩
    · exact Or.inr ⟨j, c', a1, by rw [Maps.has_put_other hne]; exact a2, fun zd => by rw [Maps.atKey_put_other hne]; exact a3 zd, a4⟩
/-- The cells of a row's item. -/
theorem ItL.at {w : World} {ao : Option Addr} {cap : Nat} {l : List It} (h : ItL w ao cap l) {j : Nat} {i : It} (hj : l[j]? = some i) : ∃ b off ap cp, ao = some ⟨b, off, none⟩ ∧ InL w ap cp i.params ∧
    w.cell? ⟨b, off + j * 5, none⟩ = some (ci i.kind) ∧ w.cell? ⟨b, off + j * 5 + 1, none⟩ = some (ct i.name) ∧ w.cell? ⟨b, off + j * 5 + 2, none⟩ = some (ci i.typ) ∧ w.cell? ⟨b, off + j * 5 + 3, none⟩ = some (.int .u64 i.bits) ∧ w.cell? ⟨b, off + j * 5 + 4, none⟩ = some (.slice ap i.params.length cp) := by
  rcases h.2.2.2 with rfl | ⟨b, off, rfl, hc⟩
  · simp at hj
  · obtain ⟨ap, cp, h1, h2⟩ := hc j i hj
    exact ⟨b, off, ap, cp, rfl, h1, h2 0 _ rfl, h2 1 _ rfl, h2 2 _ rfl, h2 3 _ rfl, h2 4 _ rfl⟩
end Go.Proofs.YtakkiipkmogagaaGreat.Ty
