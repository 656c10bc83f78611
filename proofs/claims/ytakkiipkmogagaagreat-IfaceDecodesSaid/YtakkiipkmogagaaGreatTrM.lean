/- Modules in memory. -/
import Derived.Test.YtakkiipkmogagaaGreatTrS
import Derived.Test.YtakkiipkmogagaaGreatNxA
namespace Go.Proofs.YtakkiipkmogagaaGreat
open Go.RowKit Te
set_option linter.unusedSimpArgs false
set_option linter.unusedVariables false

abbrev ct (l : List UInt8) : Value := .string ⟨l.toArray⟩
abbrev ci (z : Int) : Value := .int .i64 z
/-- The cells of an expression. -/
def exC (h : EH) (kv : Value) : List Value := [ci h.kind, ci h.op, ct h.mod, ct h.name, ci h.vt, .int .u64 h.vb, kv]
abbrev exV (h : EH) (kv : Value) : Value := .agg #[ci h.kind, ci h.op, ct h.mod, ct h.name, ci h.vt, .int .u64 h.vb, kv]
/-- Expressions that lie from a place on. -/
def ExA (w : World) : Exs → Nat → Nat → Prop
  | .nil, _, _ => True
  | .cons h k r, b, off => (∃ ao cap, (∀ (j : Nat) (x : Value), (exC h (.slice ao k.len cap))[j]? = some x → w.cell? ⟨b, off + j, none⟩ = some x) ∧ k.len ≤ cap ∧ cap ≤ maxLen ∧
      (k.len = 0 ∨ ∃ b' off', ao = some ⟨b', off', none⟩ ∧ ExA w k b' off')) ∧ ExA w r b (off + 7)
/-- Expressions that a slice holds. -/
def ExL (w : World) (ao : Option Addr) (cap : Nat) (k : Exs) : Prop :=
  k.len ≤ cap ∧ cap ≤ maxLen ∧ (k.len = 0 ∨ ∃ b off, ao = some ⟨b, off, none⟩ ∧ ExA w k b off)
def stC (h : SH) (ev bv lv : Value) : List Value := [ci h.kind, ct h.name, ev, bv, lv]
abbrev stV (h : SH) (ev bv lv : Value) : Value := .agg #[ci h.kind, ct h.name, ev, bv, lv]
def StA (w : World) : Sts → Nat → Nat → Prop
  | .nil, _, _ => True
  | .cons h e bo el r, b, off => (∃ ao1 cap1 ao2 cap2 ao3 cap3, (∀ (j : Nat) (x : Value), (stC h (.slice ao1 e.len cap1) (.slice ao2 bo.len cap2) (.slice ao3 el.len cap3))[j]? = some x → w.cell? ⟨b, off + j, none⟩ = some x) ∧
      ExL w ao1 cap1 e ∧ (bo.len ≤ cap2 ∧ cap2 ≤ maxLen ∧ (bo.len = 0 ∨ ∃ b' off', ao2 = some ⟨b', off', none⟩ ∧ StA w bo b' off')) ∧
      (el.len ≤ cap3 ∧ cap3 ≤ maxLen ∧ (el.len = 0 ∨ ∃ b' off', ao3 = some ⟨b', off', none⟩ ∧ StA w el b' off'))) ∧ StA w r b (off + 5)
def StL (w : World) (ao : Option Addr) (cap : Nat) (k : Sts) : Prop :=
  k.len ≤ cap ∧ cap ≤ maxLen ∧ (k.len = 0 ∨ ∃ b off, ao = some ⟨b, off, none⟩ ∧ StA w k b off)
def paC (p : Pa) : List Value := [ct p.name, ci p.type]
/-- A list of parameters. -/
def PaL (w : World) (ao : Option Addr) (cap : Nat) (l : List Pa) : Prop :=
  l.length ≤ cap ∧ cap ≤ maxLen ∧ (l = [] ∨ ∃ b off, ao = some ⟨b, off, none⟩ ∧ ∀ (i : Nat) (p : Pa), l[i]? = some p → ∀ (j : Nat) (x : Value), (paC p)[j]? = some x → w.cell? ⟨b, off + i * 2 + j, none⟩ = some x)
/-- A declaration, as its cells say it. -/
def DeI (w : World) (d : De) (pv ev bv : Value) : Prop :=
  ∃ ao1 cap1 ao2 cap2 ao3 cap3, pv = .slice ao1 d.params.length cap1 ∧ ev = .slice ao2 d.e.len cap2 ∧ bv = .slice ao3 d.body.len cap3 ∧ PaL w ao1 cap1 d.params ∧ ExL w ao2 cap2 d.e ∧ StL w ao3 cap3 d.body
def deC (d : De) (pv ev bv : Value) : List Value := [ci d.kind, .bool d.ex, ct d.name, ci d.type, pv, ev, bv]
abbrev deV (d : De) (pv ev bv : Value) : Value := .agg #[ci d.kind, .bool d.ex, ct d.name, ci d.type, pv, ev, bv]
def DeL (w : World) (ao : Option Addr) (cap : Nat) (l : List De) : Prop :=
  l.length ≤ cap ∧ cap ≤ maxLen ∧ (l = [] ∨ ∃ b off, ao = some ⟨b, off, none⟩ ∧ ∀ (i : Nat) (d : De), l[i]? = some d → ∃ pv ev bv, DeI w d pv ev bv ∧ ∀ (j : Nat) (x : Value), (deC d pv ev bv)[j]? = some x → w.cell? ⟨b, off + i * 7 + j, none⟩ = some x)
/-- Texts in a row. -/
def SvL (w : World) (ao : Option Addr) (cap : Nat) (l : List Bs) : Prop :=
  l.length ≤ cap ∧ cap ≤ maxLen ∧ (l = [] ∨ ∃ b off, ao = some ⟨b, off, none⟩ ∧ ∀ (i : Nat) (x : Bs), l[i]? = some x → w.cell? ⟨b, off + i, none⟩ = some (ct x))
abbrev moV (m : Mo) (ao : Option Addr) (cap : Nat) (ao' : Option Addr) (cap' : Nat) : Value := .agg #[ct m.name, .slice ao m.imports.length cap, .slice ao' m.decls.length cap']
def MoI (w : World) (m : Mo) (v : Value) : Prop := ∃ ao cap ao' cap', v = moV m ao cap ao' cap' ∧ SvL w ao cap m.imports ∧ DeL w ao' cap' m.decls
/-- An expression by itself. -/
def ExI (w : World) (h : EH) (k : Exs) (v : Value) : Prop := ∃ ao cap, v = exV h (.slice ao k.len cap) ∧ ExL w ao cap k

theorem ExA.keep {w w' : World} (hf : Fr (fun _ => False) w w') : ∀ (k : Exs) (b off : Nat), ExA w k b off → ExA w' k b off
  | .nil, _, _, _ => trivial
  | .cons h k r, b, off, ⟨⟨ao, cap, h1, h2, h3, h4⟩, h5⟩ => by
    refine ⟨⟨ao, cap, fun j x hx => hf.cellN (h1 j x hx), h2, h3, ?_⟩, ExA.keep hf r b _ h5⟩
    rcases h4 with h4 | ⟨b', off', rfl, h4⟩
    · exact Or.inl h4
    · exact Or.inr ⟨b', off', rfl, ExA.keep hf k b' off' h4⟩
theorem ExL.keep {w w' : World} {ao : Option Addr} {cap : Nat} {k : Exs} (h : ExL w ao cap k) (hf : Fr (fun _ => False) w w') : ExL w' ao cap k := by
  obtain ⟨h1, h2, h3⟩ := h
  refine ⟨h1, h2, ?_⟩
  rcases h3 with h3 | ⟨b, off, rfl, h3⟩
  · exact Or.inl h3
  · exact Or.inr ⟨b, off, rfl, ExA.keep hf k b off h3⟩
theorem StA.keep {w w' : World} (hf : Fr (fun _ => False) w w') : ∀ (k : Sts) (b off : Nat), StA w k b off → StA w' k b off
  | .nil, _, _, _ => trivial
  | .cons h e bo el r, b, off, ⟨⟨ao1, cap1, ao2, cap2, ao3, cap3, h1, h2, ⟨h3, h4, h5⟩, ⟨h6, h7, h8⟩⟩, h9⟩ => by
    refine ⟨⟨ao1, cap1, ao2, cap2, ao3, cap3, fun j x hx => hf.cellN (h1 j x hx), h2.keep hf, ⟨h3, h4, ?_⟩, ⟨h6, h7, ?_⟩⟩, StA.keep hf r b _ h9⟩
    · rcases h5 with h5 | ⟨b', off', rfl, h5⟩
      · exact Or.inl h5
      · exact Or.inr ⟨b', off', rfl, StA.keep hf bo b' off' h5⟩
    · rcases h8 with h8 | ⟨b', off', rfl, h8⟩
      · exact Or.inl h8
      · exact Or.inr ⟨b', off', rfl, StA.keep hf el b' off' h8⟩
theorem StL.keep {w w' : World} {ao : Option Addr} {cap : Nat} {k : Sts} (h : StL w ao cap k) (hf : Fr (fun _ => False) w w') : StL w' ao cap k := by
  obtain ⟨h1, h2, h3⟩ := h
  refine ⟨h1, h2, ?_⟩
  rcases h3 with h3 | ⟨b, off, rfl, h3⟩
  · exact Or.inl h3
  · exact Or.inr ⟨b, off, rfl, StA.keep hf k b off h3⟩
theorem PaL.keep {w w' : World} {ao : Option Addr} {cap : Nat} {l : List Pa} (h : PaL w ao cap l) (hf : Fr (fun _ => False) w w') : PaL w' ao cap l := by
  obtain ⟨h1, h2, h3⟩ := h
  refine ⟨h1, h2, ?_⟩
  rcases h3 with h3 | ⟨b, off, rfl, h3⟩
  · exact Or.inl h3
  · exact Or.inr ⟨b, off, rfl, fun i p hp j x hx => hf.cellN (h3 i p hp j x hx)⟩
theorem DeI.keep {w w' : World} {d : De} {pv ev bv : Value} (h : DeI w d pv ev bv) (hf : Fr (fun _ => False) w w') : DeI w' d pv ev bv := by
  obtain ⟨ao1, cap1, ao2, cap2, ao3, cap3, h1, h2, h3, h4, h5, h6⟩ := h
  exact ⟨ao1, cap1, ao2, cap2, ao3, cap3, h1, h2, h3, h4.keep hf, h5.keep hf, h6.keep hf⟩
theorem DeL.keep {w w' : World} {ao : Option Addr} {cap : Nat} {l : List De} (h : DeL w ao cap l) (hf : Fr (fun _ => False) w w') : DeL w' ao cap l := by
  obtain ⟨h1, h2, h3⟩ := h
  refine ⟨h1, h2, ?_⟩
  rcases h3 with h3 | ⟨b, off, rfl, h3⟩
  · exact Or.inl h3
  · refine Or.inr ⟨b, off, rfl, fun i d hd => ?_⟩
    obtain ⟨pv, ev, bv, hi, hc⟩ := h3 i d hd
    exact ⟨pv, ev, bv, hi.keep hf, fun j x hx => hf.cellN (hc j x hx)⟩
theorem SvL.keep {w w' : World} {ao : Option Addr} {cap : Nat} {l : List Bs} (h : SvL w ao cap l) (hf : Fr (fun _ => False) w w') : SvL w' ao cap l := by
  obtain ⟨h1, h2, h3⟩ := h
  refine ⟨h1, h2, ?_⟩
  rcases h3 with h3 | ⟨b, off, rfl, h3⟩
  · exact Or.inl h3
  · exact Or.inr ⟨b, off, rfl, fun i x hx => hf.cellN (h3 i x hx)⟩
theorem MoI.keep {w w' : World} {m : Mo} {v : Value} (h : MoI w m v) (hf : Fr (fun _ => False) w w') : MoI w' m v := by
  obtain ⟨ao, cap, ao', cap', h1, h2, h3⟩ := h
  exact ⟨ao, cap, ao', cap', h1, h2.keep hf, h3.keep hf⟩
theorem ExI.keep {w w' : World} {h : EH} {k : Exs} {v : Value} (hh : ExI w h k v) (hf : Fr (fun _ => False) w w') : ExI w' h k v := by
  obtain ⟨ao, cap, h1, h2⟩ := hh
  exact ⟨ao, cap, h1, h2.keep hf⟩

/-- What a machine's ints and words hold, all through; each text can be measured. -/
def I64 (z : Int) : Prop := -9223372036854775808 ≤ z ∧ z ≤ 9223372036854775807
def OkN (l : Bs) : Prop := l.length ≤ 9223372036854775807
structure OkE (h : EH) : Prop where
  kind : I64 h.kind
  op : I64 h.op
  vt : I64 h.vt
  vb0 : 0 ≤ h.vb
  vb1 : h.vb < 18446744073709551616
  mod : OkN h.mod
  name : OkN h.name
def OkX : Exs → Prop
  | .nil => True
  | .cons h k r => OkE h ∧ OkX k ∧ OkX r
def OkS : Sts → Prop
  | .nil => True
  | .cons h e b l r => I64 h.kind ∧ OkN h.name ∧ OkX e ∧ OkS b ∧ OkS l ∧ OkS r
structure OkD (d : De) : Prop where
  kind : I64 d.kind
  type : I64 d.type
  name : OkN d.name
  params : ∀ p ∈ d.params, OkN p.name ∧ I64 p.type
  e : OkX d.e
  body : OkS d.body
structure OkM (m : Mo) : Prop where
  name : OkN m.name
  imports : ∀ x ∈ m.imports, OkN x
  decls : ∀ d ∈ m.decls, OkD d
end Go.Proofs.YtakkiipkmogagaaGreat
