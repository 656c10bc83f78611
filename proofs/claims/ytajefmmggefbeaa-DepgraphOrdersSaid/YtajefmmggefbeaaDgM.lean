/- Graphs and sets in memory. -/
import Derived.Test.YtajefmmggefbeaaDgF
import Derived.Test.YtajefmmggefbeaaDgR
import Derived.Test.YtajefmmggefbeaaNmApp
import Derived.Test.YtajefmmggefbeaaShelf2
import Derived.Maps.RangeWalk
import Derived.Maps.OwnSet
import Derived.Maps.Views
namespace Go.Proofs.Ytajefmmggefbeaa.Dg
open Go.RowKit Go.Sort
set_option linter.unusedSimpArgs false
set_option linter.unusedVariables false

abbrev ct (s : Str) : Value := .string ⟨s.toArray⟩
def OkN (s : Str) : Prop := s.length ≤ 9223372036854775807
abbrev SK : Maps.Keyed Try.prog 9 := Maps.string_keyed Try.underlying9
theorem key_str (s : Str) (h : OkN s) : keyOf Try.prog 9 (ct s) = some (.string s) := by
  rw [keyOf_string Try.underlying9]
  have hs : s.length ≤ maxLen := by unfold OkN at h; unfold maxLen; omega
  simp [mapKey, Try.underlying9, ByteArray.size, hs]
theorem keylit (s : Str) : WideAt.IsKeyLit (.string s) := trivial
theorem gmap_under : Try.prog.underlying 52 = some (.map 9 23) := Try.underlying52
theorem set_under : Try.prog.underlying 67 = some (.map 9 70) := Try.underlying67
theorem zero_sl (w : World) : (zeroValue 23).run Try.prog w = .ok (.slice none 0 0) w := Try.zeroValue23 w
theorem zero_un (w : World) : (zeroValue 70).run Try.prog w = .ok (.agg #[]) w := Try.zeroValue70 w

/-- How an element of the graph's map is read: as it is. -/
def RS (v : Value) : Option (DataW Value × List MemPlace) :=
  match v with
  | .slice _ _ _ => some (.held v, [])
  | _ => none
theorem RS_mk (ao : Option Addr) (n c : Nat) : RS (.slice ao n c) = some (.held (.slice ao n c), []) := rfl
theorem RS_inv (v : Value) (y : DataW Value × List MemPlace) (h : RS v = some y) : y = (.held v, []) := by
  unfold RS at h
  split at h
  · exact (Option.some.inj h).symm
  · cases h
theorem Fr.later {w w' w'' : World} (h : Fr (fun _ => False) w w') (k : Fr (fun _ => False) w' w'') : Fr (fun _ => False) w w'' := h.same k
theorem own_fr {H : Type} {R : Value → Option (DataW H × List MemPlace)} {S : Nat → Prop} {w w' : World} {b n : Nat} {D : DataW H} (h : w.ownsMap Try.prog 9 R b n D) (hf : Fr S w w') (hb : ¬ S b) : w'.ownsMap Try.prog 9 R b n D := by
  obtain ⟨es, clock, h1, h2⟩ := h
  exact ⟨es, clock, hf.heap h1 hb, h2⟩
theorem grown_fr {w w' : World} {row : Option Nat} (h : w.grownBy w' row) : Fr (fun k => row = some k) w w' := (Fr.grown h).mono fun k _ e => e.symm

/-- The graph's table. -/
def Gt (w : World) (mv : Value) (g : Gr) : Prop :=
  (mv = .map none ∧ g.ks = [] ∧ ∀ n, g.im n = []) ∨
  ∃ b n D, mv = .map (some b) ∧ w.ownsMap Try.prog 9 RS b n D ∧ n ≤ 32 ∧ ∀ s : Str, (s ∉ g.ks ∧ g.im s = [] ∧ Maps.has D (.string s) = false) ∨ (s ∈ g.ks ∧ Maps.has D (.string s) = true ∧ ∃ v, (∀ zd, D.atKey (.string s) zd = .held v) ∧ Tl w v (g.im s))
theorem Gt.later {w w' : World} {mv : Value} {g : Gr} (h : Gt w mv g) (hf : Fr (fun _ => False) w w') : Gt w' mv g := by
  rcases h with h | ⟨b, n, D, rfl, h1, h2, h3⟩
  · exact Or.inl h
  · refine Or.inr ⟨b, n, D, rfl, own_fr h1 hf (fun f => f), h2, fun s => ?_⟩
    rcases h3 s with k | ⟨k1, k2, v, k3, k4⟩
    · exact Or.inl k
    · exact Or.inr ⟨k1, k2, v, k3, k4.later hf⟩
theorem Gt.look {w : World} {mv : Value} {g : Gr} (h : Gt w mv g) (s : Str) (hs : OkN s) : ∃ ao cap, (Instr.lookup 52 mv (ct s) false).run Try.prog w = .ok (.slice ao (g.im s).length cap) w ∧ Tl w (.slice ao (g.im s).length cap) (g.im s) := by
  rcases h with ⟨rfl, h1, h2⟩ | ⟨b, n, D, rfl, h1, h2, h3⟩
  · have := Maps.look_nil (w := w) false SK gmap_under (zero_sl w) (key_str s hs)
    rw [h2 s]
    exact ⟨none, 0, this, Tl.nil w⟩
  · obtain ⟨v, ps, hrun, hv⟩ := h1.lookup SK gmap_under (zero_sl w) (RS_mk none 0 0) (key_str s hs)
    have e := RS_inv _ _ hv
    simp only [Prod.mk.injEq] at e
    rcases h3 s with ⟨k1, k2, k3⟩ | ⟨k1, k2, v', k3, k4⟩
    · rw [Maps.atKey_of_not_has k3, DataW.held.injEq] at e
      obtain ⟨rfl, _⟩ := e
      rw [k2]
      exact ⟨none, 0, hrun, Tl.nil w⟩
    · rw [k3, DataW.held.injEq] at e
      obtain ⟨rfl, _⟩ := e
      obtain ⟨ao, cap, e2, _⟩ := id k4
      subst e2
      exact ⟨ao, cap, hrun, k4⟩
/-- The same value, whatever is made later. -/
theorem Gt.looks {w : World} {mv : Value} {g : Gr} (h : Gt w mv g) (s : Str) (hs : OkN s) : ∃ ao cap, Tl w (.slice ao (g.im s).length cap) (g.im s) ∧ ∀ w', Fr (fun _ => False) w w' → (Instr.lookup 52 mv (ct s) false).run Try.prog w' = .ok (.slice ao (g.im s).length cap) w' := by
  rcases h with ⟨rfl, h1, h2⟩ | ⟨b, n, D, rfl, h1, h2, h3⟩
  · rw [h2 s]
    exact ⟨none, 0, Tl.nil w, fun w' _ => Maps.look_nil (w := w') false SK gmap_under (zero_sl w') (key_str s hs)⟩
  · rcases h3 s with ⟨k1, k2, k3⟩ | ⟨k1, k2, v', k3, k4⟩
    · rw [k2]
      refine ⟨none, 0, Tl.nil w, fun w' hf => ?_⟩
      obtain ⟨v, ps, hrun, hv⟩ := (own_fr h1 hf (fun f => f)).lookup SK gmap_under (zero_sl w') (RS_mk none 0 0) (key_str s hs)
      have e := RS_inv _ _ hv
      rw [Prod.mk.injEq, Maps.atKey_of_not_has k3, DataW.held.injEq] at e
      obtain ⟨rfl, _⟩ := e
      exact hrun
    · obtain ⟨ao, cap, e2, _⟩ := id k4
      subst e2
      refine ⟨ao, cap, k4, fun w' hf => ?_⟩
      obtain ⟨v, ps, hrun, hv⟩ := (own_fr h1 hf (fun f => f)).lookup SK gmap_under (zero_sl w') (RS_mk none 0 0) (key_str s hs)
      have e := RS_inv _ _ hv
      rw [Prod.mk.injEq, k3, DataW.held.injEq] at e
      obtain ⟨rfl, _⟩ := e
      exact hrun
theorem Gt.look_ok {w : World} {mv : Value} {g : Gr} (h : Gt w mv g) (s : Str) (hs : OkN s) : ∃ ao n cap, (Instr.lookup 52 mv (ct s) true).run Try.prog w = .ok (.tuple #[.slice ao n cap, .bool (decide (s ∈ g.ks))]) w := by
  rcases h with ⟨rfl, h1, h2⟩ | ⟨b, n, D, rfl, h1, h2, h3⟩
  · have := Maps.look_nil (w := w) true SK gmap_under (zero_sl w) (key_str s hs)
    rw [h1]
    exact ⟨none, 0, 0, this⟩
  · obtain ⟨v, ps, hrun, hv⟩ := h1.look_ok SK gmap_under (zero_sl w) (RS_mk none 0 0) (key_str s hs)
    have hsl : ∃ ao n cap, v = .slice ao n cap := by
      unfold RS at hv
      split at hv
      · exact ⟨_, _, _, rfl⟩
      · cases hv
    obtain ⟨ao, n', cap, rfl⟩ := hsl
    have hh : Maps.has D (.string s) = decide (s ∈ g.ks) := by
      rcases h3 s with ⟨k1, _, k3⟩ | ⟨k1, k2, _⟩
      · rw [k3]; simp [k1]
      · rw [k2]; simp [k1]
    rw [hh] at hrun
    exact ⟨ao, n', cap, hrun⟩

/-- A graph, as the program holds it. -/
structure Gp (w : World) (p : Value) (g : Gr) : Prop where
  wf : g.WF
  small : g.ks.length ≤ 32
  ims : ∀ n, (g.im n).length ≤ 16
  ok : ∀ n ∈ g.ks, n.length ≤ 32
  oki : ∀ n, ∀ m ∈ g.im n, m.length ≤ 32
  cell : (p = .pointer none ∧ g.ks = [] ∧ ∀ n, g.im n = []) ∨ ∃ B mv, p = .pointer (some ⟨B, 0, none⟩) ∧ w.cell? ⟨B, 0, none⟩ = some mv ∧ Gt w mv g
theorem Gp.later {w w' : World} {p : Value} {g : Gr} (h : Gp w p g) (hf : Fr (fun _ => False) w w') : Gp w' p g := by
  refine ⟨h.wf, h.small, h.ims, h.ok, h.oki, ?_⟩
  rcases h.cell with k | ⟨B, mv, k1, k2, k3⟩
  · exact Or.inl k
  · exact Or.inr ⟨B, mv, k1, hf.cellN k2, k3.later hf⟩
theorem Gp.okN {w : World} {p : Value} {g : Gr} (h : Gp w p g) {n : Str} (hn : n ∈ g.ks) : OkN n := by have := h.ok n hn; unfold OkN; omega
theorem Gp.okI {w : World} {p : Value} {g : Gr} (h : Gp w p g) {n m : Str} (hn : m ∈ g.im n) : OkN m := by have := h.oki n m hn; unfold OkN; omega

theorem table_nil (w : World) : Calls Try.prog 30 #[.pointer none] w fun e w' => e = .returned (.map none) ∧ w' = w := by
  go_enter Try.func30, Try.ntmps30
  go_wp2
  go_ret
  exact ⟨rfl, rfl⟩
theorem table_some (B : Nat) (mb : Option Nat) (w : World) (h : w.cell? ⟨B, 0, none⟩ = some (.map mb)) : Calls Try.prog 30 #[.pointer (some ⟨B, 0, none⟩)] w fun e w' => e = .returned (.map mb) ∧ w' = w := by
  go_enter Try.func30, Try.ntmps30
  go_wp2
  go_ret
  exact ⟨rfl, rfl⟩
theorem Gt.shape {w : World} {mv : Value} {g : Gr} (h : Gt w mv g) : ∃ mb, mv = .map mb := by
  rcases h with ⟨rfl, _⟩ | ⟨b, _, _, rfl, _⟩
  · exact ⟨none, rfl⟩
  · exact ⟨some b, rfl⟩
/-- The table, whatever is made later. -/
theorem Gp.table {w : World} {p : Value} {g : Gr} (h : Gp w p g) : ∃ mb, Gt w (.map mb) g ∧ ∀ w', Fr (fun _ => False) w w' → Calls Try.prog 30 #[p] w' fun e w'' => e = .returned (.map mb) ∧ w'' = w' := by
  rcases h.cell with ⟨rfl, k1, k2⟩ | ⟨B, mv, rfl, k2, k3⟩
  · exact ⟨none, Or.inl ⟨rfl, k1, k2⟩, fun w' _ => table_nil w'⟩
  · obtain ⟨mb, rfl⟩ := k3.shape
    exact ⟨mb, k3, fun w' hf => table_some B mb w' (hf.cellN k2)⟩

/-- A set, as the program holds it. -/
def SM (w : World) (b n : Nat) (u : List Str) : Prop := ∃ D : DataW Value, w.ownsMap Try.prog 9 unitElem b n D ∧ ∀ s : Str, Maps.has D (.string s) = decide (s ∈ u)
theorem SM.keep {S : Nat → Prop} {w w' : World} {b n : Nat} {u : List Str} (h : SM w b n u) (hf : Fr S w w') (hb : ¬ S b) : SM w' b n u := by
  obtain ⟨D, h1, h2⟩ := h
  exact ⟨D, own_fr h1 hf hb, h2⟩
theorem SM.later {w w' : World} {b n : Nat} {u : List Str} (h : SM w b n u) (hf : Fr (fun _ => False) w w') : SM w' b n u := h.keep hf (fun f => f)
theorem SM.lt {w : World} {b n : Nat} {u : List Str} (h : SM w b n u) : b < w.heap.size := by
  obtain ⟨D, h1, _⟩ := h
  exact h1.lt
theorem SM.new (w : World) : SM (w.alloc (.map #[] 0)) w.heap.size 0 [] := ⟨_, World.ownsMap_made w _ _ _, fun s => rfl⟩
theorem SM.same {w : World} {b n : Nat} {u u' : List Str} (h : SM w b n u) (hu : ∀ x, x ∈ u ↔ x ∈ u') : SM w b n u' := by
  obtain ⟨D, h1, h2⟩ := h
  exact ⟨D, h1, fun s => by rw [h2 s]; simp [hu s]⟩
theorem SM.look {w : World} {b n : Nat} {u : List Str} (h : SM w b n u) (s : Str) (hs : OkN s) : (Instr.lookup 67 (.map (some b)) (ct s) true).run Try.prog w = .ok (.tuple #[.agg #[], .bool (decide (s ∈ u))]) w := by
  obtain ⟨D, h1, h2⟩ := h
  obtain ⟨v, ps, hrun, hv⟩ := h1.look_ok SK set_under (zero_un w) unitElem_mk (key_str s hs)
  obtain ⟨rfl, _⟩ := unitElem_inv hv
  rw [h2 s] at hrun
  exact hrun
theorem SM.put {w : World} {b n : Nat} {u : List Str} (h : SM w b n u) (s : Str) (hs : OkN s) (hn : n < 9223372036854775807) : ∃ w', (Instr.mapUpdate 67 (.map (some b)) (ct s) (.agg #[])).run Try.prog w = .ok () w' ∧ SM w' b (n + 1) (s :: u) ∧ Fr (fun k => k = b) w w' := by
  obtain ⟨D, h1, h2⟩ := h
  obtain ⟨w', hrun, h3, h4⟩ := h1.update SK set_under (by unfold maxLen; omega) (key_str s hs) unitElem_mk
  refine ⟨w', hrun, ⟨_, h3, fun x => ?_⟩, (grown_fr h4).mono fun k _ e => (Option.some.inj e).symm⟩
  by_cases e : x = s
  · subst e
    rw [Maps.has_put_same h1.isMap (keylit _) _]
    simp
  · have hne : (Lit.string x) ≠ .string s := fun h => e (by cases h; rfl)
    rw [Maps.has_put_other hne, h2 x]
    simp [e]
theorem has_any (b n : Nat) (u : List Str) (s : Str) (r : Bool) (hr : decide (s ∈ u) = r) (w : World) (h : SM w b n u) (hs : OkN s) :
    Calls Try.prog 41 #[.map (some b), ct s] w fun e w' => e = .returned (.bool r) ∧ Fr (fun _ => False) w w' := by
  have hl := h.look s hs
  rw [hr] at hl
  clear h hr
  go_enter Try.func41, Try.ntmps41
  go_wp2
  go_ret
  exact ⟨rfl, Fr.alloc _ _ _⟩
theorem put_in (b n : Nat) (u : List Str) (s : Str) (hr : s ∈ u) (w : World) (h : SM w b n u) (hs : OkN s) :
    Calls Try.prog 37 #[.map (some b), ct s] w fun e w' => e = .returned (.bool false) ∧ Fr (fun _ => False) w w' := by
  have k := has_any b n u s true (by simp [hr]) w h hs
  clear h hr
  go_enter Try.func37, Try.ntmps37
  go_wp2_with (go_at_call 41; refine k.mono ?_; rintro e w1 ⟨rfl, f1⟩)
  go_ret
  exact ⟨rfl, f1⟩
theorem put_new (b n : Nat) (u : List Str) (s : Str) (hr : s ∉ u) (w : World) (h : SM w b n u) (hs : OkN s) (hn : n < 9223372036854775807) :
    Calls Try.prog 37 #[.map (some b), ct s] w fun e w' => e = .returned (.bool true) ∧ SM w' b (n + 1) (s :: u) ∧ Fr (fun k => k = b) w w' := by
  have k := has_any b n u s false (by simp [hr]) w h hs
  have hH : Hidden (SM w b n u) := h
  clear h hr
  go_enter Try.func37, Try.ntmps37
  go_wp2_with (go_at_call 41; refine k.mono ?_; rintro e w1 ⟨rfl, f1⟩; obtain ⟨w2, hrun, h2, f2⟩ := (SM.later hH f1).put s hs hn; have h2H : Hidden (SM w2 b (n + 1) (s :: u)) := h2; have f2H : Hidden (Fr (fun k => k = b) w1 w2) := f2; have f1H : Hidden (Fr (fun _ => False) w w1) := f1; clear h2 f2 f1)
  go_ret
  exact ⟨rfl, h2H, ((show Fr (fun _ => False) w w1 from f1H).mono fun _ _ f => f.elim).same f2H⟩
end Go.Proofs.Ytajefmmggefbeaa.Dg
