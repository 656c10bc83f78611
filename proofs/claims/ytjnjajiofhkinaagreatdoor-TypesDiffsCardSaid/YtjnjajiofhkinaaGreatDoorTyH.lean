/- A copy of an item; the first item of a name. -/
import Derived.Test.YtjnjajiofhkinaaGreatDoorTyG
import Derived.Test.YtjnjajiofhkinaaGreatDoorTyE
namespace Go.Proofs.YtjnjajiofhkinaaGreatDoor.Ty
open Go.RowKit
set_option linter.unusedSimpArgs false
set_option linter.unusedVariables false


theorem frozen_row {w : World} {g : Nat} {cs : Array Value} {t : TypeId} (hg : w.heap[g]? = some (.cells cs t (0, 0))) (j : Nat) : w.frozen? ⟨g, j, none⟩ = false := by simp [World.frozen?, hg]
theorem set_five {w : World} {g : Nat} {a b c d e : Value} {t : TypeId} (hg : w.heap[g]? = some (.cells #[a, b, c, d, e] t (0, 0))) (v0 v1 v2 v3 v4 : Value) :
    (((((w.setCell ⟨g, 0, none⟩ v0).setCell ⟨g, 1, none⟩ v1).setCell ⟨g, 2, none⟩ v2).setCell ⟨g, 3, none⟩ v3).setCell ⟨g, 4, none⟩ v4).heap[g]? = some (.cells #[v0, v1, v2, v3, v4] t (0, 0)) := by
  have h1 := heap_setCell_same w g 0 _ t v0 hg
  have h2 := heap_setCell_same _ g 1 _ t v1 h1
  have h3 := heap_setCell_same _ g 2 _ t v2 h2
  have h4 := heap_setCell_same _ g 3 _ t v3 h3
  exact heap_setCell_same _ g 4 _ t v4 h4
theorem fr_five {S : Nat → Prop} {w w' : World} (h : Fr S w w') {g : Nat} (hg : w.heap.size ≤ g) (v0 v1 v2 v3 v4 : Value) :
    Fr S w (((((w'.setCell ⟨g, 0, none⟩ v0).setCell ⟨g, 1, none⟩ v1).setCell ⟨g, 2, none⟩ v2).setCell ⟨g, 3, none⟩ v3).setCell ⟨g, 4, none⟩ v4) :=
  h.over (((((Fr.setCell w' ⟨g, 0, none⟩ v0).same (Fr.setCell _ ⟨g, 1, none⟩ v1)).same (Fr.setCell _ ⟨g, 2, none⟩ v2)).same (Fr.setCell _ ⟨g, 3, none⟩ v3)).same (Fr.setCell _ ⟨g, 4, none⟩ v4)) (fun k hk => by subst hk; exact hg)
theorem wpl_append_none {w : World} {ops : Array Oper} {rest : List Oper} {o : Oper} {a : Act} {Q : Exit → Act → World → Prop} (hgd : o.guard = none) (s x : Operand) (ty e : TypeId) (size : Nat)
    (hty : Tryz.prog.underlying ty = some (.slice e)) (hinfo : (Tryz.prog.info? e).isSome = true)
    (ho : o.op = .call { callee := .builtin .append, args := #[s, x], argTypes := #[ty, ty] }) (B : Nat) (v : Value) (n : Nat) (cells : List Value)
    (hs : a.eval s = v) (hr : w.ownsRow B e size v n cells) (hx : a.eval x = .slice none 0 0) (h : wpList Tryz.prog ops Q rest (a.put o.dst v) w) : wpList Tryz.prog ops Q (o :: rest) a w := by
  refine wpList_plain hgd fun K hK => ?_
  obtain ⟨i, hi⟩ := Option.isSome_iff_exists.1 hinfo
  have hrun := run_append_owned_none (P := Tryz.prog) (w := w) B ty o.type e i size hty hi v n cells hr
  unfold Oper.wp
  simp [execOp, ho, resolve, invoke, builtin, hs, hx, hrun, Result.andThen]
  exact hK _ _ h
theorem own_lower' {w : World} {B B' : Nat} {e : TypeId} {size : Nat} {v : Value} {n : Nat} {cells : List Value} (h : w.ownsRow B e size v n cells) (hb : B' ≤ B) : w.ownsRow B' e size v n cells := by
  refine ⟨h.1, ?_⟩
  rcases h.2 with h0 | ⟨g, cap, cur, rfl, hb2, hg, rest⟩
  · exact Or.inl h0
  · exact Or.inr ⟨g, cap, cur, rfl, by omega, hg, rest⟩
theorem info_int : (Tryz.prog.info? 3).map (fun i => (i.zero, i.size, i.bytes)) = some (some (ci 0), 1, 8) := by kernel_rfl
/-- A row of ints of the call's own. -/
theorem own_ints {w : World} {B : Nat} {v : Value} {l : List Int} (h : w.ownsRow B 3 1 v l.length (l.map ci)) : ∃ ao cap, v = .slice ao l.length cap ∧ InL w ao cap l ∧ ∀ k, v.ownBlock = some k → B ≤ k := by
  obtain ⟨ao, cap, rfl, h1, h2, h3, h4, h5⟩ := own_slice h (by decide)
  refine ⟨ao, cap, rfl, ⟨h1, h2, h3, ?_⟩, fun k hk => (own_block h k hk).1⟩
  rcases h5 with h5 | ⟨g, rfl, hB, hg, hc⟩
  · exact Or.inl (List.eq_nil_of_length_eq_zero h5)
  · exact Or.inr ⟨g, 0, rfl, fun i x hx => by rw [Nat.zero_add]; exact hc i _ (by rw [List.getElem?_map, hx]; rfl)⟩
/-- An item whose list is nobody else's. -/
def ItN (w : World) (B : Nat) (i : It) (v : Value) : Prop := ∃ ao cap, v = itV i (.slice ao i.params.length cap) ∧ w.ownsRow B 3 1 (.slice ao i.params.length cap) i.params.length (i.params.map ci)
theorem ItN.iti {w : World} {B : Nat} {i : It} {v : Value} (h : ItN w B i v) : ItI w i v := by
  obtain ⟨ao, cap, rfl, h1⟩ := h
  obtain ⟨ao', cap', e, h2, _⟩ := own_ints h1
  simp only [Value.slice.injEq, true_and] at e
  obtain ⟨rfl, rfl⟩ := e
  exact ⟨_, _, rfl, h2⟩
set_option maxRecDepth 20000 in
set_option maxHeartbeats 4000000 in
theorem copy_any (i : It) (v : Value) (w : World) (hi : ItI w i v) (hl : i.params.length ≤ 17592186044416) : Calls Tryz.prog 20 #[v] w fun e w' => ∃ v', e = .returned v' ∧ ItN w' w.heap.size i v' ∧ Fr (fun _ => False) w w' := by
  obtain ⟨kind, name, typ, bits, params⟩ := i
  obtain ⟨ao, cap, rfl, h⟩ := hi
  simp only at hl h
  obtain ⟨W0, hW0⟩ : ∃ W, W = (w.alloc (.cells #[ci kind, ct name, ci typ, .int .u64 bits, .slice ao params.length cap] 28)).alloc (.cells #[ci 0, .string ⟨#[]⟩, ci 0, .int .u64 0, .slice none 0 0] 28) := ⟨_, rfl⟩
  have f0 : Fr (fun _ => False) w W0 := by rw [hW0]; exact (Fr.alloc _ _ _).same (Fr.alloc _ _ _)
  have hb1 : Hidden (W0.heap[w.heap.size]? = some (.cells #[ci kind, ct name, ci typ, .int .u64 bits, .slice ao params.length cap] 28 (0, 0))) := by rw [hW0]; exact (Fr.alloc (fun _ => False) _ _).heap (alloc_new _ _) (fun f => f)
  have hb2 : Hidden (W0.heap[w.heap.size + 1]? = some (.cells #[ci 0, .string ⟨#[]⟩, ci 0, .int .u64 0, .slice none 0 0] 28 (0, 0))) := by rw [hW0]; exact alloc_at _ _ _ (by simp)
  obtain ⟨c0, c1, c2, c3, c4⟩ := box5 hb1
  have hsz : Hidden (W0.heap.size = w.heap.size + 2) := by rw [hW0]; simp [Hidden]
  have hW0H : Hidden (W0 = _) := hW0
  have f0H : Hidden (Fr (fun _ => False) w W0) := f0
  have hin := h.keep f0
  have g2' : cap ≤ 9223372036854775807 := by have := h.2.1; unfold maxLen at this; omega
  have m1 := h.1
  cases ao with
  | none =>
    have hc0 := h.2.2.1 rfl
    have hp0 : params.length = 0 := by omega
    have hpe : params = [] := List.eq_nil_of_length_eq_zero hp0
    subst hpe
    subst hc0
    clear h hin hp0 c0 c1 c2 c3 c4
    go_enter Tryz.func20, Tryz.ntmps20
    go_wp2_with fail
    refine post_one rfl rfl _ #[ci kind, ct name, ci typ, .int .u64 bits, .slice none 0 0] 28 _ rfl (alloc_at _ _ _ (by simp)) Tryz.underlying28 rfl (by kernel_rfl) ⟨_, rfl, ⟨none, 0, rfl, own_nil _ _ _ _⟩, (Fr.alloc _ _ _).same (Fr.alloc _ _ _)⟩
  | some ad =>
    have hnews : Hidden (∀ (j : Nat) (u : Value), (params.map ci)[j]? = some u → W0.cell? (ad.add j) = some u) := by
      intro j u hu
      rw [List.getElem?_map] at hu
      cases hx : params[j]? with
      | none => rw [hx] at hu; cases hu
      | some x =>
        rw [hx] at hu
        simp only [Option.map_some, Option.some.injEq] at hu
        subst hu
        rcases hin.2.2.2 with h0 | ⟨b, off, e, hc⟩
        · rw [h0] at hx; simp at hx
        · cases e
          rw [Addr.add_lit]
          exact hc j x hx
    have hlH : Hidden (params.length ≤ 17592186044416) := hl
    clear h hin hl
    go_enter Tryz.func20, Tryz.ntmps20
    go_wp2_with (at_builtin; rw [← (show W0 = _ from hW0H)]; refine wpl_append rfl _ _ 26 3 _ 1 8 Tryz.underlying26 info_int rfl (by decide) rfl W0.heap.size _ 0 [] ad params.length cap (params.map ci) rfl (own_nil _ _ _ _) rfl (by simp) hnews ?_ ?_ ?_ (Nat.le_refl _) ?_; (focus (exact fun u hu => by obtain ⟨x, _, rfl⟩ := List.mem_map.1 hu; rfl)); (focus (have : params.length ≤ 17592186044416 := hlH; unfold maxLen; omega)); (focus (have : params.length ≤ 17592186044416 := hlH; omega)); intro v2 w1 hr2 f2 _; rw [Nat.zero_add, List.nil_append] at hr2; obtain ⟨a2, k2, e2, _⟩ := own_slice hr2 (by decide); subst e2; have g2 : Fr (fun _ => False) W0 w1 := f2.mono (fun k hk e => by cases e); have q1 : Hidden (w1.heap[w.heap.size]? = some (.cells #[ci kind, ct name, ci typ, .int .u64 bits, .slice (some ad) params.length cap] 28 (0, 0))) := g2.heap hb1 (fun f => f); have q2 : Hidden (w1.heap[w.heap.size + 1]? = some (.cells #[ci 0, .string ⟨#[]⟩, ci 0, .int .u64 0, .slice none 0 0] 28 (0, 0))) := g2.heap hb2 (fun f => f); have ac0 : w1.cell? ⟨w.heap.size, 0, none⟩ = some (ci kind) := cell_of_row _ _ 0 _ _ _ q1; have af0 := frozen_row q1 0; have ac1 : w1.cell? ⟨w.heap.size, 1, none⟩ = some (ct name) := cell_of_row _ _ 1 _ _ _ q1; have af1 := frozen_row q1 1; have ac2 : w1.cell? ⟨w.heap.size, 2, none⟩ = some (ci typ) := cell_of_row _ _ 2 _ _ _ q1; have af2 := frozen_row q1 2; have ac3 : w1.cell? ⟨w.heap.size, 3, none⟩ = some (.int .u64 bits) := cell_of_row _ _ 3 _ _ _ q1; have af3 := frozen_row q1 3; have ac4 : w1.cell? ⟨w.heap.size, 4, none⟩ = some (.slice (some ad) params.length cap) := cell_of_row _ _ 4 _ _ _ q1; have af4 := frozen_row q1 4; have bc0 : w1.cell? ⟨w.heap.size + 1, 0, none⟩ = some (ci 0) := cell_of_row _ _ 0 _ _ _ q2; have bf0 := frozen_row q2 0; have bc1 : w1.cell? ⟨w.heap.size + 1, 1, none⟩ = some (.string ⟨#[]⟩) := cell_of_row _ _ 1 _ _ _ q2; have bf1 := frozen_row q2 1; have bc2 : w1.cell? ⟨w.heap.size + 1, 2, none⟩ = some (ci 0) := cell_of_row _ _ 2 _ _ _ q2; have bf2 := frozen_row q2 2; have bc3 : w1.cell? ⟨w.heap.size + 1, 3, none⟩ = some (.int .u64 0) := cell_of_row _ _ 3 _ _ _ q2; have bf3 := frozen_row q2 3; have bc4 : w1.cell? ⟨w.heap.size + 1, 4, none⟩ = some (.slice none 0 0) := cell_of_row _ _ 4 _ _ _ q2; have bf4 := frozen_row q2 4)
    have hb : (w1.setCell ⟨w.heap.size, 4, none⟩ (.slice a2 params.length k2)).heap[w.heap.size + 1]? = some (.cells #[ci 0, .string ⟨#[]⟩, ci 0, .int .u64 0, .slice none 0 0] 28 (0, 0)) := (Fr.setCell w1 ⟨w.heap.size, 4, none⟩ (.slice a2 params.length k2)).heap q2 (fun e => by simp at e)
    have fs : Fr (fun k => k = w.heap.size ∨ k = w.heap.size + 1) w1 ((((((w1.setCell ⟨w.heap.size, 4, none⟩ (.slice a2 params.length k2)).setCell ⟨w.heap.size + 1, 0, none⟩ (.int .i64 kind)).setCell ⟨w.heap.size + 1, 1, none⟩ (ct name)).setCell ⟨w.heap.size + 1, 2, none⟩ (.int .i64 typ)).setCell ⟨w.heap.size + 1, 3, none⟩ (.int .u64 bits)).setCell ⟨w.heap.size + 1, 4, none⟩ (.slice a2 params.length k2)) :=
      ((Fr.setCell w1 ⟨w.heap.size, 4, none⟩ _).mono (fun k _ e => Or.inl e)).same (((((((Fr.setCell _ ⟨w.heap.size + 1, 0, none⟩ _).same (Fr.setCell _ ⟨w.heap.size + 1, 1, none⟩ _)).same (Fr.setCell _ ⟨w.heap.size + 1, 2, none⟩ _)).same (Fr.setCell _ ⟨w.heap.size + 1, 3, none⟩ _)).same (Fr.setCell _ ⟨w.heap.size + 1, 4, none⟩ _))).mono (fun k _ e => Or.inr e))
    have hsz' : W0.heap.size = w.heap.size + 2 := hsz
    refine post_one rfl rfl _ _ _ _ rfl (set_five hb _ _ _ _ _) Tryz.underlying28 rfl (by kernel_rfl) ⟨_, rfl, ⟨a2, k2, rfl, ?_⟩, ?_⟩
    · exact own_lower' (own_keep hr2 fs (fun k hk e => by have := (own_block hr2 k hk).1; omega)) (by omega)
    · exact ((show Fr (fun _ => False) w W0 from f0H).same g2).over fs (fun k e => by omega)
/-- The results of a function whose first one lies in memory. -/
theorem post_cell {fn : Func} {R : Ending → World → Prop} {a : Act} {w : World} {p u : Tmp} {ty : TypeId} (h : fn.results = #[.cell p ty, .tmp u]) (hd : a.defers = []) (g : Nat) (cs : Array Value)
    (hp : a.tmps.getD p undef = .pointer (some ⟨g, 0, none⟩)) (hl : (loadVar ty ⟨g, 0, none⟩).run Tryz.prog w = .ok (.agg cs) w)
    (hR : R (.returned (.tuple #[.agg cs, a.tmps.getD u undef])) w) : bodyPost Tryz.prog fn R .ret a w := by
  refine ⟨hd, _, ?_, hR⟩
  rw [results_cell_tmp h, hp]
  simp [asAddr, hl, Result.andThen]
theorem info_item : (Tryz.prog.info? 28).map (·.size) = some 5 := by kernel_rfl
abbrev zeroI : It := ⟨0, [], 0, 0, []⟩
theorem firstI_cons (i : It) (l : List It) (s : Bs) : firstI (i :: l) s = if i.name = s then some i else firstI l s := by
  unfold firstI
  by_cases h : i.name = s
  · simp [h]
  · rw [List.find?_cons_of_neg (by simp [h]), if_neg h]
set_option maxRecDepth 20000 in
set_option maxHeartbeats 4000000 in
theorem get_w (nm s : Bs) (l : List It) (ao : Option Addr) (cap : Nat) (w : World) (h : ItL w ao cap l) (hok : ∀ i ∈ l, i.params.length ≤ 17592186044416) :
    Calls Tryz.prog 5 #[.agg #[ct nm, .slice ao l.length cap], ct s] w fun e w' => ∃ v, e = .returned (.tuple #[v, .bool (firstI l s).isSome]) ∧ ItN w' w.heap.size ((firstI l s).getD zeroI) v ∧ Fr (fun _ => False) w w' := by
  obtain ⟨W0, hW0⟩ : ∃ W, W = (w.alloc (.cells #[ct nm, .slice ao l.length cap] 24)).alloc (.cells #[ci 0, .string ⟨#[]⟩, ci 0, .int .u64 0, .slice none 0 0] 28) := ⟨_, rfl⟩
  have f0 : Fr (fun _ => False) w W0 := by rw [hW0]; exact (Fr.alloc _ _ _).same (Fr.alloc _ _ _)
  have hb2 : Hidden (W0.heap[w.heap.size + 1]? = some (.cells #[ci 0, .string ⟨#[]⟩, ci 0, .int .u64 0, .slice none 0 0] 28 (0, 0))) := by rw [hW0]; exact alloc_at _ _ _ (by simp)
  have hsz : Hidden (W0.heap.size = w.heap.size + 2) := by rw [hW0]; simp [Hidden]
  have hW0H : Hidden (W0 = _) := hW0
  have f0H : Hidden (Fr (fun _ => False) w W0) := f0
  have m1 := h.1
  have m2 : cap ≤ 9223372036854775807 := by have := h.2.1; unfold maxLen at this; omega
  have hH : Hidden (ItL w ao cap l) := h
  have hokH : Hidden (∀ i ∈ l, i.params.length ≤ 17592186044416) := hok
  clear h hok hW0 f0
  go_enter Tryz.func5, Tryz.ntmps5
  go_wp2_with fail
  rw [← (show W0 = _ from hW0H)]
  go_loopg [11] l.length (fun g iv wr => ∃ (j : Nat), iv = ci (j : Int) ∧ j ≤ l.length ∧ firstI (l.drop j) s = firstI l s ∧ g = l.length - j ∧ Fr (fun _ => False) W0 wr)
  case atStart => exact ⟨0, rfl, by omega, rfl, rfl, Fr.refl _ _⟩
  case round =>
    obtain ⟨j, rfl, hj, hI, hgk, hfr⟩ := hrel
    have hgkH : Hidden (gk = l.length - j) := hgk
    have hfrH : Hidden (Fr (fun _ => False) W0 wr) := hfr
    have hIH : Hidden (firstI (l.drop j) s = firstI l s) := hI
    clear hgk hI
    by_cases hjl : j < l.length
    · obtain ⟨p, hp⟩ : ∃ p, l[j]? = some p := ⟨l[j], List.getElem?_eq_getElem hjl⟩
      have hpl : p.params.length ≤ 17592186044416 := (show ∀ i ∈ l, _ from hokH) p (List.mem_of_getElem? hp)
      have hd := drop_at hp
      obtain ⟨b, off, ap, cp, rfl, hin, d0, d1, d2, d3, d4⟩ := ItL.at ((show ItL w _ cap l from hH).keep ((show Fr (fun _ => False) w W0 from f0H).same hfr)) hp
      by_cases hn : p.name = s
      · have hres : Hidden (firstI l s = some p) := by rw [← (show _ = firstI l s from hIH), hd, firstI_cons, if_pos hn]; rfl
        have hpi : ItI wr p (.agg #[ci p.kind, ct p.name, ci p.typ, .int .u64 p.bits, .slice ap p.params.length cp]) := ⟨ap, cp, rfl, hin⟩
        have kc := copy_any p _ (wr.alloc (.cells #[ci p.kind, ct p.name, ci p.typ, .int .u64 p.bits, .slice ap p.params.length cp] 28)) (hpi.keep (Fr.alloc _ _ _)) hpl
        have heq : (p.name == s) = true := by simpa using hn
        have fa := Fr.alloc (fun _ => False) wr (.cells #[ci p.kind, ct p.name, ci p.typ, .int .u64 p.bits, .slice ap p.params.length cp] 28)
        have hszw : Hidden (w.heap.size + 2 ≤ wr.heap.size) := by have : W0.heap.size = w.heap.size + 2 := hsz; have := hfr.size; show _ ≤ _; omega
        clear hIH hd hp hin hpi hn
        go_wp2_with (go_at_call 20; refine kc.mono ?_; rintro e w2 ⟨v2, rfl, hn2, f2⟩; obtain ⟨ao2, cap2, rfl, hr2⟩ := hn2; have g2 : Fr (fun _ => False) W0 w2 := (show Fr (fun _ => False) W0 wr from hfrH).same (fa.same f2); have q2 : Hidden (w2.heap[w.heap.size + 1]? = some (.cells #[ci 0, .string ⟨#[]⟩, ci 0, .int .u64 0, .slice none 0 0] 28 (0, 0))) := g2.heap hb2 (fun f => f); have bc0 : w2.cell? ⟨w.heap.size + 1, 0, none⟩ = some (ci 0) := cell_of_row _ _ 0 _ _ _ q2; have bf0 := frozen_row q2 0; have bc1 : w2.cell? ⟨w.heap.size + 1, 1, none⟩ = some (.string ⟨#[]⟩) := cell_of_row _ _ 1 _ _ _ q2; have bf1 := frozen_row q2 1; have bc2 : w2.cell? ⟨w.heap.size + 1, 2, none⟩ = some (ci 0) := cell_of_row _ _ 2 _ _ _ q2; have bf2 := frozen_row q2 2; have bc3 : w2.cell? ⟨w.heap.size + 1, 3, none⟩ = some (.int .u64 0) := cell_of_row _ _ 3 _ _ _ q2; have bf3 := frozen_row q2 3; have bc4 : w2.cell? ⟨w.heap.size + 1, 4, none⟩ = some (.slice none 0 0) := cell_of_row _ _ 4 _ _ _ q2; have bf4 := frozen_row q2 4)
        have hsz2 : w.heap.size + 2 ≤ (wr.alloc (.cells #[ci p.kind, ct p.name, ci p.typ, .int .u64 p.bits, .slice ap p.params.length cp] 28)).heap.size := Nat.le_trans hszw fa.size
        refine post_cell rfl rfl _ _ rfl (run_loadVar_row _ _ _ _ _ _ _ (set_five q2 _ _ _ _ _) Tryz.underlying28 rfl info_item) ⟨.agg #[ci p.kind, ct p.name, ci p.typ, .int .u64 p.bits, .slice ao2 p.params.length cap2], ?_, ?_, ?_⟩
        · rw [(show firstI l s = some p from hres)]
          rfl
        · rw [(show firstI l s = some p from hres)]
          refine ⟨ao2, cap2, rfl, ?_⟩
          refine own_lower' (own_keep hr2 (S := fun k => k = w.heap.size + 1) (((((Fr.setCell w2 ⟨w.heap.size + 1, 0, none⟩ _).same (Fr.setCell _ ⟨w.heap.size + 1, 1, none⟩ _)).same (Fr.setCell _ ⟨w.heap.size + 1, 2, none⟩ _)).same (Fr.setCell _ ⟨w.heap.size + 1, 3, none⟩ _)).same (Fr.setCell _ ⟨w.heap.size + 1, 4, none⟩ _)) (fun k hk e => by have := (own_block hr2 k hk).1; omega)) (by omega)
        · exact fr_five ((show Fr (fun _ => False) w W0 from f0H).same g2) (by omega) _ _ _ _ _
      · have hI2 : Hidden (firstI (l.drop (j + 1)) s = firstI l s) := by rw [← (show _ = firstI l s from hIH), hd, firstI_cons, if_neg hn]; rfl
        have hne : (p.name == s) = false := by simpa using hn
        clear hIH hd hp hin hn
        go_wp2_with fail
        go_roundg (l.length - (j + 1))
        case measure => have : gk = l.length - j := hgkH; omega
        case rel => exact ⟨j + 1, by go_num, by omega, hI2, rfl, (show Fr (fun _ => False) W0 wr from hfrH).same (Fr.alloc _ _ _)⟩
    · obtain rfl : j = l.length := by omega
      have hres : Hidden (firstI l s = none) := by rw [← (show _ = firstI l s from hIH), List.drop_length]; rfl
      have q2 : Hidden (wr.heap[w.heap.size + 1]? = some (.cells #[ci 0, .string ⟨#[]⟩, ci 0, .int .u64 0, .slice none 0 0] 28 (0, 0))) := hfr.heap hb2 (fun f => f)
      have bc0 : wr.cell? ⟨w.heap.size + 1, 0, none⟩ = some (ci 0) := cell_of_row _ _ 0 _ _ _ q2
      have bf0 := frozen_row q2 0
      have bc1 : wr.cell? ⟨w.heap.size + 1, 1, none⟩ = some (.string ⟨#[]⟩) := cell_of_row _ _ 1 _ _ _ q2
      have bf1 := frozen_row q2 1
      have bc2 : wr.cell? ⟨w.heap.size + 1, 2, none⟩ = some (ci 0) := cell_of_row _ _ 2 _ _ _ q2
      have bf2 := frozen_row q2 2
      have bc3 : wr.cell? ⟨w.heap.size + 1, 3, none⟩ = some (.int .u64 0) := cell_of_row _ _ 3 _ _ _ q2
      have bf3 := frozen_row q2 3
      have bc4 : wr.cell? ⟨w.heap.size + 1, 4, none⟩ = some (.slice none 0 0) := cell_of_row _ _ 4 _ _ _ q2
      have bf4 := frozen_row q2 4
      clear hIH hfr
      go_wp2_with fail
      refine post_cell rfl rfl _ _ rfl (run_loadVar_row _ _ _ _ _ _ _ (set_five q2 _ _ _ _ _) Tryz.underlying28 rfl info_item) ⟨.agg #[ci 0, .string ⟨#[]⟩, ci 0, .int .u64 0, .slice none 0 0], ?_, ?_, ?_⟩
      · rw [(show firstI l s = none from hres)]
        rfl
      · rw [(show firstI l s = none from hres)]
        exact ⟨none, 0, rfl, own_nil _ _ _ _⟩
      · exact fr_five ((show Fr (fun _ => False) w W0 from f0H).same hfrH) (by omega) _ _ _ _ _
theorem get_any (f : Fc) (vf : Value) (s : Bs) (w : World) (hf : FcI w f vf) (hok : ∀ i ∈ f.items, i.params.length ≤ 17592186044416) :
    Calls Tryz.prog 5 #[vf, ct s] w fun e w' => ∃ v, e = .returned (.tuple #[v, .bool (firstI f.items s).isSome]) ∧ ItN w' w.heap.size ((firstI f.items s).getD zeroI) v ∧ Fr (fun _ => False) w w' := by
  obtain ⟨ao, ca, rfl, h1⟩ := hf
  exact get_w f.name s f.items ao ca w h1 hok
end Go.Proofs.YtjnjajiofhkinaaGreatDoor.Ty
