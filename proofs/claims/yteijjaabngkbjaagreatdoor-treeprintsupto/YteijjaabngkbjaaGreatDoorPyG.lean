/- The program's printing of statements and declarations (7): parameters. -/
import Derived.Test.YteijjaabngkbjaaGreatDoorPyF
import Derived.Test.YteijjaabngkbjaaGreatDoorPwC
import Derived.Test.YteijjaabngkbjaaGreatDoorShelf3
import Derived.Deep.RegionHeld3
namespace Go.Proofs.YteijjaabngkbjaaGreatDoor
open Go.RowKit Te
set_option linter.unusedSimpArgs false
set_option linter.unusedVariables false

/-- append of one element, as a step of a region whose order is drawn. -/
theorem step_row {α : Type} {R : World → α → List Value → Prop} {w : World} {ops : Array Oper} {o : Oper} {a : Act} {K : Act → World → Prop} {Q : Exit → Act → World → Prop} {E : Prop} (hgd : o.guard = none) (s x : Operand) (ty e : TypeId) (z : Value) (size bytes : Nat)
    (hty : Tryz.prog.underlying ty = some (.slice e)) (hinfo : (Tryz.prog.info? e).map (fun i => (i.zero, i.size, i.bytes)) = some (some z, size, bytes)) (hzs : z.cells.size = size) (hsz : 0 < size)
    (ho : o.op = .call { callee := .builtin .append, args := #[s, x], argTypes := #[ty, ty] }) (B : Nat) (v : Value) (l : List α) (y : α) (news : List Value) (ad : Addr) (c : Nat)
    (hs : a.eval s = v) (hr : Row R e size w B v l) (hx : a.eval x = .slice (some ad) 1 c) (hl : news.length = size) (hc : ∀ (j : Nat) (u : Value), news[j]? = some u → w.cell? (ad.add j) = some u) (h1 : ∀ u ∈ news, u.oneCell' = true)
    (hR : ∀ w', Fr (fun k => k < B ∨ v.ownBlock = some k) w w' → R w' y news)
    (hn : l.length ≤ 4000) (hb : bytes ≤ 1000) (hB : B ≤ w.heap.size)
    (h : ∀ v' w', Row R e size w' B v' (l ++ [y]) → Fr (fun k => v.ownBlock = some k) w w' → K (a.put o.dst v') w') : if Region.wanted o (yielded ops a.tmps) = true then Oper.wp Tryz.prog o a w K Q else E := by
  have hw : Region.wanted o (yielded ops a.tmps) = true := by simp [Region.wanted, hgd]
  rw [if_pos hw]
  obtain ⟨cells, hr1, hr2⟩ := hr
  cases hi : Tryz.prog.info? e with
  | none => rw [hi] at hinfo; cases hinfo
  | some i =>
    rw [hi] at hinfo
    simp only [Option.map_some, Option.some.injEq, Prod.mk.injEq] at hinfo
    have hbb : (l.length + 1) * bytes ≤ 140737488355328 := Nat.le_trans (Nat.mul_le_mul (show l.length + 1 ≤ 4001 by omega) hb) (by decide)
    obtain ⟨v', w', hr, h2, h3, _, h5⟩ := run_append_own_at (P := Tryz.prog) w B ty o.type e i z size bytes hty hi hinfo.1 hinfo.2.1 hinfo.2.2 hzs hsz v l.length cells hr1 ad 1 c news (by omega) hc h1 (by simp only [maxLen]; omega) hbb hB
    have hk := h v' w' ⟨cells ++ news, by rw [List.length_append]; exact h2, fun w'' hf => by
      have hF : Fr (fun k => k < B ∨ v.ownBlock = some k) w w'' := by
        refine ((Fr.grown h3).mono (fun k _ hk => Or.inr hk.symm)).trans hf (fun k hk hs => ?_)
        rcases hs with hs | hs
        · exact Or.inl hs
        · rcases h5 with h5 | h5
          · exact Or.inr (h5 ▸ hs)
          · rw [h5] at hs
            simp only [Option.some.injEq] at hs
            omega
      exact (hr2 w'' hF).snoc hl (hR w'' hF)⟩ ((Fr.grown h3).mono (fun k _ hk => hk.symm))
    unfold Oper.wp execOp
    simp only [ho, resolve, invoke, builtin, Sem.run_bind, Sem.run_pure, Result.andThen_ok, List.map_toArray, List.map_cons, List.map_nil, hs, hx, hr]
    exact hk
def pT (p : Pa) : Bs := p.name ++ tyT p.type
theorem join_pa : ∀ (l : List Pa), Lib.join (l.map pT) [44, 32] = paT l
  | [] => rfl
  | [p] => by simp [Lib.join_one, paT, pT]
  | p :: q :: r => by
    have ih := join_pa (q :: r)
    rw [List.map_cons, List.map_cons, Lib.join_cons] at *
    rw [paT, ← ih]
    simp [Lib.joinTail, pT]
theorem info_str : (Tryz.prog.info? 9).map (fun i => (i.zero, i.size, i.bytes)) = some (some (.string ⟨#[]⟩), 1, 16) := by kernel_rfl
set_option maxRecDepth 20000 in
set_option maxHeartbeats 4000000 in
theorem params_w (l : List Pa) (ao : Option Addr) (cap : Nat) (w : World) (hp : PaL w ao cap l) (hty : ∀ p ∈ l, p.type = 0 ∨ p.type = 1 ∨ p.type = 2 ∨ p.type = 3) (hnm : ∀ p ∈ l, p.name.length ≤ 1000000) (h8 : l.length ≤ 8) (T : Bs) (hT : Hidden (paT l = T)) (hl : T.length ≤ 140737488355328) :
    Calls Tryz.prog 81 #[.slice ao l.length cap] w fun e w' => e = .returned (ct T) ∧ Fr (fun _ => False) w w' := by
  obtain ⟨hcap, hmax, hcells⟩ := hp
  have m1 : cap ≤ 9223372036854775807 := by unfold maxLen at hmax; omega
  go_enter Tryz.func81, Tryz.ntmps81
  go_wp2_with fail
  go_loopg [3, 8] l.length (fun g lv iv wr => ∃ (i : Nat) (v : Value), v = lv ∧ iv = ci (i : Int) ∧ i ≤ l.length ∧ Row RT 9 1 wr w.heap.size v ((l.take i).map pT) ∧ g = l.length - i ∧ Fr (fun _ => False) w wr)
  case atStart => exact ⟨0, _, rfl, rfl, by omega, Row.nil _ _ _ _ _, rfl, Fr.refl _ _⟩
  case round =>
    obtain ⟨i, v, rfl, rfl, hi, hrow, hgk, hfr⟩ := hrel
    have hgkH : Hidden (gk = l.length - i) := hgk
    have hrowH : Hidden (Row RT 9 1 wr w.heap.size v ((l.take i).map pT)) := hrow
    clear hgk hrow
    by_cases hil : i < l.length
    · obtain ⟨p, hpi⟩ : ∃ p, l[i]? = some p := ⟨l[i], List.getElem?_eq_getElem hil⟩
      have hpm : p ∈ l := List.mem_of_getElem? hpi
      have ht1 := hty p hpm
      have hn1 := hnm p hpm
      rcases hcells with h0 | ⟨b, off, rfl, hc⟩
      · rw [h0] at hil; simp at hil
      have d0 : wr.cell? ⟨b, off + i * 2, none⟩ = some (ct p.name) := hfr.cellN (hc i p hpi 0 _ rfl)
      have d1 : wr.cell? ⟨b, off + i * 2 + 1, none⟩ = some (ci p.type) := hfr.cellN (hc i p hpi 1 _ rfl)
      have hleni : ((l.take i).map pT).length = i := by rw [List.length_map, List.length_take]; omega
      obtain ⟨aor, capr, hv, hl1, hl2⟩ := Row.shape (show Row RT 9 1 wr w.heap.size v _ from hrowH)
      rw [hleni] at hv hl1
      subst hv
      have hown := Row.own (show Row RT 9 1 wr w.heap.size _ _ from hrowH)
      have f0 := Fr.alloc (fun _ => False) wr (.cells #[ct p.name, ci p.type] 89)
      have hbx : Hidden ((wr.alloc (.cells #[ct p.name, ci p.type] 89)).heap[wr.heap.size]? = some (.cells #[ct p.name, ci p.type] 89 (0, 0))) := alloc_new _ _
      have fd := Fr.drew (fun _ => False) (wr.alloc (.cells #[ct p.name, ci p.type] 89))
      have e0 : (wr.alloc (.cells #[ct p.name, ci p.type] 89)).cell? ⟨wr.heap.size, 0, none⟩ = some (ct p.name) := cell_of_row _ _ 0 _ _ _ hbx
      have e1 : (wr.alloc (.cells #[ct p.name, ci p.type] 89)).cell? ⟨wr.heap.size, 1, none⟩ = some (ci p.type) := cell_of_row _ _ 1 _ _ _ hbx
      have hnew : Hidden (∀ j, (((wr.alloc (.cells #[ct p.name, ci p.type] 89)).alloc (.cells #[ct (pT p)] 9)).drew).cell? ⟨wr.heap.size + 1, j, none⟩ = (#[ct (pT p)] : Array Value)[j]?) := fun j => by
        have e := cell_of_row ((wr.alloc (.cells #[ct p.name, ci p.type] 89)).alloc (.cells #[ct (pT p)] 9)) (wr.alloc (.cells #[ct p.name, ci p.type] 89)).heap.size j _ _ _ (alloc_new _ _)
        rw [show (wr.alloc (.cells #[ct p.name, ci p.type] 89)).heap.size = wr.heap.size + 1 by simp] at e
        exact e
      have htl : (tyT p.type).length ≤ 7 := Pz.tyT_ln p.type
      have hadd : ∀ w, (Op.stringOp .add ⟨p.name.toArray⟩ ⟨(tyT p.type).toArray⟩).run Tryz.prog w = .ok (ct (pT p)) w := fun w => by
        rw [run_string_add_sum w _ _ (by simp [ByteArray.size]; omega)]
        exact congrArg (fun x => Result.ok (Value.string x) w) (N.append_str p.name (tyT p.type))
      have hsl : Hidden (((l.take i).map pT).length ≤ 4000) := by show _ ≤ _; rw [List.length_map, List.length_take]; omega
      have hfs := hfr.size
      have hpiH : Hidden (l[i]? = some p) := hpi
      clear hc hpi hleni
      go_wp2_with fail
      go_region_held3 (fun w' => w'.cell? ⟨wr.heap.size, 0, none⟩ = some (ct p.name) ∧ w'.cell? ⟨wr.heap.size, 1, none⟩ = some (ci p.type)) (first | (refine ⟨by assumption, by assumption⟩) | go_keep) (first
        | (go_at_call 80; refine (type_is p.type ht1 _).mono ?_; rintro e w1 ⟨rfl, rfl⟩)
        | (refine step_row (R := RT) rfl _ _ 22 9 _ 1 16 Tryz.underlying22 info_str rfl (by decide) rfl w.heap.size (.slice aor i capr) ((l.take i).map pT) (pT p) ([ct (pT p)]) ⟨wr.heap.size + 1, 0, none⟩ 1 rfl ?c0 rfl rfl ?c1 ?c2 ?c3 hsl (by decide) ?c4 ?_
           case c0 => go_must (exact Row.keep hrowH ((f0.same (Fr.alloc _ _ _)).same (Fr.drew _ _)) (fun _ f => f.elim))
           case c1 => go_must (exact fun j u hu => by rw [add0]; exact (hnew j).trans (by simpa using hu))
           case c2 => go_must (exact fun u hu => by simp only [List.mem_cons, List.not_mem_nil, or_false] at hu; subst hu; rfl)
           case c3 => go_must (exact fun w' hf => rfl)
           case c4 => go_must (simp; omega)
           intro v2 W2 hrow2 f2
           go_must (have hb2 := f2.heap ((((Fr.alloc (fun _ => False) _ _).same (Fr.drew _ _))).heap hbx (fun f => f)) (fun hk => by have := (hown _ hk).2; omega))
           have q0 : W2.cell? ⟨wr.heap.size, 0, none⟩ = some (ct p.name) := cell_of_row _ _ 0 _ _ _ hb2
           have q1 : W2.cell? ⟨wr.heap.size, 1, none⟩ = some (ci p.type) := cell_of_row _ _ 1 _ _ _ hb2))
      go_wp2_with fail
      go_roundg (l.length - (i + 1))
      case measure =>
        have : gk = l.length - i := hgkH
        omega
      case rel =>
        refine ⟨i + 1, _, rfl, by go_num, by omega, ?_, rfl, ?_⟩
        · rw [List.take_add_one, (show l[i]? = some p from hpiH)]
          simpa using hrow2
        · exact ((hfr.same f0).same ((Fr.alloc _ _ _).same (Fr.drew _ _))).over f2 (fun k hk => by have := (hown k hk).1; omega)
    · obtain rfl : i = l.length := by omega
      rw [Hidden, List.take_length] at hrowH
      by_cases hl0 : l = []
      · subst hl0
        obtain ⟨aor, capr, hv, hl1, hl2⟩ := Row.shape hrowH
        rw [show (([] : List Pa).map pT).length = 0 from rfl] at hv
        subst hv
        clear hrowH
        have kj := Tryz.strings_Join_none aor capr ⟨#[44, 32]⟩ wr
        have : T = [] := (show paT [] = T from hT).symm
        subst this
        go_wp2_with fail
        go_at_call 128
        refine kj.mono ?_
        rintro e w2 ⟨rfl, rfl⟩
        go_wp2_with fail
        go_ret
        exact ⟨rfl, hfr⟩
      · obtain ⟨aor, capr, hv, hN⟩ := Row.held hrowH
        rw [List.length_map] at hv
        subst hv
        obtain ⟨g1, g2, g3⟩ := hN wr (Fr.refl _ _)
        have hne : l.map pT ≠ [] := by simpa using hl0
        rcases g3 with g3 | ⟨bk, off, rfl, hc⟩
        · exact absurd g3 hne
        have hcl : ∀ (j : Nat) x, ((l.map pT).map fun x => (⟨x.toArray⟩ : ByteArray))[j]? = some x → wr.cell? ⟨bk, off + j, none⟩ = some (.string x) := by
          intro j x hx
          rw [List.getElem?_map] at hx
          cases hj : (l.map pT)[j]? with
          | none => rw [hj] at hx; cases hx
          | some y =>
            rw [hj] at hx
            obtain rfl := Option.some.inj hx
            obtain ⟨c, hc1, hc2, hc3⟩ := hc j y hj
            obtain rfl : c = [ct y] := hc1
            have := hc3 0 _ rfl
            simpa using this
        have hbk : bk < wr.heap.size := by
          obtain ⟨y, hy⟩ : ∃ y, (l.map pT)[0]? = some y := by
            cases hh : l.map pT with
            | nil => exact absurd hh hne
            | cons y r => exact ⟨y, rfl⟩
          exact World.block_lt_of_cell? wr _ (hcl 0 ⟨y.toArray⟩ (by rw [List.getElem?_map, hy]; rfl))
        have ex : ((l.map pT).map fun x => (⟨x.toArray⟩ : ByteArray)).map (·.data.toList) = l.map pT := by rw [List.map_map]; simp [Function.comp_def]
        have el : ((l.map pT).map fun x => (⟨x.toArray⟩ : ByteArray)).length = l.length := by simp
        have ej : Lib.join (((l.map pT).map fun x => (⟨x.toArray⟩ : ByteArray)).map (·.data.toList)) (⟨#[44, 32]⟩ : ByteArray).data.toList = T := by
          rw [ex, ← (show paT l = T from hT), ← join_pa l]
        have kj := Tryz.strings_Join bk off capr ((l.map pT).map fun x => (⟨x.toArray⟩ : ByteArray)) ⟨#[44, 32]⟩ wr hcl hbk (by rw [el]; omega) (by rw [el]; rw [List.length_map] at g1; exact g1) (by rw [ej]; exact hl)
        rw [ej, el] at kj
        clear ej el ex hcl hc hrowH hN g1 hT
        go_wp2_with fail
        go_at_call 128
        refine kj.mono ?_
        rintro e w2 ⟨rfl, b2⟩
        go_wp2_with fail
        go_ret
        exact ⟨rfl, hfr.same ⟨b2.os, b2.output, b2.size, fun k hk _ => b2.block k hk⟩⟩
end Go.Proofs.YteijjaabngkbjaaGreatDoor
