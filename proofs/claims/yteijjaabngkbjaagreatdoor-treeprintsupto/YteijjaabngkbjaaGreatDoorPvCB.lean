/- PyG PyH PyI PvC -/
import Derived.Test.YteijjaabngkbjaaGreatDoorPvAB
import Derived.Test.YteijjaabngkbjaaGreatDoorTrX6B
import Derived.Deep.RegionHeld3
namespace Go.Proofs.YteijjaabngkbjaaGreatDoor
open Go.RowKit Te
set_option linter.unusedSimpArgs false
set_option linter.unusedVariables false
theorem step_row {α : Type} {R : World → α → List Value → Prop} {w : World} {ops : Array Oper} {o : Oper} {a : Act} {K : Act → World → Prop} {Q : Exit → Act → World → Prop} {E : Prop} (hgd : o.guard = none) (s x : Operand) (ty e : TypeId) (z : Value) (size bytes : Nat)
    (hty : Tryz.prog.underlying ty = some (.slice e)) (hinfo : (Tryz.prog.info? e).map (fun i => (i.zero, i.size, i.bytes)) = some (some z, size, bytes)) (hzs : z.cells.size = size) (hsz : 0 < size)
    (ho : o.op = .call { callee := .builtin .append, args := #[s, x], argTypes := #[ty, ty] }) (B : Nat) (v : Value) (l : List α) (y : α) (news : List Value) (ad : Addr) (c : Nat)
    (hs : a.eval s = v) (hr : Row R e size w B v l) (hx : a.eval x = .slice (some ad) 1 c) (hl : news.length = size) (hc : ∀ (j : Nat) (u : Value), news[j]? = some u → w.cell? (ad.add j) = some u) (h1 : ∀ u ∈ news, u.oneCell' = true)
    (hR : ∀ w', Fr (fun k => k < B ∨ v.ownBlock = some k) w w' → R w' y news)
    (hn : l.length ≤ 4000) (hb : bytes ≤ 1000) (hB : B ≤ w.heap.size)
    (h : ∀ v' w', Row R e size w' B v' (l ++ [y]) → Fr (fun k => v.ownBlock = some k) w w' → K (a.put o.dst v') w') : if Region.wanted o (yielded ops a.tmps) = true then Oper.wp Tryz.prog o a w K Q else E := by
  have hw : Region.wanted o (yielded ops a.tmps) = true := by simp [Region.wanted, hgd]
  rw [if_pos hw]
  obtain ⟨cells, hr1, hr2⟩ := hr
  cases hi : Tryz.prog.info? e with
  | none => rw [hi] at hinfo; cases hinfo
  | some i =>
    rw [hi] at hinfo
    simp only [Option.map_some, Option.some.injEq, Prod.mk.injEq] at hinfo
    have hbb : (l.length + 1) * bytes ≤ 140737488355328 := Nat.le_trans (Nat.mul_le_mul (show l.length + 1 ≤ 4001 by omega) hb) (by decide)
    obtain ⟨v', w', hr, h2, h3, _, h5⟩ := run_append_own_at (P := Tryz.prog) w B ty o.type e i z size bytes hty hi hinfo.1 hinfo.2.1 hinfo.2.2 hzs hsz v l.length cells hr1 ad 1 c news (by omega) hc h1 (by simp only [maxLen]; omega) hbb hB
    have hk := h v' w' ⟨cells ++ news, by rw [List.length_append]; exact h2, fun w'' hf => by
      have hF : Fr (fun k => k < B ∨ v.ownBlock = some k) w w'' := by
        refine ((Fr.grown h3).mono (fun k _ hk => Or.inr hk.symm)).trans hf (fun k hk hs => ?_)
        rcases hs with hs | hs
        · exact Or.inl hs
        · rcases h5 with h5 | h5
          · exact Or.inr (h5 ▸ hs)
          · rw [h5] at hs
            simp only [Option.some.injEq] at hs
            omega
      exact (hr2 w'' hF).snoc hl (hR w'' hF)⟩ ((Fr.grown h3).mono (fun k _ hk => hk.symm))
    unfold Oper.wp execOp
    simp only [ho, resolve, invoke, builtin, Sem.run_bind, Sem.run_pure, Result.andThen_ok, List.map_toArray, List.map_cons, List.map_nil, hs, hx, hr]
    exact hk
def pT (p : Pa) : Bs := p.name ++ tyT p.type
theorem join_pa : ∀ (l : List Pa), Lib.join (l.map pT) [44, 32] = paT l
  | [] => rfl
  | [p] => by simp [Lib.join_one, paT, pT]
  | p :: q :: r => by
    have ih := join_pa (q :: r)
    rw [List.map_cons, List.map_cons, Lib.join_cons] at *
    rw [paT, ← ih]
    simp [Lib.joinTail, pT]
theorem info_str : (Tryz.prog.info? 9).map (fun i => (i.zero, i.size, i.bytes)) = some (some (.string ⟨#[]⟩), 1, 16) := by kernel_rfl
set_option maxRecDepth 20000 in
set_option maxHeartbeats 4000000 in
theorem params_w (l : List Pa) (ao : Option Addr) (cap : Nat) (w : World) (hp : PaL w ao cap l) (hty : ∀ p ∈ l, p.type = 0 ∨ p.type = 1 ∨ p.type = 2 ∨ p.type = 3) (hnm : ∀ p ∈ l, p.name.length ≤ 1000000) (h8 : l.length ≤ 8) (T : Bs) (hT : Hidden (paT l = T)) (hl : T.length ≤ 140737488355328) :
    Calls Tryz.prog 81 #[.slice ao l.length cap] w fun e w' => e = .returned (ct T) ∧ Fr (fun _ => False) w w' := by
  obtain ⟨hcap, hmax, hcells⟩ := hp
  have m1 : cap ≤ 9223372036854775807 := by unfold maxLen at hmax; omega
  go_enter Tryz.func81, Tryz.ntmps81
  go_wp2_with fail
  go_loopg [3, 8] l.length (fun g lv iv wr => ∃ (i : Nat) (v : Value), v = lv ∧ iv = ci (i : Int) ∧ i ≤ l.length ∧ Row RT 9 1 wr w.heap.size v ((l.take i).map pT) ∧ g = l.length - i ∧ Fr (fun _ => False) w wr)
  case atStart => exact ⟨0, _, rfl, rfl, by omega, Row.nil _ _ _ _ _, rfl, Fr.refl _ _⟩
  case round =>
    obtain ⟨i, v, rfl, rfl, hi, hrow, hgk, hfr⟩ := hrel
    have hgkH : Hidden (gk = l.length - i) := hgk
    have hrowH : Hidden (Row RT 9 1 wr w.heap.size v ((l.take i).map pT)) := hrow
    clear hgk hrow
    by_cases hil : i < l.length
    · obtain ⟨p, hpi⟩ : ∃ p, l[i]? = some p := ⟨l[i], List.getElem?_eq_getElem hil⟩
      have hpm : p ∈ l := List.mem_of_getElem? hpi
      have ht1 := hty p hpm
      have hn1 := hnm p hpm
      rcases hcells with h0 | ⟨b, off, rfl, hc⟩
      · rw [h0] at hil; simp at hil
      have d0 : wr.cell? ⟨b, off + i * 2, none⟩ = some (ct p.name) := hfr.cellN (hc i p hpi 0 _ rfl)
      have d1 : wr.cell? ⟨b, off + i * 2 + 1, none⟩ = some (ci p.type) := hfr.cellN (hc i p hpi 1 _ rfl)
      have hleni : ((l.take i).map pT).length = i := by rw [List.length_map, List.length_take]; omega
      obtain ⟨aor, capr, hv, hl1, hl2⟩ := Row.shape (show Row RT 9 1 wr w.heap.size v _ from hrowH)
      rw [hleni] at hv hl1
      subst hv
      have hown := Row.own (show Row RT 9 1 wr w.heap.size _ _ from hrowH)
      have f0 := Fr.alloc (fun _ => False) wr (.cells #[ct p.name, ci p.type] 89)
      have hbx : Hidden ((wr.alloc (.cells #[ct p.name, ci p.type] 89)).heap[wr.heap.size]? = some (.cells #[ct p.name, ci p.type] 89 (0, 0))) := alloc_new _ _
      have fd := Fr.drew (fun _ => False) (wr.alloc (.cells #[ct p.name, ci p.type] 89))
      have e0 : (wr.alloc (.cells #[ct p.name, ci p.type] 89)).cell? ⟨wr.heap.size, 0, none⟩ = some (ct p.name) := cell_of_row _ _ 0 _ _ _ hbx
      have e1 : (wr.alloc (.cells #[ct p.name, ci p.type] 89)).cell? ⟨wr.heap.size, 1, none⟩ = some (ci p.type) := cell_of_row _ _ 1 _ _ _ hbx
      have hnew : Hidden (∀ j, (((wr.alloc (.cells #[ct p.name, ci p.type] 89)).alloc (.cells #[ct (pT p)] 9)).drew).cell? ⟨wr.heap.size + 1, j, none⟩ = (#[ct (pT p)] : Array Value)[j]?) := fun j => by
        have e := cell_of_row ((wr.alloc (.cells #[ct p.name, ci p.type] 89)).alloc (.cells #[ct (pT p)] 9)) (wr.alloc (.cells #[ct p.name, ci p.type] 89)).heap.size j _ _ _ (alloc_new _ _)
        rw [show (wr.alloc (.cells #[ct p.name, ci p.type] 89)).heap.size = wr.heap.size + 1 by simp] at e
        exact e
      have htl : (tyT p.type).length ≤ 7 := Pz.tyT_ln p.type
      have hadd : ∀ w, (Op.stringOp .add ⟨p.name.toArray⟩ ⟨(tyT p.type).toArray⟩).run Tryz.prog w = .ok (ct (pT p)) w := fun w => by
        rw [run_string_add_sum w _ _ (by simp [ByteArray.size]; omega)]
        exact congrArg (fun x => Result.ok (Value.string x) w) (N.append_str p.name (tyT p.type))
      have hsl : Hidden (((l.take i).map pT).length ≤ 4000) := by show _ ≤ _; rw [List.length_map, List.length_take]; omega
      have hfs := hfr.size
      have hpiH : Hidden (l[i]? = some p) := hpi
      clear hc hpi hleni
      go_wp2_with fail
      go_region_held3 (fun w' => w'.cell? ⟨wr.heap.size, 0, none⟩ = some (ct p.name) ∧ w'.cell? ⟨wr.heap.size, 1, none⟩ = some (ci p.type)) (first | (refine ⟨by assumption, by assumption⟩) | go_keep) (first
        | (go_at_call 80; refine (type_is p.type ht1 _).mono ?_; rintro e w1 ⟨rfl, rfl⟩)
        | (refine step_row (R := RT) rfl _ _ 22 9 _ 1 16 Tryz.underlying22 info_str rfl (by decide) rfl w.heap.size (.slice aor i capr) ((l.take i).map pT) (pT p) ([ct (pT p)]) ⟨wr.heap.size + 1, 0, none⟩ 1 rfl ?c0 rfl rfl ?c1 ?c2 ?c3 hsl (by decide) ?c4 ?_
           case c0 => go_must (exact Row.keep hrowH ((f0.same (Fr.alloc _ _ _)).same (Fr.drew _ _)) (fun _ f => f.elim))
           case c1 => go_must (exact fun j u hu => by rw [add0]; exact (hnew j).trans (by simpa using hu))
           case c2 => go_must (exact fun u hu => by simp only [List.mem_cons, List.not_mem_nil, or_false] at hu; subst hu; rfl)
           case c3 => go_must (exact fun w' hf => rfl)
           case c4 => go_must (simp; omega)
           intro v2 W2 hrow2 f2
           go_must (have hb2 := f2.heap ((((Fr.alloc (fun _ => False) _ _).same (Fr.drew _ _))).heap hbx (fun f => f)) (fun hk => by have := (hown _ hk).2; omega))
           have q0 : W2.cell? ⟨wr.heap.size, 0, none⟩ = some (ct p.name) := cell_of_row _ _ 0 _ _ _ hb2
           have q1 : W2.cell? ⟨wr.heap.size, 1, none⟩ = some (ci p.type) := cell_of_row _ _ 1 _ _ _ hb2))
      go_wp2_with fail
      go_roundg (l.length - (i + 1))
      case measure =>
        have : gk = l.length - i := hgkH
        omega
      case rel =>
        refine ⟨i + 1, _, rfl, by go_num, by omega, ?_, rfl, ?_⟩
        · rw [List.take_add_one, (show l[i]? = some p from hpiH)]
          simpa using hrow2
        · exact ((hfr.same f0).same ((Fr.alloc _ _ _).same (Fr.drew _ _))).over f2 (fun k hk => by have := (hown k hk).1; omega)
    · obtain rfl : i = l.length := by omega
      rw [Hidden, List.take_length] at hrowH
      by_cases hl0 : l = []
      · subst hl0
        obtain ⟨aor, capr, hv, hl1, hl2⟩ := Row.shape hrowH
        rw [show (([] : List Pa).map pT).length = 0 from rfl] at hv
        subst hv
        clear hrowH
        have kj := Tryz.strings_Join_none aor capr ⟨#[44, 32]⟩ wr
        have : T = [] := (show paT [] = T from hT).symm
        subst this
        go_wp2_with fail
        go_at_call 128
        refine kj.mono ?_
        rintro e w2 ⟨rfl, rfl⟩
        go_wp2_with fail
        go_ret
        exact ⟨rfl, hfr⟩
      · obtain ⟨aor, capr, hv, hN⟩ := Row.held hrowH
        rw [List.length_map] at hv
        subst hv
        obtain ⟨g1, g2, g3⟩ := hN wr (Fr.refl _ _)
        have hne : l.map pT ≠ [] := by simpa using hl0
        rcases g3 with g3 | ⟨bk, off, rfl, hc⟩
        · exact absurd g3 hne
        have hcl : ∀ (j : Nat) x, ((l.map pT).map fun x => (⟨x.toArray⟩ : ByteArray))[j]? = some x → wr.cell? ⟨bk, off + j, none⟩ = some (.string x) := by
          intro j x hx
          rw [List.getElem?_map] at hx
          cases hj : (l.map pT)[j]? with
          | none => rw [hj] at hx; cases hx
          | some y =>
            rw [hj] at hx
            obtain rfl := Option.some.inj hx
            obtain ⟨c, hc1, hc2, hc3⟩ := hc j y hj
            obtain rfl : c = [ct y] := hc1
            have := hc3 0 _ rfl
            simpa using this
        have hbk : bk < wr.heap.size := by
          obtain ⟨y, hy⟩ : ∃ y, (l.map pT)[0]? = some y := by
            cases hh : l.map pT with
            | nil => exact absurd hh hne
            | cons y r => exact ⟨y, rfl⟩
          exact World.block_lt_of_cell? wr _ (hcl 0 ⟨y.toArray⟩ (by rw [List.getElem?_map, hy]; rfl))
        have ex : ((l.map pT).map fun x => (⟨x.toArray⟩ : ByteArray)).map (·.data.toList) = l.map pT := by rw [List.map_map]; simp [Function.comp_def]
        have el : ((l.map pT).map fun x => (⟨x.toArray⟩ : ByteArray)).length = l.length := by simp
        have ej : Lib.join (((l.map pT).map fun x => (⟨x.toArray⟩ : ByteArray)).map (·.data.toList)) (⟨#[44, 32]⟩ : ByteArray).data.toList = T := by
          rw [ex, ← (show paT l = T from hT), ← join_pa l]
        have kj := Tryz.strings_Join bk off capr ((l.map pT).map fun x => (⟨x.toArray⟩ : ByteArray)) ⟨#[44, 32]⟩ wr hcl hbk (by rw [el]; omega) (by rw [el]; rw [List.length_map] at g1; exact g1) (by rw [ej]; exact hl)
        rw [ej, el] at kj
        clear ej el ex hcl hc hrowH hN g1 hT
        go_wp2_with fail
        go_at_call 128
        refine kj.mono ?_
        rintro e w2 ⟨rfl, b2⟩
        go_wp2_with fail
        go_ret
        exact ⟨rfl, hfr.same ⟨b2.os, b2.output, b2.size, fun k hk _ => b2.block k hk⟩⟩
end Go.Proofs.YteijjaabngkbjaaGreatDoor
namespace Go.Proofs.YteijjaabngkbjaaGreatDoor
open Go.RowKit Te
set_option linter.unusedSimpArgs false
set_option linter.unusedVariables false
theorem line_zero (l : List Bs) (acc T : Bs) (w0 w : World) (B b : Nat) (hw : PW w0 B b acc w) (hl9 : l.length ≤ 1000000) (hT : acc ++ l.flatten ++ [10] = T) (hl : T.length ≤ 140737488355328) :
    Calls Tryz.prog 37 #[bp b, ci 0, .slice (some ⟨w.heap.size, 0, none⟩) l.length l.length] (w.alloc (.cells (l.map ct).toArray 9)) fun e w' => e = .returned (.tuple #[]) ∧ PWrote w0 B b T w w' :=
  line_new2 0 l acc T w0 w B b hw (by decide) hl9 (by rw [← hT]; simp [Te.pad]) hl
abbrev deO (k : Int) (ex : Bool) (name : Bs) (ty : Int) (pv ev bv : Value) : Obj := .cells #[ci k, .bool ex, ct name, ci ty, pv, ev, bv] 51 (0, 0)
set_option maxRecDepth 20000 in
set_option maxHeartbeats 4000000 in
theorem decl_1t (name : Bs) (ty : Int) (hty : ty = 0 ∨ ty = 1 ∨ ty = 2 ∨ ty = 3) (acc T : Bs) (w0 w : World) (B b : Nat) (ht : F.Tab w0) (hw : PW w0 B b acc w) (ao1 ao3 : Option Addr) (n1 n3 cap1 cap3 : Nat) (x : EH) (kx : Exs) (b0 off cap2 : Nat) (aok : Option Addr) (capk : Nat) (ho : OkE x) (hx : OkX kx) (hs : ShE x kx.len) (hsl : ShL kx)
    (hk : ExL w0 aok capk kx) (h0 : w0.cell? ⟨b0, off, none⟩ = some (ci x.kind)) (h1 : w0.cell? ⟨b0, off + 1, none⟩ = some (ci x.op)) (h2 : w0.cell? ⟨b0, off + 2, none⟩ = some (ct x.mod)) (h3 : w0.cell? ⟨b0, off + 3, none⟩ = some (ct x.name)) (h4 : w0.cell? ⟨b0, off + 4, none⟩ = some (ci x.vt)) (h5 : w0.cell? ⟨b0, off + 5, none⟩ = some (.int .u64 x.vb)) (h6 : w0.cell? ⟨b0, off + 6, none⟩ = some (.slice aok kx.len capk))
    (hT : Hidden (acc ++ ([101, 120, 112, 111, 114, 116, 32] ++ [99, 111, 110, 115, 116, 32] ++ name ++ tyT ty ++ [32, 61, 32] ++ txA txS x kx 1 ++ [59, 10]) = T)) (hl : T.length ≤ 140737488355328) :
    Calls Tryz.prog 38 #[bp b, .agg #[ci 1, .bool true, ct name, ci ty, .slice ao1 n1 cap1, .slice (some ⟨b0, off, none⟩) 1 cap2, .slice ao3 n3 cap3]] w fun e w' => e = .returned (.tuple #[]) ∧ PW w0 B b T w' := by
  have f0 := Fr.alloc (fun _ => False) w (deO 1 true name ty (.slice ao1 n1 cap1) (.slice (some ⟨b0, off, none⟩) 1 cap2) (.slice ao3 n3 cap3))
  have hbx : Hidden ((w.alloc (deO 1 true name ty (.slice ao1 n1 cap1) (.slice (some ⟨b0, off, none⟩) 1 cap2) (.slice ao3 n3 cap3))).heap[w.heap.size]? = some (deO 1 true name ty (.slice ao1 n1 cap1) (.slice (some ⟨b0, off, none⟩) 1 cap2) (.slice ao3 n3 cap3))) := alloc_new _ _
  have g0 := hw.fr.same f0
  have hne := ne_pbld hw.bld
  have hlen : (txA txS x kx 1).length ≤ 140737488355328 := by
    have := congrArg List.length (show _ = T from hT)
    simp only [List.length_append] at this
    omega
  have ke := fun (w1 : World) (f1 : Fr (fun _ => False) (w.alloc (deO 1 true name ty (.slice ao1 n1 cap1) (.slice (some ⟨b0, off, none⟩) 1 cap2) (.slice ao3 n3 cap3))) w1) => exprText_any x kx (exV x (.slice aok kx.len capk)) w1 ho hx hs hsl ⟨aok, capk, rfl, hk.keep (g0.same f1)⟩ (tab_fr ht (g0.same f1)) hlen
  generalize txA txS x kx 1 = E at ke hT hlen
  have kt := fun (w1 : World) => type_is ty hty w1
  generalize hty9 : tyT ty = Y at kt hT
  have kl := fun (w1 : World) (f1 : Fr (fun _ => False) (w.alloc (deO 1 true name ty (.slice ao1 n1 cap1) (.slice (some ⟨b0, off, none⟩) 1 cap2) (.slice ao3 n3 cap3))) w1) => line_zero [[101, 120, 112, 111, 114, 116, 32], [99, 111, 110, 115, 116, 32], name, Y, [32, 61, 32], E, [59]] acc T w0 w1 B b (hw.quiet (f0.same f1)) (by simp) (by rw [← (show _ = T from hT)]; simp) hl
  have hd0 : Fr (fun _ => False) (w.alloc (deO 1 true name ty (.slice ao1 n1 cap1) (.slice (some ⟨b0, off, none⟩) 1 cap2) (.slice ao3 n3 cap3))) (w.alloc (deO 1 true name ty (.slice ao1 n1 cap1) (.slice (some ⟨b0, off, none⟩) 1 cap2) (.slice ao3 n3 cap3))).drew := Fr.drew _ _
  obtain ⟨c0, c1, c2, c3, c4, c5, c6⟩ := ex_box hbx
  have d0 := g0.cellN h0
  have d1 := g0.cellN h1
  have d2 := g0.cellN h2
  have d3 := g0.cellN h3
  have d4 := g0.cellN h4
  have d5 := g0.cellN h5
  have d6 := g0.cellN h6
  clear hT hty9
  go_enter Tryz.func38, Tryz.ntmps38
  go_wp2_with fail
  go_region_held3 (fun w' => w'.cell? ⟨w.heap.size, 2, none⟩ = some (ct name) ∧ w'.cell? ⟨w.heap.size, 3, none⟩ = some (ci ty) ∧ w'.cell? ⟨w.heap.size, 5, none⟩ = some (.slice (some ⟨b0, off, none⟩) 1 cap2) ∧ w'.cell? ⟨b0, off, none⟩ = some (ci x.kind) ∧ w'.cell? ⟨b0, off + 1, none⟩ = some (ci x.op) ∧ w'.cell? ⟨b0, off + 2, none⟩ = some (ct x.mod) ∧ w'.cell? ⟨b0, off + 3, none⟩ = some (ct x.name) ∧ w'.cell? ⟨b0, off + 4, none⟩ = some (ci x.vt) ∧ w'.cell? ⟨b0, off + 5, none⟩ = some (.int .u64 x.vb) ∧ w'.cell? ⟨b0, off + 6, none⟩ = some (.slice aok kx.len capk)) (first | (refine ⟨by assumption, by assumption, by assumption, by assumption, by assumption, by assumption, by assumption, by assumption, by assumption, by assumption⟩) | go_keep) (first
    | (go_at_call 80; refine (kt _).mono ?_; rintro e wt ⟨rfl, hwt⟩; have hwt := hwt.symm; subst hwt)
    | (go_at_call 48; refine (ke _ hd0).mono ?_; rintro e wa ⟨rfl, fa⟩; have ga := hd0.same fa; have q2 := ga.cellN c2; have q3 := ga.cellN c3; have q5 := ga.cellN c5; have y0 := ga.cellN d0; have y1 := ga.cellN d1; have y2 := ga.cellN d2; have y3 := ga.cellN d3; have y4 := ga.cellN d4; have y5 := ga.cellN d5; have y6 := ga.cellN d6)
    | (go_at_call 37; refine (kl wa (hd0.same fa)).mono ?_; rintro e wz ⟨rfl, p2, g2⟩; obtain ⟨e0', e1', e2', e3', e4', e5', e6'⟩ := ex_box (bs_keep g2 ((hd0.same fa).heap hbx (fun f => f)) hne (by decide)); have z0 := p2.fr.cellN h0; have z1 := p2.fr.cellN h1; have z2 := p2.fr.cellN h2; have z3 := p2.fr.cellN h3; have z4 := p2.fr.cellN h4; have z5 := p2.fr.cellN h5; have z6 := p2.fr.cellN h6))
  all_goals
    go_wp2_with fail
    go_end0
    exact ⟨rfl, p2⟩
set_option maxRecDepth 20000 in
set_option maxHeartbeats 4000000 in
theorem decl_1f (name : Bs) (ty : Int) (hty : ty = 0 ∨ ty = 1 ∨ ty = 2 ∨ ty = 3) (acc T : Bs) (w0 w : World) (B b : Nat) (ht : F.Tab w0) (hw : PW w0 B b acc w) (ao1 ao3 : Option Addr) (n1 n3 cap1 cap3 : Nat) (x : EH) (kx : Exs) (b0 off cap2 : Nat) (aok : Option Addr) (capk : Nat) (ho : OkE x) (hx : OkX kx) (hs : ShE x kx.len) (hsl : ShL kx)
    (hk : ExL w0 aok capk kx) (h0 : w0.cell? ⟨b0, off, none⟩ = some (ci x.kind)) (h1 : w0.cell? ⟨b0, off + 1, none⟩ = some (ci x.op)) (h2 : w0.cell? ⟨b0, off + 2, none⟩ = some (ct x.mod)) (h3 : w0.cell? ⟨b0, off + 3, none⟩ = some (ct x.name)) (h4 : w0.cell? ⟨b0, off + 4, none⟩ = some (ci x.vt)) (h5 : w0.cell? ⟨b0, off + 5, none⟩ = some (.int .u64 x.vb)) (h6 : w0.cell? ⟨b0, off + 6, none⟩ = some (.slice aok kx.len capk))
    (hT : Hidden (acc ++ ([99, 111, 110, 115, 116, 32] ++ name ++ tyT ty ++ [32, 61, 32] ++ txA txS x kx 1 ++ [59, 10]) = T)) (hl : T.length ≤ 140737488355328) :
    Calls Tryz.prog 38 #[bp b, .agg #[ci 1, .bool false, ct name, ci ty, .slice ao1 n1 cap1, .slice (some ⟨b0, off, none⟩) 1 cap2, .slice ao3 n3 cap3]] w fun e w' => e = .returned (.tuple #[]) ∧ PW w0 B b T w' := by
  have f0 := Fr.alloc (fun _ => False) w (deO 1 false name ty (.slice ao1 n1 cap1) (.slice (some ⟨b0, off, none⟩) 1 cap2) (.slice ao3 n3 cap3))
  have hbx : Hidden ((w.alloc (deO 1 false name ty (.slice ao1 n1 cap1) (.slice (some ⟨b0, off, none⟩) 1 cap2) (.slice ao3 n3 cap3))).heap[w.heap.size]? = some (deO 1 false name ty (.slice ao1 n1 cap1) (.slice (some ⟨b0, off, none⟩) 1 cap2) (.slice ao3 n3 cap3))) := alloc_new _ _
  have g0 := hw.fr.same f0
  have hne := ne_pbld hw.bld
  have hlen : (txA txS x kx 1).length ≤ 140737488355328 := by
    have := congrArg List.length (show _ = T from hT)
    simp only [List.length_append] at this
    omega
  have ke := fun (w1 : World) (f1 : Fr (fun _ => False) (w.alloc (deO 1 false name ty (.slice ao1 n1 cap1) (.slice (some ⟨b0, off, none⟩) 1 cap2) (.slice ao3 n3 cap3))) w1) => exprText_any x kx (exV x (.slice aok kx.len capk)) w1 ho hx hs hsl ⟨aok, capk, rfl, hk.keep (g0.same f1)⟩ (tab_fr ht (g0.same f1)) hlen
  generalize txA txS x kx 1 = E at ke hT hlen
  have kt := fun (w1 : World) => type_is ty hty w1
  generalize hty9 : tyT ty = Y at kt hT
  have kl := fun (w1 : World) (f1 : Fr (fun _ => False) (w.alloc (deO 1 false name ty (.slice ao1 n1 cap1) (.slice (some ⟨b0, off, none⟩) 1 cap2) (.slice ao3 n3 cap3))) w1) => line_zero [[], [99, 111, 110, 115, 116, 32], name, Y, [32, 61, 32], E, [59]] acc T w0 w1 B b (hw.quiet (f0.same f1)) (by simp) (by rw [← (show _ = T from hT)]; simp) hl
  have hd0 : Fr (fun _ => False) (w.alloc (deO 1 false name ty (.slice ao1 n1 cap1) (.slice (some ⟨b0, off, none⟩) 1 cap2) (.slice ao3 n3 cap3))) (w.alloc (deO 1 false name ty (.slice ao1 n1 cap1) (.slice (some ⟨b0, off, none⟩) 1 cap2) (.slice ao3 n3 cap3))).drew := Fr.drew _ _
  obtain ⟨c0, c1, c2, c3, c4, c5, c6⟩ := ex_box hbx
  have d0 := g0.cellN h0
  have d1 := g0.cellN h1
  have d2 := g0.cellN h2
  have d3 := g0.cellN h3
  have d4 := g0.cellN h4
  have d5 := g0.cellN h5
  have d6 := g0.cellN h6
  clear hT hty9
  go_enter Tryz.func38, Tryz.ntmps38
  go_wp2_with fail
  go_region_held3 (fun w' => w'.cell? ⟨w.heap.size, 2, none⟩ = some (ct name) ∧ w'.cell? ⟨w.heap.size, 3, none⟩ = some (ci ty) ∧ w'.cell? ⟨w.heap.size, 5, none⟩ = some (.slice (some ⟨b0, off, none⟩) 1 cap2) ∧ w'.cell? ⟨b0, off, none⟩ = some (ci x.kind) ∧ w'.cell? ⟨b0, off + 1, none⟩ = some (ci x.op) ∧ w'.cell? ⟨b0, off + 2, none⟩ = some (ct x.mod) ∧ w'.cell? ⟨b0, off + 3, none⟩ = some (ct x.name) ∧ w'.cell? ⟨b0, off + 4, none⟩ = some (ci x.vt) ∧ w'.cell? ⟨b0, off + 5, none⟩ = some (.int .u64 x.vb) ∧ w'.cell? ⟨b0, off + 6, none⟩ = some (.slice aok kx.len capk)) (first | (refine ⟨by assumption, by assumption, by assumption, by assumption, by assumption, by assumption, by assumption, by assumption, by assumption, by assumption⟩) | go_keep) (first
    | (go_at_call 80; refine (kt _).mono ?_; rintro e wt ⟨rfl, hwt⟩; have hwt := hwt.symm; subst hwt)
    | (go_at_call 48; refine (ke _ hd0).mono ?_; rintro e wa ⟨rfl, fa⟩; have ga := hd0.same fa; have q2 := ga.cellN c2; have q3 := ga.cellN c3; have q5 := ga.cellN c5; have y0 := ga.cellN d0; have y1 := ga.cellN d1; have y2 := ga.cellN d2; have y3 := ga.cellN d3; have y4 := ga.cellN d4; have y5 := ga.cellN d5; have y6 := ga.cellN d6)
    | (go_at_call 37; refine (kl wa (hd0.same fa)).mono ?_; rintro e wz ⟨rfl, p2, g2⟩; obtain ⟨e0', e1', e2', e3', e4', e5', e6'⟩ := ex_box (bs_keep g2 ((hd0.same fa).heap hbx (fun f => f)) hne (by decide)); have z0 := p2.fr.cellN h0; have z1 := p2.fr.cellN h1; have z2 := p2.fr.cellN h2; have z3 := p2.fr.cellN h3; have z4 := p2.fr.cellN h4; have z5 := p2.fr.cellN h5; have z6 := p2.fr.cellN h6))
  all_goals
    go_wp2_with fail
    go_end0
    exact ⟨rfl, p2⟩
set_option maxRecDepth 20000 in
set_option maxHeartbeats 4000000 in
theorem decl_2f (name : Bs) (ty : Int) (hty : ty = 0 ∨ ty = 1 ∨ ty = 2 ∨ ty = 3) (acc T : Bs) (w0 w : World) (B b : Nat) (ht : F.Tab w0) (hw : PW w0 B b acc w) (ao1 ao3 : Option Addr) (n1 n3 cap1 cap3 : Nat) (x : EH) (kx : Exs) (b0 off cap2 : Nat) (aok : Option Addr) (capk : Nat) (ho : OkE x) (hx : OkX kx) (hs : ShE x kx.len) (hsl : ShL kx)
    (hk : ExL w0 aok capk kx) (h0 : w0.cell? ⟨b0, off, none⟩ = some (ci x.kind)) (h1 : w0.cell? ⟨b0, off + 1, none⟩ = some (ci x.op)) (h2 : w0.cell? ⟨b0, off + 2, none⟩ = some (ct x.mod)) (h3 : w0.cell? ⟨b0, off + 3, none⟩ = some (ct x.name)) (h4 : w0.cell? ⟨b0, off + 4, none⟩ = some (ci x.vt)) (h5 : w0.cell? ⟨b0, off + 5, none⟩ = some (.int .u64 x.vb)) (h6 : w0.cell? ⟨b0, off + 6, none⟩ = some (.slice aok kx.len capk))
    (hT : Hidden (acc ++ ([118, 97, 114, 32] ++ name ++ tyT ty ++ [32, 61, 32] ++ txA txS x kx 1 ++ [59, 10]) = T)) (hl : T.length ≤ 140737488355328) :
    Calls Tryz.prog 38 #[bp b, .agg #[ci 2, .bool false, ct name, ci ty, .slice ao1 n1 cap1, .slice (some ⟨b0, off, none⟩) 1 cap2, .slice ao3 n3 cap3]] w fun e w' => e = .returned (.tuple #[]) ∧ PW w0 B b T w' := by
  have f0 := Fr.alloc (fun _ => False) w (deO 2 false name ty (.slice ao1 n1 cap1) (.slice (some ⟨b0, off, none⟩) 1 cap2) (.slice ao3 n3 cap3))
  have hbx : Hidden ((w.alloc (deO 2 false name ty (.slice ao1 n1 cap1) (.slice (some ⟨b0, off, none⟩) 1 cap2) (.slice ao3 n3 cap3))).heap[w.heap.size]? = some (deO 2 false name ty (.slice ao1 n1 cap1) (.slice (some ⟨b0, off, none⟩) 1 cap2) (.slice ao3 n3 cap3))) := alloc_new _ _
  have g0 := hw.fr.same f0
  have hne := ne_pbld hw.bld
  have hlen : (txA txS x kx 1).length ≤ 140737488355328 := by
    have := congrArg List.length (show _ = T from hT)
    simp only [List.length_append] at this
    omega
  have ke := fun (w1 : World) (f1 : Fr (fun _ => False) (w.alloc (deO 2 false name ty (.slice ao1 n1 cap1) (.slice (some ⟨b0, off, none⟩) 1 cap2) (.slice ao3 n3 cap3))) w1) => exprText_any x kx (exV x (.slice aok kx.len capk)) w1 ho hx hs hsl ⟨aok, capk, rfl, hk.keep (g0.same f1)⟩ (tab_fr ht (g0.same f1)) hlen
  generalize txA txS x kx 1 = E at ke hT hlen
  have kt := fun (w1 : World) => type_is ty hty w1
  generalize hty9 : tyT ty = Y at kt hT
  have kl := fun (w1 : World) (f1 : Fr (fun _ => False) (w.alloc (deO 2 false name ty (.slice ao1 n1 cap1) (.slice (some ⟨b0, off, none⟩) 1 cap2) (.slice ao3 n3 cap3))) w1) => line_zero [[118, 97, 114, 32], name, Y, [32, 61, 32], E, [59]] acc T w0 w1 B b (hw.quiet (f0.same f1)) (by simp) (by rw [← (show _ = T from hT)]; simp) hl
  have hd0 : Fr (fun _ => False) (w.alloc (deO 2 false name ty (.slice ao1 n1 cap1) (.slice (some ⟨b0, off, none⟩) 1 cap2) (.slice ao3 n3 cap3))) (w.alloc (deO 2 false name ty (.slice ao1 n1 cap1) (.slice (some ⟨b0, off, none⟩) 1 cap2) (.slice ao3 n3 cap3))).drew := Fr.drew _ _
  obtain ⟨c0, c1, c2, c3, c4, c5, c6⟩ := ex_box hbx
  have d0 := g0.cellN h0
  have d1 := g0.cellN h1
  have d2 := g0.cellN h2
  have d3 := g0.cellN h3
  have d4 := g0.cellN h4
  have d5 := g0.cellN h5
  have d6 := g0.cellN h6
  clear hT hty9
  go_enter Tryz.func38, Tryz.ntmps38
  go_wp2_with fail
  go_region_held3 (fun w' => w'.cell? ⟨w.heap.size, 2, none⟩ = some (ct name) ∧ w'.cell? ⟨w.heap.size, 3, none⟩ = some (ci ty) ∧ w'.cell? ⟨w.heap.size, 5, none⟩ = some (.slice (some ⟨b0, off, none⟩) 1 cap2) ∧ w'.cell? ⟨b0, off, none⟩ = some (ci x.kind) ∧ w'.cell? ⟨b0, off + 1, none⟩ = some (ci x.op) ∧ w'.cell? ⟨b0, off + 2, none⟩ = some (ct x.mod) ∧ w'.cell? ⟨b0, off + 3, none⟩ = some (ct x.name) ∧ w'.cell? ⟨b0, off + 4, none⟩ = some (ci x.vt) ∧ w'.cell? ⟨b0, off + 5, none⟩ = some (.int .u64 x.vb) ∧ w'.cell? ⟨b0, off + 6, none⟩ = some (.slice aok kx.len capk)) (first | (refine ⟨by assumption, by assumption, by assumption, by assumption, by assumption, by assumption, by assumption, by assumption, by assumption, by assumption⟩) | go_keep) (first
    | (go_at_call 80; refine (kt _).mono ?_; rintro e wt ⟨rfl, hwt⟩; have hwt := hwt.symm; subst hwt)
    | (go_at_call 48; refine (ke _ hd0).mono ?_; rintro e wa ⟨rfl, fa⟩; have ga := hd0.same fa; have q2 := ga.cellN c2; have q3 := ga.cellN c3; have q5 := ga.cellN c5; have y0 := ga.cellN d0; have y1 := ga.cellN d1; have y2 := ga.cellN d2; have y3 := ga.cellN d3; have y4 := ga.cellN d4; have y5 := ga.cellN d5; have y6 := ga.cellN d6)
    | (go_at_call 37; refine (kl wa (hd0.same fa)).mono ?_; rintro e wz ⟨rfl, p2, g2⟩; obtain ⟨e0', e1', e2', e3', e4', e5', e6'⟩ := ex_box (bs_keep g2 ((hd0.same fa).heap hbx (fun f => f)) hne (by decide)); have z0 := p2.fr.cellN h0; have z1 := p2.fr.cellN h1; have z2 := p2.fr.cellN h2; have z3 := p2.fr.cellN h3; have z4 := p2.fr.cellN h4; have z5 := p2.fr.cellN h5; have z6 := p2.fr.cellN h6))
  all_goals
    go_wp2_with fail
    go_end0
    exact ⟨rfl, p2⟩
end Go.Proofs.YteijjaabngkbjaaGreatDoor
namespace Go.Proofs.YteijjaabngkbjaaGreatDoor
open Go.RowKit Te
set_option linter.unusedSimpArgs false
set_option linter.unusedVariables false
set_option maxRecDepth 20000 in
set_option maxHeartbeats 4000000 in
theorem decl_3t (name : Bs) (ty : Int) (hty : ty = 0 ∨ ty = 1 ∨ ty = 2 ∨ ty = 3) (acc T : Bs) (w0 w : World) (B b : Nat) (ht : F.Tab w0) (hw : PW w0 B b acc w) (ao1 ao2 ao3 : Option Addr) (n2 cap1 cap2 cap3 : Nat) (ps : List Pa) (bo : Sts) (hp : PaL w0 ao1 cap1 ps)
    (hpt : ∀ p ∈ ps, p.type = 0 ∨ p.type = 1 ∨ p.type = 2 ∨ p.type = 3) (hpn : ∀ p ∈ ps, p.name.length ≤ 1000000) (h8 : ps.length ≤ 8) (hB : BlkW bo 1) (hbo : StL w0 ao3 cap3 bo)
    (hT : Hidden (acc ++ ([101, 120, 112, 111, 114, 116, 32] ++ [102, 110, 32] ++ name ++ [40] ++ paT ps ++ [41] ++ tyT ty ++ [32, 123, 10]) ++ stT txS bo 1 ++ [125, 10] = T)) (hl : T.length ≤ 140737488355328) :
    Calls Tryz.prog 38 #[bp b, .agg #[ci 3, .bool true, ct name, ci ty, .slice ao1 ps.length cap1, .slice ao2 n2 cap2, .slice ao3 bo.len cap3]] w fun e w' => e = .returned (.tuple #[]) ∧ PW w0 B b T w' := by
  have f0 := Fr.alloc (fun _ => False) w (deO 3 true name ty (.slice ao1 ps.length cap1) (.slice ao2 n2 cap2) (.slice ao3 bo.len cap3))
  have hbx : Hidden ((w.alloc (deO 3 true name ty (.slice ao1 ps.length cap1) (.slice ao2 n2 cap2) (.slice ao3 bo.len cap3))).heap[w.heap.size]? = some (deO 3 true name ty (.slice ao1 ps.length cap1) (.slice ao2 n2 cap2) (.slice ao3 bo.len cap3))) := alloc_new _ _
  have g0 := hw.fr.same f0
  have hne := ne_pbld hw.bld
  have hlen : (paT ps).length ≤ 140737488355328 := by
    have := congrArg List.length (show _ = T from hT)
    simp only [List.length_append] at this
    omega
  have m3 : cap3 ≤ 9223372036854775807 := by have := hbo.2.1; unfold maxLen at this; omega
  have m3' := hbo.1
  have m1 : cap1 ≤ 9223372036854775807 := by have := hp.2.1; unfold maxLen at this; omega
  have m1' := hp.1
  have kp := fun (w1 : World) (f1 : Fr (fun _ => False) (w.alloc (deO 3 true name ty (.slice ao1 ps.length cap1) (.slice ao2 n2 cap2) (.slice ao3 bo.len cap3))) w1) => params_w ps ao1 cap1 w1 (hp.keep (g0.same f1)) hpt hpn h8 (paT ps) (show Hidden (paT ps = paT ps) from rfl) hlen
  generalize paT ps = E at kp hT hlen
  have kt := fun (w1 : World) => type_is ty hty w1
  generalize hty9 : tyT ty = Y at kt hT
  obtain ⟨T1, hT1'⟩ : ∃ T1, acc ++ [[101, 120, 112, 111, 114, 116, 32], [102, 110, 32], name, [40], E, [41], Y, [32, 123]].flatten ++ [10] = T1 := ⟨_, rfl⟩
  have rT1 : Hidden (T1 ++ (stT txS bo 1 ++ [125, 10]) = T) := by
    show _ = T
    rw [← (show _ = T from hT), ← hT1']
    simp
  have hT1 : Hidden (acc ++ [[101, 120, 112, 111, 114, 116, 32], [102, 110, 32], name, [40], E, [41], Y, [32, 123]].flatten ++ [10] = T1) := hT1'
  obtain ⟨T2, hT2'⟩ : ∃ T2, T1 ++ stT txS bo 1 = T2 := ⟨_, rfl⟩
  have rT2 : Hidden (T2 ++ [125, 10] = T) := by
    show _ = T
    rw [← (show _ = T from rT1), ← hT2']
    simp
  have hT2 : Hidden (T1 ++ stT txS bo 1 = T2) := hT2'
  have lT1 := app_le (show _ = T from rT1) hl
  have lT2 := app_le (show _ = T from rT2) hl
  have kl := fun (w1 : World) (f1 : Fr (fun _ => False) (w.alloc (deO 3 true name ty (.slice ao1 ps.length cap1) (.slice ao2 n2 cap2) (.slice ao3 bo.len cap3))) w1) => line_zero [[101, 120, 112, 111, 114, 116, 32], [102, 110, 32], name, [40], E, [41], Y, [32, 123]] acc T1 w0 w1 B b (hw.quiet (f0.same f1)) (by simp) hT1 lT1
  have hd0 : Fr (fun _ => False) (w.alloc (deO 3 true name ty (.slice ao1 ps.length cap1) (.slice ao2 n2 cap2) (.slice ao3 bo.len cap3))) (w.alloc (deO 3 true name ty (.slice ao1 ps.length cap1) (.slice ao2 n2 cap2) (.slice ao3 bo.len cap3))).drew := Fr.drew _ _
  obtain ⟨c0, c1, c2, c3, c4, c5, c6⟩ := ex_box hbx
  clear hT hty9 hT1' hT2'
  go_enter Tryz.func38, Tryz.ntmps38
  go_wp2_with fail
  go_region_held3 (fun w' => w'.cell? ⟨w.heap.size, 2, none⟩ = some (ct name) ∧ w'.cell? ⟨w.heap.size, 3, none⟩ = some (ci ty) ∧ w'.cell? ⟨w.heap.size, 4, none⟩ = some (.slice ao1 ps.length cap1)) (first | (refine ⟨by assumption, by assumption, by assumption⟩) | go_keep) (first
    | (go_at_call 80; refine (kt _).mono ?_; rintro e wt ⟨rfl, hwt⟩; have hwt := hwt.symm; subst hwt)
    | (go_at_call 81; refine (kp _ hd0).mono ?_; rintro e wa ⟨rfl, fa⟩; have ga := hd0.same fa; have q2 := ga.cellN c2; have q3 := ga.cellN c3; have q4 := ga.cellN c4)
    | (go_at_call 37; refine (kl wa (hd0.same fa)).mono ?_; rintro e wz ⟨rfl, p2, g2⟩; obtain ⟨e0', e1', e2', e3', e4', e5', e6'⟩ := ex_box (bs_keep g2 ((hd0.same fa).heap hbx (fun f => f)) hne (by decide))))
  all_goals
    have kb := hB 1 rfl ao3 cap3 w0 wz B b T1 T2 hbo ht p2 hT2 lT2
    go_wp2_with fail
    go_at_call 82
    refine kb.mono ?_
    rintro e w3 ⟨rfl, p3, g3⟩
    have kz := line_zero [[125]] T2 T w0 w3 B b p3 (by simp) (by rw [← (show _ = T from rT2)]; simp) hl
    go_wp2_with fail
    go_at_call 37
    refine kz.mono ?_
    rintro e w4 ⟨rfl, p4, g4⟩
    go_wp2_with fail
    go_end0
    exact ⟨rfl, p4⟩
set_option maxRecDepth 20000 in
set_option maxHeartbeats 4000000 in
theorem decl_3f (name : Bs) (ty : Int) (hty : ty = 0 ∨ ty = 1 ∨ ty = 2 ∨ ty = 3) (acc T : Bs) (w0 w : World) (B b : Nat) (ht : F.Tab w0) (hw : PW w0 B b acc w) (ao1 ao2 ao3 : Option Addr) (n2 cap1 cap2 cap3 : Nat) (ps : List Pa) (bo : Sts) (hp : PaL w0 ao1 cap1 ps)
    (hpt : ∀ p ∈ ps, p.type = 0 ∨ p.type = 1 ∨ p.type = 2 ∨ p.type = 3) (hpn : ∀ p ∈ ps, p.name.length ≤ 1000000) (h8 : ps.length ≤ 8) (hB : BlkW bo 1) (hbo : StL w0 ao3 cap3 bo)
    (hT : Hidden (acc ++ ([] ++ [102, 110, 32] ++ name ++ [40] ++ paT ps ++ [41] ++ tyT ty ++ [32, 123, 10]) ++ stT txS bo 1 ++ [125, 10] = T)) (hl : T.length ≤ 140737488355328) :
    Calls Tryz.prog 38 #[bp b, .agg #[ci 3, .bool false, ct name, ci ty, .slice ao1 ps.length cap1, .slice ao2 n2 cap2, .slice ao3 bo.len cap3]] w fun e w' => e = .returned (.tuple #[]) ∧ PW w0 B b T w' := by
  have f0 := Fr.alloc (fun _ => False) w (deO 3 false name ty (.slice ao1 ps.length cap1) (.slice ao2 n2 cap2) (.slice ao3 bo.len cap3))
  have hbx : Hidden ((w.alloc (deO 3 false name ty (.slice ao1 ps.length cap1) (.slice ao2 n2 cap2) (.slice ao3 bo.len cap3))).heap[w.heap.size]? = some (deO 3 false name ty (.slice ao1 ps.length cap1) (.slice ao2 n2 cap2) (.slice ao3 bo.len cap3))) := alloc_new _ _
  have g0 := hw.fr.same f0
  have hne := ne_pbld hw.bld
  have hlen : (paT ps).length ≤ 140737488355328 := by
    have := congrArg List.length (show _ = T from hT)
    simp only [List.length_append] at this
    omega
  have m3 : cap3 ≤ 9223372036854775807 := by have := hbo.2.1; unfold maxLen at this; omega
  have m3' := hbo.1
  have m1 : cap1 ≤ 9223372036854775807 := by have := hp.2.1; unfold maxLen at this; omega
  have m1' := hp.1
  have kp := fun (w1 : World) (f1 : Fr (fun _ => False) (w.alloc (deO 3 false name ty (.slice ao1 ps.length cap1) (.slice ao2 n2 cap2) (.slice ao3 bo.len cap3))) w1) => params_w ps ao1 cap1 w1 (hp.keep (g0.same f1)) hpt hpn h8 (paT ps) (show Hidden (paT ps = paT ps) from rfl) hlen
  generalize paT ps = E at kp hT hlen
  have kt := fun (w1 : World) => type_is ty hty w1
  generalize hty9 : tyT ty = Y at kt hT
  obtain ⟨T1, hT1'⟩ : ∃ T1, acc ++ [[], [102, 110, 32], name, [40], E, [41], Y, [32, 123]].flatten ++ [10] = T1 := ⟨_, rfl⟩
  have rT1 : Hidden (T1 ++ (stT txS bo 1 ++ [125, 10]) = T) := by
    show _ = T
    rw [← (show _ = T from hT), ← hT1']
    simp
  have hT1 : Hidden (acc ++ [[], [102, 110, 32], name, [40], E, [41], Y, [32, 123]].flatten ++ [10] = T1) := hT1'
  obtain ⟨T2, hT2'⟩ : ∃ T2, T1 ++ stT txS bo 1 = T2 := ⟨_, rfl⟩
  have rT2 : Hidden (T2 ++ [125, 10] = T) := by
    show _ = T
    rw [← (show _ = T from rT1), ← hT2']
    simp
  have hT2 : Hidden (T1 ++ stT txS bo 1 = T2) := hT2'
  have lT1 := app_le (show _ = T from rT1) hl
  have lT2 := app_le (show _ = T from rT2) hl
  have kl := fun (w1 : World) (f1 : Fr (fun _ => False) (w.alloc (deO 3 false name ty (.slice ao1 ps.length cap1) (.slice ao2 n2 cap2) (.slice ao3 bo.len cap3))) w1) => line_zero [[], [102, 110, 32], name, [40], E, [41], Y, [32, 123]] acc T1 w0 w1 B b (hw.quiet (f0.same f1)) (by simp) hT1 lT1
  have hd0 : Fr (fun _ => False) (w.alloc (deO 3 false name ty (.slice ao1 ps.length cap1) (.slice ao2 n2 cap2) (.slice ao3 bo.len cap3))) (w.alloc (deO 3 false name ty (.slice ao1 ps.length cap1) (.slice ao2 n2 cap2) (.slice ao3 bo.len cap3))).drew := Fr.drew _ _
  obtain ⟨c0, c1, c2, c3, c4, c5, c6⟩ := ex_box hbx
  clear hT hty9 hT1' hT2'
  go_enter Tryz.func38, Tryz.ntmps38
  go_wp2_with fail
  go_region_held3 (fun w' => w'.cell? ⟨w.heap.size, 2, none⟩ = some (ct name) ∧ w'.cell? ⟨w.heap.size, 3, none⟩ = some (ci ty) ∧ w'.cell? ⟨w.heap.size, 4, none⟩ = some (.slice ao1 ps.length cap1)) (first | (refine ⟨by assumption, by assumption, by assumption⟩) | go_keep) (first
    | (go_at_call 80; refine (kt _).mono ?_; rintro e wt ⟨rfl, hwt⟩; have hwt := hwt.symm; subst hwt)
    | (go_at_call 81; refine (kp _ hd0).mono ?_; rintro e wa ⟨rfl, fa⟩; have ga := hd0.same fa; have q2 := ga.cellN c2; have q3 := ga.cellN c3; have q4 := ga.cellN c4)
    | (go_at_call 37; refine (kl wa (hd0.same fa)).mono ?_; rintro e wz ⟨rfl, p2, g2⟩; obtain ⟨e0', e1', e2', e3', e4', e5', e6'⟩ := ex_box (bs_keep g2 ((hd0.same fa).heap hbx (fun f => f)) hne (by decide))))
  all_goals
    have kb := hB 1 rfl ao3 cap3 w0 wz B b T1 T2 hbo ht p2 hT2 lT2
    go_wp2_with fail
    go_at_call 82
    refine kb.mono ?_
    rintro e w3 ⟨rfl, p3, g3⟩
    have kz := line_zero [[125]] T2 T w0 w3 B b p3 (by simp) (by rw [← (show _ = T from rT2)]; simp) hl
    go_wp2_with fail
    go_at_call 37
    refine kz.mono ?_
    rintro e w4 ⟨rfl, p4, g4⟩
    go_wp2_with fail
    go_end0
    exact ⟨rfl, p4⟩
theorem isTy_c {t : Int} (h : isTy t = true) : t = 0 ∨ t = 1 ∨ t = 2 ∨ t = 3 := by
  simp only [isTy, Bool.or_eq_true, beq_iff_eq] at h
  omega
theorem rn_len {x : Bs} (h : rnS x = 0) : x.length ≤ 32 := by
  unfold rnS N.rightS at h
  split at h
  · split at h
    · exact absurd h (by decide)
    · omega
  · exact absurd h (by decide)
theorem decl_w (d : De) (he : errD rnS cnS d = 0) (hO : OkD d) : DeclW d := by
  intro pv ev bv w0 w B b acc T hd ht hw hT hl
  obtain ⟨ao1, cap1, ao2, cap2, ao3, cap3, rfl, rfl, rfl, hp, hx, hb⟩ := hd
  unfold errD at he
  obtain ⟨a1, a2⟩ := Pz.orE_0 he
  obtain ⟨a3, a4⟩ := Pz.orE_0 a2
  obtain ⟨a5, a6⟩ := Pz.orE_0 a4
  obtain ⟨a7, a8⟩ := Pz.orE_0 a6
  obtain ⟨a9, b1⟩ := Pz.orE_0 a8
  obtain ⟨b2, b3⟩ := Pz.orE_0 b1
  have hdd : dD d ≤ 32 := by
    apply Classical.byContradiction
    intro hc
    rw [if_pos (by omega)] at a1
    exact absurd a1 (by decide)
  have hfit := Pz.ifx (c := fitsD d = true) a3 (by decide)
  have h8 : d.params.length ≤ 8 := by
    apply Classical.byContradiction
    intro hc
    rw [if_pos (by omega)] at a7
    exact absurd a7 (by decide)
  have hT : acc ++ deT txS d = T := hT
  obtain ⟨k, ex, name, ty, ps, e, bo⟩ := d
  obtain ⟨o1, o2, o3, o4, o5, o6⟩ := hO
  simp only at *
  unfold fitsD at hfit
  simp only at hfit
  by_cases k1 : k = 1
  · subst k1
    rw [if_pos rfl, Bool.and_eq_true, decide_eq_true_eq] at hfit
    obtain ⟨x, kx, b0, off, aok, capk, rfl, rfl, q1, q2, q3, q4, hk, c0, c1, c2, c3, c4, c5, c6⟩ := one_ex hx o5 b2 hfit.2.1
    cases ex
    · exact decl_1f name ty (isTy_c hfit.1) acc T w0 w B b ht hw ao1 ao3 ps.length bo.len cap1 cap3 x kx b0 off cap2 aok capk q1 q2 q3 q4 hk c0 c1 c2 c3 c4 c5 c6 (by show _ = T; rw [← hT]; simp [deT, exT, txF, txA_one]) hl
    · exact decl_1t name ty (isTy_c hfit.1) acc T w0 w B b ht hw ao1 ao3 ps.length bo.len cap1 cap3 x kx b0 off cap2 aok capk q1 q2 q3 q4 hk c0 c1 c2 c3 c4 c5 c6 (by show _ = T; rw [← hT]; simp [deT, exT, txF, txA_one]) hl
  rw [if_neg k1] at hfit
  by_cases k2 : k = 2
  · subst k2
    rw [if_pos rfl, Bool.and_eq_true, Bool.and_eq_true, decide_eq_true_eq] at hfit
    obtain ⟨x, kx, b0, off, aok, capk, rfl, rfl, q1, q2, q3, q4, hk, c0, c1, c2, c3, c4, c5, c6⟩ := one_ex hx o5 b2 hfit.2.1
    obtain rfl : ex = false := by simpa using hfit.1.1
    exact decl_2f name ty (isTy_c hfit.1.2) acc T w0 w B b ht hw ao1 ao3 ps.length bo.len cap1 cap3 x kx b0 off cap2 aok capk q1 q2 q3 q4 hk c0 c1 c2 c3 c4 c5 c6 (by show _ = T; rw [← hT]; simp [deT, exT, txF, txA_one]) hl
  rw [if_neg k2] at hfit
  by_cases k3 : k = 3
  · subst k3
    rw [if_pos rfl, Bool.and_eq_true, decide_eq_true_eq] at hfit
    have hty : ty = 0 ∨ ty = 1 ∨ ty = 2 ∨ ty = 3 := by
      have := hfit.1
      rw [Bool.or_eq_true] at this
      rcases this with h | h
      · exact Or.inl (by simpa using h)
      · exact isTy_c h
    have hB : BlkW bo 1 := blk_any bo 1 1 (by decide) b3 o6 (by have := (Pz.dD_of hdd).2 rfl; simpa using this)
    have hpa : ∀ p ∈ ps, rnS p.name = 0 ∧ isTy p.type = true := Pz.errP_of ps a9
    cases ex
    · exact decl_3f name ty hty acc T w0 w B b ht hw ao1 ao2 ao3 e.len cap1 cap2 cap3 ps bo hp (fun p hp => isTy_c (hpa p hp).2) (fun p hp => by have := rn_len (hpa p hp).1; omega) h8 hB hb (by show _ = T; rw [← hT]; simp [deT, exT, txF, txA_one]) hl
    · exact decl_3t name ty hty acc T w0 w B b ht hw ao1 ao2 ao3 e.len cap1 cap2 cap3 ps bo hp (fun p hp => isTy_c (hpa p hp).2) (fun p hp => by have := rn_len (hpa p hp).1; omega) h8 hB hb (by show _ = T; rw [← hT]; simp [deT, exT, txF, txA_one]) hl
  rw [if_neg k3] at hfit
  cases hfit
end Go.Proofs.YteijjaabngkbjaaGreatDoor
namespace Go.Proofs.YteijjaabngkbjaaGreatDoor.V
open Go.RowKit Te
set_option linter.unusedSimpArgs false
set_option linter.unusedVariables false
def tyN (t : Int) : Bs := if t = 1 then [105, 110, 116] else if t = 2 then [102, 108, 111, 97, 116] else [98, 111, 111, 108]
theorem tyT_N {t : Int} (h : t = 1 ∨ t = 2 ∨ t = 3) : tyT t = [58, 32] ++ tyN t := by rcases h with rfl | rfl | rfl <;> rfl
set_option maxRecDepth 20000 in
theorem type_r (t : Int) (ht : t = 1 ∨ t = 2 ∨ t = 3) (w : World) : Calls Tryz.prog 42 #[ci t] w fun e w' => e = .returned (ct (tyN t)) ∧ w' = w := by
  rcases ht with rfl | rfl | rfl
  all_goals
    go_enter Tryz.func42, Tryz.ntmps42
    go_wp2
    go_ret
    exact ⟨rfl, rfl⟩
def hdT (d : De) : Bs :=
  if d.kind = 1 then exT d.ex ++ [99, 111, 110, 115, 116, 32] ++ d.name ++ tyT d.type ++ [32, 61, 32] ++ txF txS d.e ++ [59]
  else if d.kind = 2 then [118, 97, 114, 32] ++ d.name ++ tyT d.type ++ [32, 61, 32] ++ txF txS d.e ++ [59]
  else exT d.ex ++ [102, 110, 32] ++ d.name ++ [40] ++ paT d.params ++ [41] ++ tyT d.type ++ [32, 123]
set_option maxRecDepth 20000 in
set_option maxHeartbeats 4000000 in
theorem head_1t (name : Bs) (ty : Int) (hty : ty = 1 ∨ ty = 2 ∨ ty = 3) (T : Bs) (w : World) (ao1 ao3 : Option Addr) (n1 n3 cap1 cap3 : Nat) (x : EH) (kx : Exs) (b0 off cap2 : Nat) (aok : Option Addr) (capk : Nat) (ho : OkE x) (hx : OkX kx) (hs : ShE x kx.len) (hsl : ShL kx)
    (hk : ExL w aok capk kx) (h0 : w.cell? ⟨b0, off, none⟩ = some (ci x.kind)) (h1 : w.cell? ⟨b0, off + 1, none⟩ = some (ci x.op)) (h2 : w.cell? ⟨b0, off + 2, none⟩ = some (ct x.mod)) (h3 : w.cell? ⟨b0, off + 3, none⟩ = some (ct x.name)) (h4 : w.cell? ⟨b0, off + 4, none⟩ = some (ci x.vt)) (h5 : w.cell? ⟨b0, off + 5, none⟩ = some (.int .u64 x.vb)) (h6 : w.cell? ⟨b0, off + 6, none⟩ = some (.slice aok kx.len capk))
    (hT : Hidden ([101, 120, 112, 111, 114, 116, 32] ++ [99, 111, 110, 115, 116, 32] ++ name ++ tyT ty ++ [32, 61, 32] ++ txA txS x kx 1 ++ [59] = T)) (hl : T.length ≤ 140737488355328) :
    Calls Tryz.prog 19 #[.agg #[ci 1, .bool true, ct name, ci ty, .slice ao1 n1 cap1, .slice (some ⟨b0, off, none⟩) 1 cap2, .slice ao3 n3 cap3]] w fun e w' => e = .returned (ct T) ∧ Fr (fun _ => False) w w' := by
  have f0 := Fr.alloc (fun _ => False) w (deO 1 true name ty (.slice ao1 n1 cap1) (.slice (some ⟨b0, off, none⟩) 1 cap2) (.slice ao3 n3 cap3))
  have hbx : Hidden ((w.alloc (deO 1 true name ty (.slice ao1 n1 cap1) (.slice (some ⟨b0, off, none⟩) 1 cap2) (.slice ao3 n3 cap3))).heap[w.heap.size]? = some (deO 1 true name ty (.slice ao1 n1 cap1) (.slice (some ⟨b0, off, none⟩) 1 cap2) (.slice ao3 n3 cap3))) := alloc_new _ _
  have hlen : (txA txS x kx 1).length ≤ 140737488355328 := by
    have := congrArg List.length (show _ = T from hT)
    simp only [List.length_append] at this
    omega
  have ke := fun (w1 : World) (f1 : Fr (fun _ => False) (w.alloc (deO 1 true name ty (.slice ao1 n1 cap1) (.slice (some ⟨b0, off, none⟩) 1 cap2) (.slice ao3 n3 cap3))) w1) => X.at_any x kx 1 aok capk w1 _ ho hx hs hsl (hk.keep (f0.same f1)) rfl (by omega)
  rw [tyT_N hty] at hT
  generalize txA txS x kx 1 = E at ke hT hlen
  have kt := fun (w1 : World) => type_r ty hty w1
  generalize tyN ty = Y at kt hT
  obtain ⟨S1, hS1⟩ : ∃ S : Bs, ([101, 120, 112, 111, 114, 116, 32] : Bs) ++ ([99, 111, 110, 115, 116, 32] : Bs) = S := ⟨_, rfl⟩
  obtain ⟨S2, hS2⟩ : ∃ S : Bs, (S1 : Bs) ++ (name : Bs) = S := ⟨_, rfl⟩
  obtain ⟨S3, hS3⟩ : ∃ S : Bs, (S2 : Bs) ++ ([58, 32] : Bs) = S := ⟨_, rfl⟩
  obtain ⟨S4, hS4⟩ : ∃ S : Bs, (S3 : Bs) ++ (Y : Bs) = S := ⟨_, rfl⟩
  obtain ⟨S5, hS5⟩ : ∃ S : Bs, (S4 : Bs) ++ ([32, 61, 32] : Bs) = S := ⟨_, rfl⟩
  obtain ⟨S6, hS6⟩ : ∃ S : Bs, (S5 : Bs) ++ (E : Bs) = S := ⟨_, rfl⟩
  obtain ⟨S7, hS7⟩ : ∃ S : Bs, (S6 : Bs) ++ ([59] : Bs) = S := ⟨_, rfl⟩
  have lenS : S7.length ≤ 140737488355328 := by rw [← hS7, ← hS6, ← hS5, ← hS4, ← hS3, ← hS2, ← hS1]; have h9 := hl; rw [← (show _ = T from hT)] at h9; simp only [List.length_append] at h9 ⊢; omega
  have cS1 := fun w => X.catv [101, 120, 112, 111, 114, 116, 32] [99, 111, 110, 115, 116, 32] S1 hS1 (by have := lenS; rw [← hS7, ← hS6, ← hS5, ← hS4, ← hS3, ← hS2] at this; simp only [List.length_append] at this; omega) w
  have cS2 := fun w => X.catv S1 name S2 hS2 (by have := lenS; rw [← hS7, ← hS6, ← hS5, ← hS4, ← hS3] at this; simp only [List.length_append] at this; omega) w
  have cS3 := fun w => X.catv S2 [58, 32] S3 hS3 (by have := lenS; rw [← hS7, ← hS6, ← hS5, ← hS4] at this; simp only [List.length_append] at this; omega) w
  have cS4 := fun w => X.catv S3 Y S4 hS4 (by have := lenS; rw [← hS7, ← hS6, ← hS5] at this; simp only [List.length_append] at this; omega) w
  have cS5 := fun w => X.catv S4 [32, 61, 32] S5 hS5 (by have := lenS; rw [← hS7, ← hS6] at this; simp only [List.length_append] at this; omega) w
  have cS6 := fun w => X.catv S5 E S6 hS6 (by have := lenS; rw [← hS7] at this; simp only [List.length_append] at this; omega) w
  have cS7 := fun w => X.catv S6 [59] S7 hS7 (by have := lenS; omega) w
  have HS1 : Hidden (_ = S1) := hS1
  have HS2 : Hidden (_ = S2) := hS2
  have HS3 : Hidden (_ = S3) := hS3
  have HS4 : Hidden (_ = S4) := hS4
  have HS5 : Hidden (_ = S5) := hS5
  have HS6 : Hidden (_ = S6) := hS6
  have HS7 : Hidden (_ = S7) := hS7
  clear hS1 hS2 hS3 hS4 hS5 hS6 hS7 lenS
  have hST : Hidden (S7 = T) := by show _ = T; rw [← (show _ = S7 from HS7), ← (show _ = S6 from HS6), ← (show _ = S5 from HS5), ← (show _ = S4 from HS4), ← (show _ = S3 from HS3), ← (show _ = S2 from HS2), ← (show _ = S1 from HS1), ← (show _ = T from hT)]; simp
  have hd0 : Fr (fun _ => False) (w.alloc (deO 1 true name ty (.slice ao1 n1 cap1) (.slice (some ⟨b0, off, none⟩) 1 cap2) (.slice ao3 n3 cap3))) (w.alloc (deO 1 true name ty (.slice ao1 n1 cap1) (.slice (some ⟨b0, off, none⟩) 1 cap2) (.slice ao3 n3 cap3))).drew := Fr.drew _ _
  obtain ⟨c0, c1, c2, c3, c4, c5, c6⟩ := ex_box hbx
  have d0 := f0.cellN h0
  have d1 := f0.cellN h1
  have d2 := f0.cellN h2
  have d3 := f0.cellN h3
  have d4 := f0.cellN h4
  have d5 := f0.cellN h5
  have d6 := f0.cellN h6
  clear hT
  go_enter Tryz.func19, Tryz.ntmps19
  go_wp2_with fail
  go_region_held3 (fun w' => w'.cell? ⟨w.heap.size, 2, none⟩ = some (ct name) ∧ w'.cell? ⟨w.heap.size, 3, none⟩ = some (ci ty) ∧ w'.cell? ⟨w.heap.size, 5, none⟩ = some (.slice (some ⟨b0, off, none⟩) 1 cap2) ∧ w'.cell? ⟨b0, off, none⟩ = some (ci x.kind) ∧ w'.cell? ⟨b0, off + 1, none⟩ = some (ci x.op) ∧ w'.cell? ⟨b0, off + 2, none⟩ = some (ct x.mod) ∧ w'.cell? ⟨b0, off + 3, none⟩ = some (ct x.name) ∧ w'.cell? ⟨b0, off + 4, none⟩ = some (ci x.vt) ∧ w'.cell? ⟨b0, off + 5, none⟩ = some (.int .u64 x.vb) ∧ w'.cell? ⟨b0, off + 6, none⟩ = some (.slice aok kx.len capk)) (first | (refine ⟨by assumption, by assumption, by assumption, by assumption, by assumption, by assumption, by assumption, by assumption, by assumption, by assumption⟩) | go_keep) (first
    | (go_at_call 42; refine (kt _).mono ?_; rintro e wt ⟨rfl, hwt⟩; have hwt := hwt.symm; subst hwt)
    | (go_at_call 43; refine (ke _ hd0).mono ?_; rintro e wa ⟨rfl, fa⟩; have ga := hd0.same fa; have q2 := ga.cellN c2; have q3 := ga.cellN c3; have q5 := ga.cellN c5; have y0 := ga.cellN d0; have y1 := ga.cellN d1; have y2 := ga.cellN d2; have y3 := ga.cellN d3; have y4 := ga.cellN d4; have y5 := ga.cellN d5; have y6 := ga.cellN d6))
  all_goals
    go_wp2_with fail
    go_ret
    refine ⟨?_, f0.same (hd0.same fa)⟩
    rw [← (show _ = T from hST)]
    rfl
set_option maxRecDepth 20000 in
set_option maxHeartbeats 4000000 in
theorem head_1f (name : Bs) (ty : Int) (hty : ty = 1 ∨ ty = 2 ∨ ty = 3) (T : Bs) (w : World) (ao1 ao3 : Option Addr) (n1 n3 cap1 cap3 : Nat) (x : EH) (kx : Exs) (b0 off cap2 : Nat) (aok : Option Addr) (capk : Nat) (ho : OkE x) (hx : OkX kx) (hs : ShE x kx.len) (hsl : ShL kx)
    (hk : ExL w aok capk kx) (h0 : w.cell? ⟨b0, off, none⟩ = some (ci x.kind)) (h1 : w.cell? ⟨b0, off + 1, none⟩ = some (ci x.op)) (h2 : w.cell? ⟨b0, off + 2, none⟩ = some (ct x.mod)) (h3 : w.cell? ⟨b0, off + 3, none⟩ = some (ct x.name)) (h4 : w.cell? ⟨b0, off + 4, none⟩ = some (ci x.vt)) (h5 : w.cell? ⟨b0, off + 5, none⟩ = some (.int .u64 x.vb)) (h6 : w.cell? ⟨b0, off + 6, none⟩ = some (.slice aok kx.len capk))
    (hT : Hidden ([] ++ [99, 111, 110, 115, 116, 32] ++ name ++ tyT ty ++ [32, 61, 32] ++ txA txS x kx 1 ++ [59] = T)) (hl : T.length ≤ 140737488355328) :
    Calls Tryz.prog 19 #[.agg #[ci 1, .bool false, ct name, ci ty, .slice ao1 n1 cap1, .slice (some ⟨b0, off, none⟩) 1 cap2, .slice ao3 n3 cap3]] w fun e w' => e = .returned (ct T) ∧ Fr (fun _ => False) w w' := by
  have f0 := Fr.alloc (fun _ => False) w (deO 1 false name ty (.slice ao1 n1 cap1) (.slice (some ⟨b0, off, none⟩) 1 cap2) (.slice ao3 n3 cap3))
  have hbx : Hidden ((w.alloc (deO 1 false name ty (.slice ao1 n1 cap1) (.slice (some ⟨b0, off, none⟩) 1 cap2) (.slice ao3 n3 cap3))).heap[w.heap.size]? = some (deO 1 false name ty (.slice ao1 n1 cap1) (.slice (some ⟨b0, off, none⟩) 1 cap2) (.slice ao3 n3 cap3))) := alloc_new _ _
  have hlen : (txA txS x kx 1).length ≤ 140737488355328 := by
    have := congrArg List.length (show _ = T from hT)
    simp only [List.length_append] at this
    omega
  have ke := fun (w1 : World) (f1 : Fr (fun _ => False) (w.alloc (deO 1 false name ty (.slice ao1 n1 cap1) (.slice (some ⟨b0, off, none⟩) 1 cap2) (.slice ao3 n3 cap3))) w1) => X.at_any x kx 1 aok capk w1 _ ho hx hs hsl (hk.keep (f0.same f1)) rfl (by omega)
  rw [tyT_N hty] at hT
  generalize txA txS x kx 1 = E at ke hT hlen
  have kt := fun (w1 : World) => type_r ty hty w1
  generalize tyN ty = Y at kt hT
  obtain ⟨S1, hS1⟩ : ∃ S : Bs, ([] : Bs) ++ ([99, 111, 110, 115, 116, 32] : Bs) = S := ⟨_, rfl⟩
  obtain ⟨S2, hS2⟩ : ∃ S : Bs, (S1 : Bs) ++ (name : Bs) = S := ⟨_, rfl⟩
  obtain ⟨S3, hS3⟩ : ∃ S : Bs, (S2 : Bs) ++ ([58, 32] : Bs) = S := ⟨_, rfl⟩
  obtain ⟨S4, hS4⟩ : ∃ S : Bs, (S3 : Bs) ++ (Y : Bs) = S := ⟨_, rfl⟩
  obtain ⟨S5, hS5⟩ : ∃ S : Bs, (S4 : Bs) ++ ([32, 61, 32] : Bs) = S := ⟨_, rfl⟩
  obtain ⟨S6, hS6⟩ : ∃ S : Bs, (S5 : Bs) ++ (E : Bs) = S := ⟨_, rfl⟩
  obtain ⟨S7, hS7⟩ : ∃ S : Bs, (S6 : Bs) ++ ([59] : Bs) = S := ⟨_, rfl⟩
  have lenS : S7.length ≤ 140737488355328 := by rw [← hS7, ← hS6, ← hS5, ← hS4, ← hS3, ← hS2, ← hS1]; have h9 := hl; rw [← (show _ = T from hT)] at h9; simp only [List.length_append] at h9 ⊢; omega
  have cS1 := fun w => X.catv [] [99, 111, 110, 115, 116, 32] S1 hS1 (by have := lenS; rw [← hS7, ← hS6, ← hS5, ← hS4, ← hS3, ← hS2] at this; simp only [List.length_append] at this; omega) w
  have cS2 := fun w => X.catv S1 name S2 hS2 (by have := lenS; rw [← hS7, ← hS6, ← hS5, ← hS4, ← hS3] at this; simp only [List.length_append] at this; omega) w
  have cS3 := fun w => X.catv S2 [58, 32] S3 hS3 (by have := lenS; rw [← hS7, ← hS6, ← hS5, ← hS4] at this; simp only [List.length_append] at this; omega) w
  have cS4 := fun w => X.catv S3 Y S4 hS4 (by have := lenS; rw [← hS7, ← hS6, ← hS5] at this; simp only [List.length_append] at this; omega) w
  have cS5 := fun w => X.catv S4 [32, 61, 32] S5 hS5 (by have := lenS; rw [← hS7, ← hS6] at this; simp only [List.length_append] at this; omega) w
  have cS6 := fun w => X.catv S5 E S6 hS6 (by have := lenS; rw [← hS7] at this; simp only [List.length_append] at this; omega) w
  have cS7 := fun w => X.catv S6 [59] S7 hS7 (by have := lenS; omega) w
  have HS1 : Hidden (_ = S1) := hS1
  have HS2 : Hidden (_ = S2) := hS2
  have HS3 : Hidden (_ = S3) := hS3
  have HS4 : Hidden (_ = S4) := hS4
  have HS5 : Hidden (_ = S5) := hS5
  have HS6 : Hidden (_ = S6) := hS6
  have HS7 : Hidden (_ = S7) := hS7
  clear hS1 hS2 hS3 hS4 hS5 hS6 hS7 lenS
  have hST : Hidden (S7 = T) := by show _ = T; rw [← (show _ = S7 from HS7), ← (show _ = S6 from HS6), ← (show _ = S5 from HS5), ← (show _ = S4 from HS4), ← (show _ = S3 from HS3), ← (show _ = S2 from HS2), ← (show _ = S1 from HS1), ← (show _ = T from hT)]; simp
  have hd0 : Fr (fun _ => False) (w.alloc (deO 1 false name ty (.slice ao1 n1 cap1) (.slice (some ⟨b0, off, none⟩) 1 cap2) (.slice ao3 n3 cap3))) (w.alloc (deO 1 false name ty (.slice ao1 n1 cap1) (.slice (some ⟨b0, off, none⟩) 1 cap2) (.slice ao3 n3 cap3))).drew := Fr.drew _ _
  obtain ⟨c0, c1, c2, c3, c4, c5, c6⟩ := ex_box hbx
  have d0 := f0.cellN h0
  have d1 := f0.cellN h1
  have d2 := f0.cellN h2
  have d3 := f0.cellN h3
  have d4 := f0.cellN h4
  have d5 := f0.cellN h5
  have d6 := f0.cellN h6
  clear hT
  go_enter Tryz.func19, Tryz.ntmps19
  go_wp2_with fail
  go_region_held3 (fun w' => w'.cell? ⟨w.heap.size, 2, none⟩ = some (ct name) ∧ w'.cell? ⟨w.heap.size, 3, none⟩ = some (ci ty) ∧ w'.cell? ⟨w.heap.size, 5, none⟩ = some (.slice (some ⟨b0, off, none⟩) 1 cap2) ∧ w'.cell? ⟨b0, off, none⟩ = some (ci x.kind) ∧ w'.cell? ⟨b0, off + 1, none⟩ = some (ci x.op) ∧ w'.cell? ⟨b0, off + 2, none⟩ = some (ct x.mod) ∧ w'.cell? ⟨b0, off + 3, none⟩ = some (ct x.name) ∧ w'.cell? ⟨b0, off + 4, none⟩ = some (ci x.vt) ∧ w'.cell? ⟨b0, off + 5, none⟩ = some (.int .u64 x.vb) ∧ w'.cell? ⟨b0, off + 6, none⟩ = some (.slice aok kx.len capk)) (first | (refine ⟨by assumption, by assumption, by assumption, by assumption, by assumption, by assumption, by assumption, by assumption, by assumption, by assumption⟩) | go_keep) (first
    | (go_at_call 42; refine (kt _).mono ?_; rintro e wt ⟨rfl, hwt⟩; have hwt := hwt.symm; subst hwt)
    | (go_at_call 43; refine (ke _ hd0).mono ?_; rintro e wa ⟨rfl, fa⟩; have ga := hd0.same fa; have q2 := ga.cellN c2; have q3 := ga.cellN c3; have q5 := ga.cellN c5; have y0 := ga.cellN d0; have y1 := ga.cellN d1; have y2 := ga.cellN d2; have y3 := ga.cellN d3; have y4 := ga.cellN d4; have y5 := ga.cellN d5; have y6 := ga.cellN d6))
  all_goals
    go_wp2_with fail
    go_ret
    refine ⟨?_, f0.same (hd0.same fa)⟩
    rw [← (show _ = T from hST)]
    rfl
set_option maxRecDepth 20000 in
set_option maxHeartbeats 4000000 in
theorem head_2f (name : Bs) (ty : Int) (hty : ty = 1 ∨ ty = 2 ∨ ty = 3) (T : Bs) (w : World) (ao1 ao3 : Option Addr) (n1 n3 cap1 cap3 : Nat) (x : EH) (kx : Exs) (b0 off cap2 : Nat) (aok : Option Addr) (capk : Nat) (ho : OkE x) (hx : OkX kx) (hs : ShE x kx.len) (hsl : ShL kx)
    (hk : ExL w aok capk kx) (h0 : w.cell? ⟨b0, off, none⟩ = some (ci x.kind)) (h1 : w.cell? ⟨b0, off + 1, none⟩ = some (ci x.op)) (h2 : w.cell? ⟨b0, off + 2, none⟩ = some (ct x.mod)) (h3 : w.cell? ⟨b0, off + 3, none⟩ = some (ct x.name)) (h4 : w.cell? ⟨b0, off + 4, none⟩ = some (ci x.vt)) (h5 : w.cell? ⟨b0, off + 5, none⟩ = some (.int .u64 x.vb)) (h6 : w.cell? ⟨b0, off + 6, none⟩ = some (.slice aok kx.len capk))
    (hT : Hidden ([] ++ [118, 97, 114, 32] ++ name ++ tyT ty ++ [32, 61, 32] ++ txA txS x kx 1 ++ [59] = T)) (hl : T.length ≤ 140737488355328) :
    Calls Tryz.prog 19 #[.agg #[ci 2, .bool false, ct name, ci ty, .slice ao1 n1 cap1, .slice (some ⟨b0, off, none⟩) 1 cap2, .slice ao3 n3 cap3]] w fun e w' => e = .returned (ct T) ∧ Fr (fun _ => False) w w' := by
  have f0 := Fr.alloc (fun _ => False) w (deO 2 false name ty (.slice ao1 n1 cap1) (.slice (some ⟨b0, off, none⟩) 1 cap2) (.slice ao3 n3 cap3))
  have hbx : Hidden ((w.alloc (deO 2 false name ty (.slice ao1 n1 cap1) (.slice (some ⟨b0, off, none⟩) 1 cap2) (.slice ao3 n3 cap3))).heap[w.heap.size]? = some (deO 2 false name ty (.slice ao1 n1 cap1) (.slice (some ⟨b0, off, none⟩) 1 cap2) (.slice ao3 n3 cap3))) := alloc_new _ _
  have hlen : (txA txS x kx 1).length ≤ 140737488355328 := by
    have := congrArg List.length (show _ = T from hT)
    simp only [List.length_append] at this
    omega
  have ke := fun (w1 : World) (f1 : Fr (fun _ => False) (w.alloc (deO 2 false name ty (.slice ao1 n1 cap1) (.slice (some ⟨b0, off, none⟩) 1 cap2) (.slice ao3 n3 cap3))) w1) => X.at_any x kx 1 aok capk w1 _ ho hx hs hsl (hk.keep (f0.same f1)) rfl (by omega)
  rw [tyT_N hty] at hT
  generalize txA txS x kx 1 = E at ke hT hlen
  have kt := fun (w1 : World) => type_r ty hty w1
  generalize tyN ty = Y at kt hT
  obtain ⟨S1, hS1⟩ : ∃ S : Bs, ([] : Bs) ++ ([118, 97, 114, 32] : Bs) = S := ⟨_, rfl⟩
  obtain ⟨S2, hS2⟩ : ∃ S : Bs, (S1 : Bs) ++ (name : Bs) = S := ⟨_, rfl⟩
  obtain ⟨S3, hS3⟩ : ∃ S : Bs, (S2 : Bs) ++ ([58, 32] : Bs) = S := ⟨_, rfl⟩
  obtain ⟨S4, hS4⟩ : ∃ S : Bs, (S3 : Bs) ++ (Y : Bs) = S := ⟨_, rfl⟩
  obtain ⟨S5, hS5⟩ : ∃ S : Bs, (S4 : Bs) ++ ([32, 61, 32] : Bs) = S := ⟨_, rfl⟩
  obtain ⟨S6, hS6⟩ : ∃ S : Bs, (S5 : Bs) ++ (E : Bs) = S := ⟨_, rfl⟩
  obtain ⟨S7, hS7⟩ : ∃ S : Bs, (S6 : Bs) ++ ([59] : Bs) = S := ⟨_, rfl⟩
  have lenS : S7.length ≤ 140737488355328 := by rw [← hS7, ← hS6, ← hS5, ← hS4, ← hS3, ← hS2, ← hS1]; have h9 := hl; rw [← (show _ = T from hT)] at h9; simp only [List.length_append] at h9 ⊢; omega
  have cS1 := fun w => X.catv [] [118, 97, 114, 32] S1 hS1 (by have := lenS; rw [← hS7, ← hS6, ← hS5, ← hS4, ← hS3, ← hS2] at this; simp only [List.length_append] at this; omega) w
  have cS2 := fun w => X.catv S1 name S2 hS2 (by have := lenS; rw [← hS7, ← hS6, ← hS5, ← hS4, ← hS3] at this; simp only [List.length_append] at this; omega) w
  have cS3 := fun w => X.catv S2 [58, 32] S3 hS3 (by have := lenS; rw [← hS7, ← hS6, ← hS5, ← hS4] at this; simp only [List.length_append] at this; omega) w
  have cS4 := fun w => X.catv S3 Y S4 hS4 (by have := lenS; rw [← hS7, ← hS6, ← hS5] at this; simp only [List.length_append] at this; omega) w
  have cS5 := fun w => X.catv S4 [32, 61, 32] S5 hS5 (by have := lenS; rw [← hS7, ← hS6] at this; simp only [List.length_append] at this; omega) w
  have cS6 := fun w => X.catv S5 E S6 hS6 (by have := lenS; rw [← hS7] at this; simp only [List.length_append] at this; omega) w
  have cS7 := fun w => X.catv S6 [59] S7 hS7 (by have := lenS; omega) w
  have HS1 : Hidden (_ = S1) := hS1
  have HS2 : Hidden (_ = S2) := hS2
  have HS3 : Hidden (_ = S3) := hS3
  have HS4 : Hidden (_ = S4) := hS4
  have HS5 : Hidden (_ = S5) := hS5
  have HS6 : Hidden (_ = S6) := hS6
  have HS7 : Hidden (_ = S7) := hS7
  clear hS1 hS2 hS3 hS4 hS5 hS6 hS7 lenS
  have hST : Hidden (S7 = T) := by show _ = T; rw [← (show _ = S7 from HS7), ← (show _ = S6 from HS6), ← (show _ = S5 from HS5), ← (show _ = S4 from HS4), ← (show _ = S3 from HS3), ← (show _ = S2 from HS2), ← (show _ = S1 from HS1), ← (show _ = T from hT)]; simp
  have hd0 : Fr (fun _ => False) (w.alloc (deO 2 false name ty (.slice ao1 n1 cap1) (.slice (some ⟨b0, off, none⟩) 1 cap2) (.slice ao3 n3 cap3))) (w.alloc (deO 2 false name ty (.slice ao1 n1 cap1) (.slice (some ⟨b0, off, none⟩) 1 cap2) (.slice ao3 n3 cap3))).drew := Fr.drew _ _
  obtain ⟨c0, c1, c2, c3, c4, c5, c6⟩ := ex_box hbx
  have d0 := f0.cellN h0
  have d1 := f0.cellN h1
  have d2 := f0.cellN h2
  have d3 := f0.cellN h3
  have d4 := f0.cellN h4
  have d5 := f0.cellN h5
  have d6 := f0.cellN h6
  clear hT
  go_enter Tryz.func19, Tryz.ntmps19
  go_wp2_with fail
  go_region_held3 (fun w' => w'.cell? ⟨w.heap.size, 2, none⟩ = some (ct name) ∧ w'.cell? ⟨w.heap.size, 3, none⟩ = some (ci ty) ∧ w'.cell? ⟨w.heap.size, 5, none⟩ = some (.slice (some ⟨b0, off, none⟩) 1 cap2) ∧ w'.cell? ⟨b0, off, none⟩ = some (ci x.kind) ∧ w'.cell? ⟨b0, off + 1, none⟩ = some (ci x.op) ∧ w'.cell? ⟨b0, off + 2, none⟩ = some (ct x.mod) ∧ w'.cell? ⟨b0, off + 3, none⟩ = some (ct x.name) ∧ w'.cell? ⟨b0, off + 4, none⟩ = some (ci x.vt) ∧ w'.cell? ⟨b0, off + 5, none⟩ = some (.int .u64 x.vb) ∧ w'.cell? ⟨b0, off + 6, none⟩ = some (.slice aok kx.len capk)) (first | (refine ⟨by assumption, by assumption, by assumption, by assumption, by assumption, by assumption, by assumption, by assumption, by assumption, by assumption⟩) | go_keep) (first
    | (go_at_call 42; refine (kt _).mono ?_; rintro e wt ⟨rfl, hwt⟩; have hwt := hwt.symm; subst hwt)
    | (go_at_call 43; refine (ke _ hd0).mono ?_; rintro e wa ⟨rfl, fa⟩; have ga := hd0.same fa; have q2 := ga.cellN c2; have q3 := ga.cellN c3; have q5 := ga.cellN c5; have y0 := ga.cellN d0; have y1 := ga.cellN d1; have y2 := ga.cellN d2; have y3 := ga.cellN d3; have y4 := ga.cellN d4; have y5 := ga.cellN d5; have y6 := ga.cellN d6))
  all_goals
    go_wp2_with fail
    go_ret
    refine ⟨?_, f0.same (hd0.same fa)⟩
    rw [← (show _ = T from hST)]
    rfl
end Go.Proofs.YteijjaabngkbjaaGreatDoor.V
