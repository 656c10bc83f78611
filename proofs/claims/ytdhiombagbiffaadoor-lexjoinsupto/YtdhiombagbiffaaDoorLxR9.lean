/- Tokens of the program, as the document's; and back. -/
import Derived.Test.YtdhiombagbiffaaDoorLxR8
import Derived.Deep.RegionHeld3
namespace Go.Proofs.YtdhiombagbiffaaDoor
open Go.RowKit Lx
set_option linter.unusedSimpArgs false
set_option linter.unusedVariables false

/-- append of one token, as a step of a region whose order is drawn. -/
theorem step_tok {w : World} {ops : Array Oper} {o : Oper} {a : Act} {K : Act → World → Prop} {Q : Exit → Act → World → Prop} {E : Prop} (hgd : o.guard = none) (s x : Operand) (ty e : TypeId)
    (hty : Tryd.prog.underlying ty = some (.slice e)) (hinfo : (Tryd.prog.info? e).map (fun i => (i.zero, i.size, i.bytes)) = some (some (.agg #[.int .i64 0, .string ⟨#[]⟩, .int .i64 0, .int .u64 0, .int .i64 0]), 5, 48))
    (ho : o.op = .call { callee := .builtin .append, args := #[s, x], argTypes := #[ty, ty] }) (B : Nat) (v : Value) (ts : List Tok) (t : Tok) (g c : Nat)
    (hs : a.eval s = v) (hr : Tr w B e v ts) (hx : a.eval x = .slice (some ⟨g, 0, none⟩) 1 c) (hc : ∀ (j : Nat) (u : Value), (tokC t)[j]? = some u → w.cell? ⟨g, j, none⟩ = some u)
    (hb : ((ts.length + 1) + (ts.length + 1) / 4 + 192) * 48 ≤ 281474976710656) (hB : B ≤ w.heap.size)
    (h : ∀ v' w', Tr w' B e v' (ts ++ [t]) → Fr (fun k => v.ownBlock = some k) w w' → K (a.put o.dst v') w') : if Region.wanted o (yielded ops a.tmps) = true then Oper.wp Tryd.prog o a w K Q else E := by
  have hw : Region.wanted o (yielded ops a.tmps) = true := by simp [Region.wanted, hgd]
  rw [if_pos hw]
  cases hi : Tryd.prog.info? e with
  | none => rw [hi] at hinfo; cases hinfo
  | some i =>
    rw [hi] at hinfo
    simp only [Option.map_some, Option.some.injEq, Prod.mk.injEq] at hinfo
    refine wp_append_own_wide w s x ty ho B e i _ 5 48 hty hi hinfo.1 hinfo.2.1 hinfo.2.2 rfl (by decide) v ts.length (ts.flatMap tokC) hs hr ⟨g, 0, none⟩ 1 c (tokC t) hx rfl ?_ (one_all t) (by simp only [maxLen]; omega) hb hB ?_
    · intro j u hu
      have := hc j u hu
      cases j <;> simpa [Addr.add] using this
    · intro v' w' h2 h3 _
      refine h v' w' ?_ ((Fr.grown h3).mono (fun k _ hk => hk.symm))
      show w'.ownsRow B e 5 v' (ts ++ [t]).length ((ts ++ [t]).flatMap tokC)
      rw [List.length_append, List.flatMap_append]
      simpa using h2
theorem own_same {ao : Option Addr} {n m c d g : Nat} (h : (Value.slice ao n c).ownBlock = some g) : (Value.slice ao m d).ownBlock = some g := by
  cases ao with
  | none => simp [Value.ownBlock] at h
  | some a => simpa [Value.ownBlock] using h
theorem take_tok {ts : List Tok} {i : Nat} {t : Tok} (h : ts[i]? = some t) : ts.take (i + 1) = ts.take i ++ [t] := by
  rw [List.take_add_one, h]
  rfl
set_option maxRecDepth 20000 in
set_option maxHeartbeats 2000000 in
theorem tokens_walk (v : Value) (ts : List Tok) (hn : ts.length ≤ 1048576) (w : World) (hv : Tk w v ts) :
    Calls Tryd.prog 12 #[v] w fun e w' => ∃ v', e = .returned v' ∧ Tr w' w.heap.size 35 v' ts ∧ Fr (fun _ => False) w w' := by
  have hvH : Hidden (Tk w v ts) := hv
  obtain ⟨ao, cap, rfl, hcap, hcm, _⟩ := hv
  go_enter Tryd.func12, Tryd.ntmps12
  go_wp2_with fail
  go_loopg [3, 4] ts.length (fun k lv iv wr => ∃ (i : Nat), iv = .int .i64 (i : Int) ∧ i ≤ ts.length ∧ Tr wr w.heap.size 35 lv (ts.take i) ∧ k = ts.length - i ∧ Fr (fun _ => False) w wr)
  case atStart => exact ⟨0, rfl, by omega, Tr.nil _ _ _, rfl, Fr.refl _ _⟩
  case round =>
    obtain ⟨i, rfl, hi, hrow, hgk, hfr⟩ := hrel
    have hgkH : Hidden (gk = ts.length - i) := hgk
    clear hgk
    obtain ⟨ao2, cap2, rfl⟩ := hrow.len
    have hrowH : Hidden (Tr wr w.heap.size 35 (.slice ao2 (ts.take i).length cap2) (ts.take i)) := hrow
    have htl : (ts.take i).length = i := by rw [List.length_take]; omega
    have hfz := hfr.size
    clear hrow
    rw [htl]
    by_cases hil : i < ts.length
    · obtain ⟨t, ht⟩ : ∃ t, ts[i]? = some t := ⟨ts[i], List.getElem?_eq_getElem hil⟩
      obtain ⟨_, _, hv1, _, _, h3⟩ := (show Tk w _ ts from hvH).keepN hfr
      simp only [Value.slice.injEq, true_and] at hv1
      obtain ⟨rfl, rfl⟩ := hv1
      rcases h3 with h3 | ⟨g, off, rfl, hc⟩
      · rw [h3] at ht; simp at ht
      have hcc := hc i t ht
      have htH : Hidden (ts[i]? = some t) := ht
      obtain ⟨k, x, ty, b, p⟩ := t
      have d0 : wr.cell? ⟨g, off + i * 5, none⟩ = some (.int .i64 (k : Int)) := hcc 0 _ rfl
      have d1 : wr.cell? ⟨g, off + i * 5 + 1, none⟩ = some (.string ⟨x.toArray⟩) := hcc 1 _ rfl
      have d2 : wr.cell? ⟨g, off + i * 5 + 2, none⟩ = some (.int .i64 ty) := hcc 2 _ rfl
      have d3 : wr.cell? ⟨g, off + i * 5 + 3, none⟩ = some (.int .u64 b) := hcc 3 _ rfl
      have d4 : wr.cell? ⟨g, off + i * 5 + 4, none⟩ = some (.int .i64 (p : Int)) := hcc 4 _ rfl
      have hgw : g < w.heap.size := by
        obtain ⟨_, _, hv2, _, _, h4⟩ := (show Tk w _ ts from hvH)
        simp only [Value.slice.injEq, true_and] at hv2
        rcases h4 with h4 | ⟨g', off', hgo, hc'⟩
        · rw [h4] at ht; simp at ht
        · rw [hgo] at hv2
          simp only [Option.some.injEq, Addr.mk.injEq, and_true] at hv2
          obtain ⟨⟨rfl, rfl⟩, _⟩ := hv2
          exact World.block_lt_of_cell? w _ (hc' i _ ht 0 _ rfl)
      have hgn : ∀ cp, ¬ (Value.slice ao2 i cp).ownBlock = some g := fun cp h => by
        have h1 := (show Tr wr w.heap.size 35 (.slice ao2 (ts.take i).length cap2) (ts.take i) from hrowH).low g (own_same h)
        omega
      clear hc hcc ht
      go_wp2_with fail
      go_region_held3 (fun w' => w'.cell? ⟨g, off + i * 5, none⟩ = some (.int .i64 (k : Int)) ∧ w'.cell? ⟨g, off + i * 5 + 1, none⟩ = some (.string ⟨x.toArray⟩) ∧ w'.cell? ⟨g, off + i * 5 + 2, none⟩ = some (.int .i64 ty) ∧ w'.cell? ⟨g, off + i * 5 + 3, none⟩ = some (.int .u64 b) ∧ w'.cell? ⟨g, off + i * 5 + 4, none⟩ = some (.int .i64 (p : Int))) (go_keep) (first
        | (refine step_tok rfl _ _ 26 35 Tryd.underlying26 info_rtok3 rfl w.heap.size (.slice ao2 i cap2) (ts.take i) ⟨k, x, ty, b, p⟩ wr.heap.size 1 rfl ?c0 rfl ?c1 ?c2 ?c3 ?_
           case c0 => exact ((show Tr wr w.heap.size 35 (.slice ao2 i cap2) (ts.take i) by have h := hrowH; rw [htl] at h; exact h).keepN (Fr.alloc _ _ _)).keepN (Fr.drew _ _)
           case c1 => exact fun i u hu => (cell_of_row (wr.alloc _) _ i _ _ _ (alloc_new _ _)).trans (tok_arr ⟨k, x, ty, b, p⟩ i u hu)
           case c2 => rw [htl]; omega
           case c3 => simp; omega
           intro v2 W2 hrow2 f2
           have kp : ∀ (m : Nat) (u : Value), wr.cell? ⟨g, m, none⟩ = some u → W2.cell? ⟨g, m, none⟩ = some u := fun m u hu => f2.cell (((Fr.alloc (fun _ => False) wr _).same (Fr.drew _ _)).cellN hu) (hgn _)
           have q0 := kp _ _ d0
           have q1 := kp _ _ d1
           have q2 := kp _ _ d2
           have q3 := kp _ _ d3
           have q4 := kp _ _ d4
           clear kp))
      go_wp2_with fail
      go_roundg (ts.length - (i + 1))
      case measure =>
        have : gk = ts.length - i := hgkH
        omega
      case rel =>
        refine ⟨i + 1, by go_num, by omega, by rw [take_tok htH]; exact hrow2, rfl, ?_⟩
        refine ((hfr.same (Fr.alloc _ _ _)).same (Fr.drew _ _)).over f2 (fun k hk => ?_)
        exact (show Tr wr w.heap.size 35 (.slice ao2 (ts.take i).length cap2) (ts.take i) from hrowH).low k (own_same hk)
    · obtain rfl : i = ts.length := by omega
      have hro := hrowH
      rw [Hidden, htl, List.take_length] at hro
      go_wp2_with fail
      go_ret
      exact ⟨_, rfl, hro, hfr⟩
set_option maxRecDepth 20000 in
set_option maxHeartbeats 2000000 in
theorem own_walk (v : Value) (ts : List Tok) (hn : ts.length ≤ 1048576) (w : World) (hv : Tk w v ts) :
    Calls Tryd.prog 14 #[v] w fun e w' => ∃ v', e = .returned v' ∧ Tr w' w.heap.size 45 v' ts ∧ Fr (fun _ => False) w w' := by
  have hvH : Hidden (Tk w v ts) := hv
  obtain ⟨ao, cap, rfl, hcap, hcm, _⟩ := hv
  go_enter Tryd.func14, Tryd.ntmps14
  go_wp2_with fail
  go_loopg [3, 4] ts.length (fun k lv iv wr => ∃ (i : Nat), iv = .int .i64 (i : Int) ∧ i ≤ ts.length ∧ Tr wr w.heap.size 45 lv (ts.take i) ∧ k = ts.length - i ∧ Fr (fun _ => False) w wr)
  case atStart => exact ⟨0, rfl, by omega, Tr.nil _ _ _, rfl, Fr.refl _ _⟩
  case round =>
    obtain ⟨i, rfl, hi, hrow, hgk, hfr⟩ := hrel
    have hgkH : Hidden (gk = ts.length - i) := hgk
    clear hgk
    obtain ⟨ao2, cap2, rfl⟩ := hrow.len
    have hrowH : Hidden (Tr wr w.heap.size 45 (.slice ao2 (ts.take i).length cap2) (ts.take i)) := hrow
    have htl : (ts.take i).length = i := by rw [List.length_take]; omega
    have hfz := hfr.size
    clear hrow
    rw [htl]
    by_cases hil : i < ts.length
    · obtain ⟨t, ht⟩ : ∃ t, ts[i]? = some t := ⟨ts[i], List.getElem?_eq_getElem hil⟩
      obtain ⟨_, _, hv1, _, _, h3⟩ := (show Tk w _ ts from hvH).keepN hfr
      simp only [Value.slice.injEq, true_and] at hv1
      obtain ⟨rfl, rfl⟩ := hv1
      rcases h3 with h3 | ⟨g, off, rfl, hc⟩
      · rw [h3] at ht; simp at ht
      have hcc := hc i t ht
      have htH : Hidden (ts[i]? = some t) := ht
      obtain ⟨k, x, ty, b, p⟩ := t
      have d0 : wr.cell? ⟨g, off + i * 5, none⟩ = some (.int .i64 (k : Int)) := hcc 0 _ rfl
      have d1 : wr.cell? ⟨g, off + i * 5 + 1, none⟩ = some (.string ⟨x.toArray⟩) := hcc 1 _ rfl
      have d2 : wr.cell? ⟨g, off + i * 5 + 2, none⟩ = some (.int .i64 ty) := hcc 2 _ rfl
      have d3 : wr.cell? ⟨g, off + i * 5 + 3, none⟩ = some (.int .u64 b) := hcc 3 _ rfl
      have d4 : wr.cell? ⟨g, off + i * 5 + 4, none⟩ = some (.int .i64 (p : Int)) := hcc 4 _ rfl
      have hgw : g < w.heap.size := by
        obtain ⟨_, _, hv2, _, _, h4⟩ := (show Tk w _ ts from hvH)
        simp only [Value.slice.injEq, true_and] at hv2
        rcases h4 with h4 | ⟨g', off', hgo, hc'⟩
        · rw [h4] at ht; simp at ht
        · rw [hgo] at hv2
          simp only [Option.some.injEq, Addr.mk.injEq, and_true] at hv2
          obtain ⟨⟨rfl, rfl⟩, _⟩ := hv2
          exact World.block_lt_of_cell? w _ (hc' i _ ht 0 _ rfl)
      have hgn : ∀ cp, ¬ (Value.slice ao2 i cp).ownBlock = some g := fun cp h => by
        have h1 := (show Tr wr w.heap.size 45 (.slice ao2 (ts.take i).length cap2) (ts.take i) from hrowH).low g (own_same h)
        omega
      clear hc hcc ht
      go_wp2_with fail
      go_region_held3 (fun w' => w'.cell? ⟨g, off + i * 5, none⟩ = some (.int .i64 (k : Int)) ∧ w'.cell? ⟨g, off + i * 5 + 1, none⟩ = some (.string ⟨x.toArray⟩) ∧ w'.cell? ⟨g, off + i * 5 + 2, none⟩ = some (.int .i64 ty) ∧ w'.cell? ⟨g, off + i * 5 + 3, none⟩ = some (.int .u64 b) ∧ w'.cell? ⟨g, off + i * 5 + 4, none⟩ = some (.int .i64 (p : Int))) (go_keep) (first
        | (refine step_tok rfl _ _ 22 45 Tryd.underlying22 info_tok3 rfl w.heap.size (.slice ao2 i cap2) (ts.take i) ⟨k, x, ty, b, p⟩ wr.heap.size 1 rfl ?c0 rfl ?c1 ?c2 ?c3 ?_
           case c0 => exact ((show Tr wr w.heap.size 45 (.slice ao2 i cap2) (ts.take i) by have h := hrowH; rw [htl] at h; exact h).keepN (Fr.alloc _ _ _)).keepN (Fr.drew _ _)
           case c1 => exact fun i u hu => (cell_of_row (wr.alloc _) _ i _ _ _ (alloc_new _ _)).trans (tok_arr ⟨k, x, ty, b, p⟩ i u hu)
           case c2 => rw [htl]; omega
           case c3 => simp; omega
           intro v2 W2 hrow2 f2
           have kp : ∀ (m : Nat) (u : Value), wr.cell? ⟨g, m, none⟩ = some u → W2.cell? ⟨g, m, none⟩ = some u := fun m u hu => f2.cell (((Fr.alloc (fun _ => False) wr _).same (Fr.drew _ _)).cellN hu) (hgn _)
           have q0 := kp _ _ d0
           have q1 := kp _ _ d1
           have q2 := kp _ _ d2
           have q3 := kp _ _ d3
           have q4 := kp _ _ d4
           clear kp))
      go_wp2_with fail
      go_roundg (ts.length - (i + 1))
      case measure =>
        have : gk = ts.length - i := hgkH
        omega
      case rel =>
        refine ⟨i + 1, by go_num, by omega, by rw [take_tok htH]; exact hrow2, rfl, ?_⟩
        refine ((hfr.same (Fr.alloc _ _ _)).same (Fr.drew _ _)).over f2 (fun k hk => ?_)
        exact (show Tr wr w.heap.size 45 (.slice ao2 (ts.take i).length cap2) (ts.take i) from hrowH).low k (own_same hk)
    · obtain rfl : i = ts.length := by omega
      have hro := hrowH
      rw [Hidden, htl, List.take_length] at hro
      go_wp2_with fail
      go_ret
      exact ⟨_, rfl, hro, hfr⟩
end Go.Proofs.YtdhiombagbiffaaDoor
