/- The document's Reader: Raw, Text. -/
import Derived.Test.YtakkiipkmogagaaGreatIdG
namespace Go.Proofs.YtakkiipkmogagaaGreat.Fo.Ic
open Go.RowKit Te
set_option linter.unusedSimpArgs false
set_option linter.unusedVariables false
set_option maxRecDepth 20000

def RB8 (c : UInt8) (cs : List Value) : Prop := cs = [.int .u8 (c.toNat : Int)]
theorem chunks_b : ∀ (l : List UInt8), Rw.Chunks RB8 1 l (Wi.bc l)
  | [] => rfl
  | c :: l => ⟨[.int .u8 (c.toNat : Int)], Wi.bc l, rfl, rfl, rfl, chunks_b l⟩
theorem b_chunks : ∀ (l : List UInt8) (cs : List Value), Rw.Chunks RB8 1 l cs → cs = Wi.bc l
  | [], cs, h => h
  | c :: l, cs, ⟨d, rest, e, h1, h2, h3⟩ => by
    have h2 : d = [.int .u8 (c.toNat : Int)] := h2
    rw [e, h2, b_chunks l rest h3]; rfl
theorem info_u8 : (Tryz.prog.info? 5).map (fun i => (i.zero, i.size, i.bytes)) = some (some (.int .u8 0), 1, 1) := by kernel_rfl
/-- append of the elements of a row that may lie nowhere. -/
theorem step_anyB {α : Type} {R : α → List Value → Prop} {w : World} {ops : Array Oper} {o : Oper} {a : Act} {K : Act → World → Prop} {Q : Exit → Act → World → Prop} {E : Prop} (hgd : o.guard = none) (s x : Operand) (ty e : TypeId) (z : Value) (size bytes : Nat)
    (hty : Tryz.prog.underlying ty = some (.slice e)) (hinfo : (Tryz.prog.info? e).map (fun i => (i.zero, i.size, i.bytes)) = some (some z, size, bytes)) (hzs : z.cells.size = size) (hsz : 0 < size)
    (ho : o.op = .call { callee := .builtin .append, args := #[s, x], argTypes := #[ty, ty] }) (B : Nat) (v : Value) (l ys : List α) (news : List Value) (lo : Option Addr) (m c : Nat)
    (hs : a.eval s = v) (hr : Rw.Row R e size w B v l) (hx : a.eval x = .slice lo m c) (hm : m = ys.length) (hch : Rw.Chunks R size ys news) (hnil : lo = none → m = 0 ∧ c = 0) (hc : ∀ ad, lo = some ad → ∀ (j : Nat) (u : Value), news[j]? = some u → w.cell? (ad.add j) = some u) (h1 : ∀ u ∈ news, u.oneCell' = true)
    (hn : l.length + ys.length ≤ maxLen) (hb : (l.length + ys.length) * bytes ≤ 140737488355328) (hB : B ≤ w.heap.size)
    (h : ∀ v' w', Rw.Row R e size w' B v' (l ++ ys) → Fr (fun k => v.ownBlock = some k) w w' → (v'.ownBlock = v.ownBlock ∨ v'.ownBlock = some w.heap.size) → K (a.put o.dst v') w') : if Region.wanted o (yielded ops a.tmps) = true then Oper.wp Tryz.prog o a w K Q else E := by
  cases lo with
  | some ad => exact Rw.step_rows hgd s x ty e z size bytes hty hinfo hzs hsz ho B v l ys news ad m c hs hr hx hm hch (hc ad rfl) h1 hn hb hB h
  | none =>
    obtain ⟨rfl, rfl⟩ := hnil rfl
    have : ys = [] := List.eq_nil_of_length_eq_zero hm.symm
    subst this
    refine Rw.step_none hgd s x ty e size hty (by cases hi : Tryz.prog.info? e with
      | none => rw [hi] at hinfo; cases hinfo
      | some i => rfl) ho B v l hs hr hx (h v w (by rw [List.append_nil]; exact hr) (Fr.refl _ _) (Or.inl rfl))
theorem dw_fr (w : World) (n : Nat) (o : Obj) : Fr FN w ((w.drewN n).alloc o) := (Ty.drewN_fr (Fr.refl _ _) _).same (Fr.alloc _ _ _)
theorem dw_new (w : World) (n : Nat) (o : Obj) : ((w.drewN n).alloc o).heap[w.heap.size]? = some o := alloc_new (w.drewN n) o
set_option maxHeartbeats 4000000 in
theorem rraw_any (q : Nat) (bo : Option Addr) (bk : Nat) (b : List UInt8) (s : Option (List UInt8)) (most : Nat) (hm : most ≤ 64) (hb : b.length ≤ 140737488351232) (w : World) (h : Rr w q bo bk b s) : Calls Tryz.prog 39 #[.pointer (some ⟨q, 0, none⟩), ci (most : Int)] w fun e w' => ∃ v, e = .returned v ∧ Wi.Sl w' v (Wi.bc (rwS most s).1) ∧ Rr w' q bo bk b (rwS most s).2 ∧ Fr (fun k => k = q) w w' := by
  have km := rmany_any q bo bk b s most hm hb w h
  have kf := fun (u : World) (s' : Option (List UInt8)) (hu : Rr u q bo bk b s') => rfail_any q bo bk b s' 40 (by decide) u hu
  have hNl : (mnS most s).1 < 2147483648 := by
    unfold mnS
    split
    · show 0 < _; omega
    · exact inS_lt s
  obtain ⟨N, hN⟩ : ∃ N, (mnS most s).1 = N := ⟨_, rfl⟩
  obtain ⟨S, hS⟩ : ∃ S, (mnS most s).2 = S := ⟨_, rfl⟩
  have hrw : rwS most s = cutS N S := by
    unfold rwS
    rw [hN, hS]
  rw [hrw]
  rw [hN, hS] at km
  rw [hN] at hNl
  clear hrw hN hS h
  cases S with
  | none =>
    go_enter Tryz.func39, Tryz.ntmps39
    go_wp2_with fail
    go_at_call 42
    refine Calls.mono km ?_
    rintro e w1 ⟨rfl, r1, f1⟩
    have r1H : Hidden (Rr w1 q bo bk b none) := r1
    obtain ⟨a, e, z1, z2, z3, z4, z5⟩ := r1
    rcases z3 with ⟨_, z3⟩ | ⟨z3, _⟩
    · cases z3
    have b1 : (e != 0) = true := by simpa using z3
    obtain ⟨c0, c1, c2⟩ := box3r z1
    clear z1 z2 z4 z5 km kf
    go_wp2_with fail
    go_ret
    exact ⟨_, rfl, Wi.Sl.nil _, r1H, f1⟩
  | some r =>
    by_cases hl : N ≤ r.length
    · have e1 : cutS N (some r) = (r.take N, some (r.drop N)) := by show (if N ≤ r.length then _ else _) = _; rw [if_pos hl]
      rw [e1]
      clear e1
      go_enter Tryz.func39, Tryz.ntmps39
      go_wp2_with fail
      go_at_call 42
      refine Calls.mono km ?_
      rintro e w1 ⟨rfl, r1, f1⟩
      have r1H : Hidden (Rr w1 q bo bk b (some r)) := r1
      obtain ⟨a, e, z1, z2, z3, z4, z5⟩ := r1
      have z3' : e = 0 ∧ some r = some (b.drop a) := by
        rcases z3 with z3 | ⟨_, z3⟩
        · exact z3
        · cases z3
      clear z3
      obtain ⟨rfl, z3⟩ := z3'
      obtain rfl : r = b.drop a := by simpa using z3
      obtain ⟨c0, c1, c2⟩ := box3r z1
      have hbm : b.length ≤ bk ∧ bk ≤ 9223372036854775807 := by
        obtain ⟨ao', cap', e', q1, q2, _⟩ := id z4
        simp only [Value.slice.injEq] at e'
        obtain ⟨_, _, rfl⟩ := e'
        rw [Wi.bc_length] at q1
        unfold maxLen at q2
        exact ⟨q1, by omega⟩
      obtain ⟨L, hL⟩ : ∃ L, b.length = L := ⟨_, rfl⟩
      have hLH : Hidden (b.length = L) := hL
      have hzH : Hidden (w1.heap[q]? = some (.cells #[.slice bo b.length bk, ci (a : Int), ci 0] 84 (0, 0)) ∧ Wi.Sl w1 (.slice bo b.length bk) (Wi.bc b) ∧ ∀ k, (Value.slice bo b.length bk).ownBlock = some k → k ≠ q) := ⟨z1, z4, z5⟩
      have hfz : Hidden (∀ nq, Fr FN w1 (w1.drewN nq)) := fun nq => Ty.drewN_fr (Fr.refl _ _) _
      rw [List.length_drop, hL] at hl
      rw [hL] at c0 hbm z2 hb
      have t1 : decide ((L : Int) - (a : Int) < (N : Int)) = false := by simp; omega
      have ee : (a : Int) + (N : Int) = ((a + N : Nat) : Int) := by omega
      obtain ⟨P, hP⟩ : ∃ P, a + N = P := ⟨_, rfl⟩
      rw [hP] at ee
      have hPH : Hidden (a + N = P) := hP
      have hPL : P ≤ L := by omega
      have haP : a ≤ P := by omega
      have ewP : IntKind.i64.wrap (P : Int) = (P : Int) := by rw [IntKind.wrap_i64]; omega
      have hP0 : (0 : Int) ≤ (P : Int) := by omega
      have hPk : (P : Int) ≤ (bk : Int) := by omega
      have haP2 : (a : Int) ≤ (P : Int) := by omega
      have hPa : P - a = N := by omega
      have hlenT : Hidden (N = ((b.drop a).take N).length) := by show _ = _; rw [List.length_take, List.length_drop, hL]; omega
      have hnil : (if bk = a then bo else Option.map (fun x => x.add a) bo) = none → N = 0 ∧ bk - a = 0 := fun e => by
        obtain ⟨ao', cap', e', q1, q2, q3, _⟩ := id z4
        simp only [Value.slice.injEq] at e'
        obtain ⟨rfl, _, rfl⟩ := e'
        have hbn : bo = none := by
          split at e
          · exact e
          · cases bo with
            | none => rfl
            | some x => cases e
        have := q3 hbn
        rw [Wi.bc_length] at q1
        omega
      have hsrc : Hidden (∀ ad, (if bk = a then bo else Option.map (fun x => x.add a) bo) = some ad → ∀ (j : Nat) (u : Value), (Wi.bc ((b.drop a).take N))[j]? = some u → w1.cell? (ad.add j) = some u) := fun ad e j u hu => by
        by_cases hka : bk = a
        · have hN0 : N = 0 := by omega
          subst hN0
          simp [Wi.bc] at hu
        · rw [if_neg hka] at e
          obtain ⟨ao', cap', e', q1, q2, q3, q4⟩ := id z4
          simp only [Value.slice.injEq] at e'
          obtain ⟨rfl, _, rfl⟩ := e'
          rcases q4 with q4 | ⟨g, off, rfl, q4⟩
          · have : b = [] := by simpa [Wi.bc] using q4
            rw [this] at hu
            simp [Wi.bc] at hu
          · simp only [Option.map_some, Option.some.injEq] at e
            subst e
            rw [Addr.add_lit, Addr.add_lit]
            unfold Wi.bc at hu
            rw [List.getElem?_map] at hu
            cases hx : ((b.drop a).take N)[j]? with
            | none => rw [hx] at hu; cases hu
            | some x =>
              rw [hx] at hu
              have hx2 : b[a + j]? = some x := by
                rw [List.getElem?_take] at hx
                split at hx
                · rw [List.getElem?_drop] at hx; exact hx
                · cases hx
              have := q4 (a + j) u (by unfold Wi.bc; rw [List.getElem?_map, hx2]; exact hu)
              rw [Nat.add_assoc]
              exact this
      clear z1 z4 z5 z3 km kf hL hP
      go_wp2_with fail
      go_quiet (fail)
      go_upto_region 7 with fail
      go_region_held3 (fun w' => w'.cell? ⟨q, 0, none⟩ = some (.slice bo L bk) ∧ w'.cell? ⟨q, 1, none⟩ = some (ci (a : Int))) (first | (refine ⟨by with_reducible assumption, by with_reducible assumption⟩) | go_keep) (first
        | (refine step_anyB (R := RB8) rfl _ _ 22 5 (.int .u8 0) 1 1 Tryz.underlying22 info_u8 rfl (by decide) rfl w1.heap.size (.slice (some ⟨_, 0, none⟩) 0 0) [] ((b.drop a).take N) (Wi.bc ((b.drop a).take N)) (if bk = a then bo else Option.map (fun x => x.add a) bo) N (bk - a) rfl ?_ rfl hlenT (chunks_b _) hnil ?_ (Wi.bc_one _) ?_ ?_ ?_ ?_; (focus (refine Rw.Row.new _ _ 1 _ _ _ (Nat.le_refl _) ?_; exact dw_new _ _ _)); (focus (intro ad had j u hj; exact (dw_fr _ _ _).cellN (hsrc ad had j u hj))); (focus (have h9 : N < 2147483648 := hNl; rw [← (show N = _ from hlenT)]; simp [maxLen]; omega)); (focus (rw [← (show N = _ from hlenT)]; simp; omega)); (focus (exact (dw_fr _ _ _).size)); intro v4 w4 hr4 f4 ho4; rw [List.nil_append] at hr4; have g4 : Fr FN w1 w4 := ((dw_fr w1 _ _).over f4 (fun k e => by have e : some w1.heap.size = some k := e; injection e with e; omega)); have y0 := g4.cellN c0; have y1 := g4.cellN c1; have hr4H : Hidden (Rw.Row RB8 5 1 w4 w1.heap.size v4 ((b.drop a).take N)) := hr4; have g4H : Hidden (Fr FN w1 w4) := g4; clear hr4 f4 ho4))
      all_goals
        obtain ⟨z1, z4, z5⟩ := (show _ ∧ _ ∧ _ from hzH)
        have x1 := (show Fr FN w1 w4 from g4H).heap z1 (fun f => f)
        have fz := Ty.frozen_row x1 1
        have hset : Hidden _ := rr_set x1 (z4.keep (to_wi (show Fr FN w1 w4 from g4H)) (fun _ _ f => f)) z5 1 (ci (P : Int))
        have z5H : Hidden (∀ k, (Value.slice bo b.length bk).ownBlock = some k → k ≠ q) := z5
        have hq1 : Hidden (q < w1.heap.size) := lt_of_heap z1
        clear z1 z4 z5 x1 hsrc hnil hlenT
        go_wp2_with fail
        all_goals
          go_ret
          obtain ⟨s1, s2, s3⟩ := (show _ ∧ _ ∧ _ from hset)
          obtain ⟨cells, ho, hch⟩ := (show Rw.Row RB8 _ 1 w4 _ _ _ from hr4H)
          have hcb := b_chunks _ _ hch
          subst hcb
          have low := World.ownsRow.lt ho
          have hsl := (Wi.Sl.of_own ho).1.keep (to_wi s3) (fun k hk e => by have e : k = q := e; have := (low k hk).1; have h9 : q < w1.heap.size := hq1; omega)
          have hrr : Rr (w4.setCell ⟨q, 1, none⟩ (ci (P : Int))) q bo bk b (some (List.drop P b)) := ⟨P, 0, s1, by rw [(show b.length = L from hLH)]; exact hPL, Or.inl ⟨rfl, rfl⟩, s2, z5H⟩
          have hfin := (f1.same ((show Fr FN w1 w4 from g4H).mono fun _ _ f => f.elim)).same s3
          have hdd : List.drop N (List.drop a b) = List.drop P b := by rw [List.drop_drop, (show a + N = P from hPH)]
          first
            | exact ⟨_, rfl, hsl, by rw [hdd]; exact hrr, hfin⟩
            | exact ⟨_, rfl, hsl, by rw [(show a + N = P from hPH)]; exact hrr, hfin⟩
            | (have hba : bk = a := by assumption
               subst hba
               first
                 | exact ⟨_, rfl, hsl, by rw [hdd]; exact hrr, hfin⟩
                 | exact ⟨_, rfl, hsl, by rw [(show _ + N = P from hPH)]; exact hrr, hfin⟩)
    · have e1 : cutS N (some r) = ([], none) := by show (if N ≤ r.length then _ else _) = _; rw [if_neg hl]
      rw [e1]
      clear e1
      go_enter Tryz.func39, Tryz.ntmps39
      go_wp2_with fail
      go_at_call 42
      refine Calls.mono km ?_
      rintro e w1 ⟨rfl, r1, f1⟩
      have r1H : Hidden (Rr w1 q bo bk b (some r)) := r1
      obtain ⟨a, e, z1, z2, z3, z4, z5⟩ := r1
      have z3' : e = 0 ∧ some r = some (b.drop a) := by
        rcases z3 with z3 | ⟨_, z3⟩
        · exact z3
        · cases z3
      clear z3
      obtain ⟨rfl, z3⟩ := z3'
      obtain rfl : r = b.drop a := by simpa using z3
      obtain ⟨c0, c1, c2⟩ := box3r z1
      have hbm : b.length ≤ bk ∧ bk ≤ 9223372036854775807 := by
        obtain ⟨ao', cap', e', q1, q2, _⟩ := id z4
        simp only [Value.slice.injEq] at e'
        obtain ⟨_, _, rfl⟩ := e'
        rw [Wi.bc_length] at q1
        unfold maxLen at q2
        exact ⟨q1, by omega⟩
      obtain ⟨L, hL⟩ : ∃ L, b.length = L := ⟨_, rfl⟩
      have hLH : Hidden (b.length = L) := hL
      have hzH : Hidden (w1.heap[q]? = some (.cells #[.slice bo b.length bk, ci (a : Int), ci 0] 84 (0, 0)) ∧ Wi.Sl w1 (.slice bo b.length bk) (Wi.bc b) ∧ ∀ k, (Value.slice bo b.length bk).ownBlock = some k → k ≠ q) := ⟨z1, z4, z5⟩
      have hfz : Hidden (∀ nq, Fr FN w1 (w1.drewN nq)) := fun nq => Ty.drewN_fr (Fr.refl _ _) _
      rw [List.length_drop, hL] at hl
      rw [hL] at c0 hbm z2 hb
      have t1 : decide ((L : Int) - (a : Int) < (N : Int)) = true := by simp; omega
      have kf2 : ∀ nq, _ := fun nq => kf (w1.drewN nq) (some (b.drop a)) (Rr.later r1H (Ty.drewN_fr (Fr.refl _ _) _))
      clear z1 z4 z5 z3 km kf hL
      go_wp2_with fail
      go_quiet (fail)
      go_wp2_with (go_at_call 41; refine Calls.mono (kf2 _) ?_; rintro e w2 ⟨rfl, r2, f2⟩)
      go_ret
      exact ⟨_, rfl, Wi.Sl.nil _, r2, f1.same ((Ty.drewN_fr (Fr.refl _ _) _).same f2)⟩
set_option maxHeartbeats 1000000 in
theorem rtext_any (q : Nat) (bo : Option Addr) (bk : Nat) (b : List UInt8) (s : Option (List UInt8)) (hb : b.length ≤ 140737488351232) (w : World) (h : Rr w q bo bk b s) : Calls Tryz.prog 16 #[.pointer (some ⟨q, 0, none⟩), ci 32] w fun e w' => e = .returned (.string ⟨(rwS 32 s).1.toArray⟩) ∧ Rr w' q bo bk b (rwS 32 s).2 ∧ Fr (fun k => k = q) w w' := by
  have kr := rraw_any q bo bk b s 32 (by omega) hb w h
  generalize (rwS 32 s).2 = s' at kr ⊢
  generalize (rwS 32 s).1 = t at kr ⊢
  clear h
  go_enter Tryz.func16, Tryz.ntmps16
  go_wp2_with (go_at_call 39; refine Calls.mono kr ?_; rintro e w1 ⟨v, rfl, sl, r1, f1⟩; have hs := Wi.run_str w1 v t sl; obtain ⟨ao, ca, rfl, _⟩ := id sl; simp only [Wi.bc_length] at hs)
  go_ret
  exact ⟨rfl, r1, f1⟩
end Go.Proofs.YtakkiipkmogagaaGreat.Fo.Ic
