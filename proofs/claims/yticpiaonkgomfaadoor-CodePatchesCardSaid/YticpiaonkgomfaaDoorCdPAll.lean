/- Texts of ours, in one. -/
import Derived.Test.YticpiaonkgomfaaDoorCdRd
import Derived.Test.YticpiaonkgomfaaDoorCdBk
namespace Go.Proofs.YticpiaonkgomfaaDoor.Cd
open Go.RowKit Ty
set_option linter.unusedSimpArgs false
set_option linter.unusedVariables false

theorem wpl_app {w : World} {ops : Array Oper} {rest : List Oper} {o : Oper} {a : Act} {Q : Exit → Act → World → Prop} (hgd : o.guard = none) (s x : Operand) (ty e : TypeId) (z : Value) (size bytes : Nat)
    (hty : Tryd.prog.underlying ty = some (.slice e)) (hinfo : (Tryd.prog.info? e).map (fun i => (i.zero, i.size, i.bytes)) = some (some z, size, bytes)) (hzs : z.cells.size = size) (hsz : 0 < size)
    (ho : o.op = .call { callee := .builtin .append, args := #[s, x], argTypes := #[ty, ty] }) (B : Nat) (v : Value) (n : Nat) (cells : List Value) (lo : Option Addr) (k c : Nat) (news : List Value)
    (hs : a.eval s = v) (hr : w.ownsRow B e size v n cells) (hx : a.eval x = .slice lo k c) (hl : news.length = k * size) (hnil : lo = none → k = 0 ∧ c = 0) (hc : ∀ ad, lo = some ad → ∀ (j : Nat) (u : Value), news[j]? = some u → w.cell? (ad.add j) = some u) (h1 : ∀ u ∈ news, u.oneCell' = true)
    (hm : n + k ≤ maxLen) (hb : (n + k) * bytes ≤ 140737488355328) (hB : B ≤ w.heap.size)
    (h : ∀ v' w', w'.ownsRow B e size v' (n + k) (cells ++ news) → Fr (fun b => v.ownBlock = some b) w w' → (v'.ownBlock = v.ownBlock ∨ v'.ownBlock = some w.heap.size) → wpList Tryd.prog ops Q rest (a.put o.dst v') w') : wpList Tryd.prog ops Q (o :: rest) a w := by
  cases lo with
  | some ad => exact wpl_append hgd s x ty e z size bytes hty hinfo hzs hsz ho B v n cells ad k c news hs hr hx hl (hc ad rfl) h1 hm hb hB h
  | none =>
    obtain ⟨rfl, rfl⟩ := hnil rfl
    have hn0 : news = [] := List.eq_nil_of_length_eq_zero (by rw [hl, Nat.zero_mul])
    subst hn0
    refine wpList_plain hgd fun K hK => ?_
    cases hi : Tryd.prog.info? e with
    | none => rw [hi] at hinfo; cases hinfo
    | some i =>
      have hrun := run_append_owned_none (P := Tryd.prog) (w := w) B ty o.type e i size hty hi v n cells hr
      unfold Oper.wp
      simp only [execOp, ho, resolve, invoke, builtin, Sem.run_bind, Sem.run_pure, Result.andThen_ok, List.map_toArray, List.map_cons, List.map_nil, hs, hx, hrun]
      exact hK _ _ (h v w (by simpa using hr) (Fr.refl _ _) (Or.inl rfl))
theorem own_new {w : World} {B g : Nat} {e : TypeId} (size : Nat) (hB : B ≤ g) (hg : w.heap[g]? = some (.cells #[] e (0, 0))) : w.ownsRow B e size (.slice (some ⟨g, 0, none⟩) 0 0) 0 [] :=
  ⟨by simp, Or.inr ⟨g, 0, #[], rfl, hB, hg, Nat.le_refl _, by decide, by simp, by simp⟩⟩
theorem byC_one (l : Bs) : ∀ u ∈ byC l, u.oneCell' = true := by
  intro u hu
  obtain ⟨c, _, rfl⟩ := List.mem_map.1 hu
  rfl
theorem BL.cells {w : World} {ao : Option Addr} {cap : Nat} {l : Bs} (h : BL w ao cap l) : (ao = none → l.length = 0 ∧ cap = 0) ∧ ∀ ad, ao = some ad → ∀ (j : Nat) (u : Value), (byC l)[j]? = some u → w.cell? (ad.add j) = some u := by
  obtain ⟨h1, h2, h3, h4⟩ := h
  refine ⟨fun e => ⟨by have := h3 e; omega, h3 e⟩, fun ad e j u hu => ?_⟩
  rcases h4 with rfl | ⟨b, off, e2, h4⟩
  · simp [byC] at hu
  · rw [e] at e2
    obtain rfl := Option.some.inj e2
    unfold byC at hu
    rw [List.getElem?_map] at hu
    cases hc : l[j]? with
    | none => rw [hc] at hu; cases hu
    | some c =>
      rw [hc] at hu
      obtain rfl := Option.some.inj hu
      rw [Addr.add_lit]
      exact h4 j c hc
set_option maxRecDepth 20000 in
set_option maxHeartbeats 4000000 in
theorem decodes_walk (bo : Option Addr) (n cap : Nat) (b : Bs) (W : World) (hn : b.length = n) (hbl : BL W bo cap b) (hn2 : n ≤ 140737488351232) (ht : F.Tab W) :
    Calls Tryd.prog 4 #[.slice bo n cap] W fun e w' => e = .returned (.bool true) ∧ Fr (fun _ => False) W w' := by
  have hblH : Hidden (BL W bo cap b) := hbl
  have hnH : Hidden (b.length = n) := hn
  have hcb := hbl.cells
  rw [hn] at hcb
  have hcbH : Hidden _ := hcb
  have hR : Hidden ((decS b).2 = (decS b).2) := rfl
  clear hbl hn hcb
  go_enter Tryd.func4, Tryd.ntmps4
  go_upto_region 1 with fail
  go_wp2_with (at_builtin
               refine wpl_app rfl _ _ 35 5 (.int .u8 0) 1 1 Tryd.underlying35 info_u8 rfl (by decide) rfl W.heap.size (.slice (some ⟨W.heap.size, 0, none⟩) 0 0) 0 [] bo n cap (byC b) rfl ?c0 rfl ?c1 ?c2 ?c3 ?c4 ?c5 ?c6 ?c7 ?_
               case c0 => exact own_new 1 (Nat.le_refl _) (alloc_new W _)
               case c1 => rw [byC_len, show b.length = n from hnH, Nat.mul_one]
               case c2 => exact hcbH.1
               case c3 => exact fun ad e j u hu => (Fr.alloc (fun _ => False) W _).cellN (hcbH.2 ad e j u hu)
               case c4 => exact byC_one b
               case c5 => simp [maxLen]; omega
               case c6 => omega
               case c7 => simp
               intro v1 w1 r1 f1 o1
               have fw1 : Fr (fun _ => False) W w1 := (Fr.alloc (fun _ => False) W _).over f1 (fun k e => by
                 have : W.heap.size = k := by simpa [Value.ownBlock] using e
                 omega)
               obtain ⟨ao1, cap1, hv1, hb1⟩ := Bw.bl (l := b) (show Bw w1 W.heap.size v1 b from by unfold Bw; rw [show b.length = n from hnH]; simpa using r1)
               rw [show b.length = n from hnH] at hv1
               subst hv1
               have kd := decode_any ao1 n cap1 b hnH w1 hb1
               have fw1H : Hidden (Fr (fun _ => False) W w1) := fw1
               clear r1 f1 o1 hb1 fw1)
  go_at_call 15
  refine kd.mono ?_
  rintro e w2 ⟨v2, rfl, hI2, f2⟩
  have fw2 := (show Fr (fun _ => False) W w1 from fw1H).same f2
  obtain ⟨ao2, cap2, rfl, hil2⟩ := hI2.il
  have kr := rdecode_any bo n cap b hnH w2 ((show BL W bo cap b from hblH).keep fw2)
  have hil2H : Hidden (IL w2 ao2 cap2 (decS b).2) := hil2
  obtain ⟨L, hL⟩ : ∃ L, (decS b).2 = L := ⟨_, rfl⟩
  obtain ⟨E, hE⟩ : ∃ E, (decS b).1 = E := ⟨_, rfl⟩
  rw [hL] at hil2H kr ⊢
  rw [hE] at kr ⊢
  obtain ⟨m, hm⟩ : ∃ m, L.length = m := ⟨_, rfl⟩
  have hmH : Hidden (L.length = m) := hm
  have fw2H : Hidden (Fr (fun _ => False) W w2) := fw2
  rw [hm]
  clear kd hI2 hil2 f2 hL hE hm
  go_wp2_with fail
  go_at_call 16
  refine kr.mono ?_
  rintro e w3 ⟨v3, rfl, hI3, f3⟩
  obtain ⟨ao3, cap3, rfl, hil3⟩ := hI3.il
  have kS := sameCode_any ao2 ao3 m m cap2 cap3 L L hmH hmH true (show _ = _ by simp) w3 ((show IL w2 ao2 cap2 L from hil2H).keep f3) hil3
  rw [show L.length = m from hmH]
  have fw3 := fw2.same f3
  clear kr hI3 hil3 f3 fw2
  go_wp2_with fail
  go_at_call 17
  refine kS.mono ?_
  rintro e w4 ⟨rfl, f4⟩
  have fw4 := fw3.same f4
  have klive := live_any w4 (tab_fr ht fw4)
  clear kS f4 fw3
  go_wp2_with fail
  go_at_call 14
  refine klive.mono ?_
  rintro e w5 ⟨rfl, f5⟩
  go_wp2_with fail
  go_ret
  exact ⟨rfl, fw4.same f5⟩
end Go.Proofs.YticpiaonkgomfaaDoor.Cd
namespace Go.Proofs.YticpiaonkgomfaaDoor.codeDecodes
open Go.RowKit Ty Cd
theorem walk (u : Value) (b : Bs) (W : World) (hy : BytA W u b) (ht : F.Tab W) : Calls Tryd.prog 4 #[u] W fun e w' => e = .returned (.bool true) ∧ Fr (fun _ => False) W w' := by
  obtain ⟨bo, capb, rfl, h4, h5⟩ := hy
  exact decodes_walk bo b.length capb b W rfl h4 h5 ht
end Go.Proofs.YticpiaonkgomfaaDoor.codeDecodes

namespace Go.Proofs.YticpiaonkgomfaaDoor.Cd
open Go.RowKit Ty
set_option linter.unusedSimpArgs false
set_option linter.unusedVariables false

theorem own_at {w : World} {B : Nat} {e : TypeId} {size : Nat} {v : Value} {n : Nat} {cells : List Value} (h : w.ownsRow B e size v n cells) (j : Nat) (hj : j < cells.length) :
    ∃ g cap cur, v = .slice (some ⟨g, 0, none⟩) n cap ∧ B ≤ g ∧ n ≤ cap ∧ cap ≤ maxLen ∧ w.heap[g]? = some (.cells cur e (0, 0)) ∧ (∀ (i : Nat) (u : Value), cells[i]? = some u → w.cell? ⟨g, i, none⟩ = some u) ∧
      (∀ i, w.frozen? ⟨g, i, none⟩ = false) ∧ ∀ u, (w.setCell ⟨g, j, none⟩ u).ownsRow B e size v n (cells.set j u) := by
  obtain ⟨hl, hh⟩ := h
  rcases hh with ⟨rfl, rfl⟩ | ⟨g, cap, cur, rfl, hb, hg, hnc, hcm, hcs, ht⟩
  · rw [Nat.zero_mul] at hl; omega
  · refine ⟨g, cap, cur, rfl, hb, hnc, hcm, hg, fun i u hu => ?_, fun i => fz_row hg i, fun u => ⟨by rw [List.length_set]; exact hl, Or.inr ⟨g, cap, cur.setIfInBounds j u, rfl, hb, heap_setCell_same w g j cur e u hg, hnc, hcm, by simpa using hcs, ?_⟩⟩⟩
    · rw [cell_of_row w g _ cur e (0, 0) hg]
      rw [← ht, List.getElem?_take] at hu
      split at hu
      · simpa using hu
      · cases hu
    · rw [← ht]
      simp [List.take_set]
def patS (l : List In) (a n : Int) : Int × List In :=
  if a < 0 ∨ (l.length : Int) ≤ a then (1, []) else
    let x := l.getD a.toNat default
    if rightS { x with n := n } then (0, l.set a.toNat { x with n := n }) else (51, [])
theorem flat_set : ∀ (l : List In) (k : Nat) (x : In) (n : Int), l[k]? = some x → (l.flatMap inC).set (k * 4 + 1) (ci n) = (l.set k { x with n := n }).flatMap inC
  | [], k, x, n, h => by simp at h
  | y :: r, 0, x, n, h => by
    obtain rfl : y = x := by simpa using h
    rfl
  | y :: r, k + 1, x, n, h => by
    have ih := flat_set r k x n (by simpa using h)
    rw [List.set_cons_succ, List.flatMap_cons, List.flatMap_cons, ← ih]
    rw [show (k + 1) * 4 + 1 = (inC y).length + (k * 4 + 1) by rw [inC_len]; omega]
    rw [List.set_append_right _ _ (by omega)]
    congr 2
    omega
theorem IL.cells {w : World} {ao : Option Addr} {cap : Nat} {l : List In} (h : IL w ao cap l) : (ao = none → l.length = 0 ∧ cap = 0) ∧ ∀ ad, ao = some ad → ∀ (j : Nat) (u : Value), (l.flatMap inC)[j]? = some u → w.cell? (ad.add j) = some u := by
  obtain ⟨h1, h2, h3, h4⟩ := h
  refine ⟨fun e => ⟨by have := h3 e; omega, h3 e⟩, fun ad e j u hu => ?_⟩
  rcases h4 with rfl | ⟨b, off, e2, h4⟩
  · simp at hu
  · rw [e] at e2
    obtain rfl := Option.some.inj e2
    have hj : j < l.length * 4 := by
      have := (List.getElem?_eq_some_iff.1 hu).1
      rw [flat_len] at this
      exact this
    have hx : l[j / 4]? = some l[j / 4] := List.getElem?_eq_getElem (by omega)
    have hu2 : (inC l[j / 4])[j % 4]? = some u := by
      have h5 : j % 4 < (inC l[j / 4]).length := by rw [inC_len]; omega
      have := flat_get l (j / 4) _ hx (j % 4) _ (List.getElem?_eq_getElem h5)
      rw [show j / 4 * 4 + j % 4 = j by omega, hu] at this
      rw [List.getElem?_eq_getElem h5, ← this]
    have := h4 _ _ hx _ _ hu2
    rw [Addr.add_lit]
    rw [show off + j / 4 * 4 + j % 4 = off + j by omega] at this
    exact this
theorem flat_one (l : List In) : ∀ u ∈ l.flatMap inC, u.oneCell' = true := by
  intro u hu
  obtain ⟨x, _, hx⟩ := List.mem_flatMap.1 hu
  exact inC_one x u hx
set_option maxRecDepth 20000 in
set_option maxHeartbeats 4000000 in
theorem patch_any (ao : Option Addr) (m cap : Nat) (l : List In) (hm : l.length = m) (a n : Int) (w : World) (h : IL w ao cap l) (hok : ∀ i ∈ l, U64 i.b) (hb : m ≤ 4398046510976) :
    Calls Tryd.prog 19 #[.slice ao m cap, ci a, ci n] w fun e w' => ∃ v, e = .returned (.tuple #[v, ci (patS l a n).1]) ∧ IW w' w.heap.size 27 v (patS l a n).2 ∧ Fr (fun _ => False) w w' := by
  have hcells := h.cells
  rw [hm] at hcells
  have hcH : Hidden _ := hcells
  have hmH : Hidden (l.length = m) := hm
  obtain ⟨R, hR⟩ : ∃ R, R = patS l a n := ⟨_, rfl⟩
  rw [← hR]
  have hRH : Hidden (R = patS l a n) := hR
  clear hcells h hR
  by_cases h0 : a < 0
  · have e : R = (1, []) := by rw [show R = _ from hRH]; unfold patS; rw [if_pos (Or.inl h0)]
    have hb0 : decide (a < 0) = true := by simpa using h0
    clear h0 hm
    go_enter Tryd.func19, Tryd.ntmps19
    go_wp2_with fail
    go_ret2
    exact ⟨_, by first | rfl | (rw [e]; rfl), by first | exact IW.nil _ _ _ | (rw [e]; exact IW.nil _ _ _), Fr.refl _ _⟩
  obtain ⟨k, rfl⟩ : ∃ k : Nat, a = (k : Int) := ⟨a.toNat, by omega⟩
  have hb0 : decide ((k : Int) < 0) = false := by simp
  by_cases hk : m ≤ k
  · have e : R = (1, []) := by rw [show R = _ from hRH]; unfold patS; rw [if_pos (Or.inr (by rw [hm]; omega))]
    have hb1 : decide ((m : Int) ≤ (k : Int)) = true := by simp; omega
    clear h0 hm
    go_enter Tryd.func19, Tryd.ntmps19
    go_wp2_with fail
    go_ret2
    exact ⟨_, by first | rfl | (rw [e]; rfl), by first | exact IW.nil _ _ _ | (rw [e]; exact IW.nil _ _ _), Fr.refl _ _⟩
  have hkm : k < m := by omega
  have hb1 : decide ((m : Int) ≤ (k : Int)) = false := by simp; omega
  obtain ⟨x, hx⟩ : ∃ x, l[k]? = some x := ⟨_, List.getElem?_eq_getElem (by omega)⟩
  have hRe : Hidden (R = if rightS { x with n := n } = true then (0, l.set k { x with n := n }) else (51, [])) := by
    show _ = _
    rw [show R = _ from hRH]
    unfold patS
    rw [if_neg (by rw [hm]; omega)]
    simp only [Int.toNat_natCast]
    rw [List.getD_eq_getElem?_getD, hx]
    rfl
  have hub : U64 x.b := hok x (List.mem_of_getElem? hx)
  have kr := fun W => right_any { x with n := n } hub W
  have hfs := flat_set l k x n hx
  have hat := flat_get l k x hx
  have hkl : k * 4 + 1 < (l.flatMap inC).length := by rw [flat_len, hm]; omega
  have hset := fun j => flat_get (l.set k { x with n := n }) k { x with n := n } (by rw [List.getElem?_set_self (by omega)]) j
  have hfsH : Hidden _ := hfs
  have hatH : Hidden _ := hat
  have hklH : Hidden (k * 4 + 1 < (l.flatMap inC).length) := hkl
  have hsetH : Hidden _ := hset
  have hokH : Hidden (∀ i ∈ l, U64 i.b) := hok
  clear hfs hat hkl hset hx h0 hk hm hok
  obtain ⟨op, nn, t, b⟩ := x
  simp only [] at kr
  go_enter Tryd.func19, Tryd.ntmps19
  go_upto_region 5 with (first
    | (at_builtin
       refine wpl_app rfl _ _ 36 27 (.agg #[.int .i64 0, .int .i64 0, .int .i64 0, .int .u64 0]) 4 32 Tryd.underlying36 info_inz rfl (by decide) rfl w.heap.size (.slice none 0 0) 0 [] ao m cap (l.flatMap inC) rfl ?c0 rfl ?c1 ?c2 ?c3 ?c4 ?c5 ?c6 ?c7 ?_
       case c0 => exact own_nil _ _ _ _
       case c1 => rw [flat_len, show l.length = m from hmH]
       case c2 => exact hcH.1
       case c3 => exact hcH.2
       case c4 => exact flat_one l
       case c5 => simp [maxLen]; omega
       case c6 => omega
       case c7 => exact Nat.le_refl _
       intro v1 w1 r1 f1 o1
       have fw1 : Hidden (Fr (fun _ => False) w w1) := f1.mono (fun k _ e => by cases e)
       rw [Nat.zero_add, List.nil_append] at r1
       obtain ⟨g, cap1, cur, hv1, hg1, hg2, hg3, hgh, hgc, hgf, hgs⟩ := own_at r1 (k * 4 + 1) hklH
       subst hv1
       have y0 : w1.cell? ⟨g, k * 4 + 1, none⟩ = some (ci nn) := hgc _ _ (hatH 1 _ rfl)
       have fy := hgf (k * 4 + 1)
       obtain ⟨V, hV⟩ : ∃ V, V = w1.setCell ⟨g, k * 4 + 1, none⟩ (ci n) := ⟨_, rfl⟩
       have rV := hgs (ci n)
       rw [show (l.flatMap inC).set (k * 4 + 1) (ci n) = _ from hfsH, ← hV] at rV
       have fV : Hidden (Fr (fun _ => False) w V) := by
         show Fr _ _ _
         rw [hV]
         exact (show Fr (fun _ => False) w w1 from fw1).over (Fr.setCell w1 ⟨g, k * 4 + 1, none⟩ _) (fun k e => by have : k = g := e; omega)
       have rVH : Hidden _ := rV
       have hVH : Hidden (V = _) := hV
       have hcapi : cap1 ≤ 9223372036854775807 := by simpa [maxLen] using hg3
       clear f1 o1 r1 hg3 hgh hgc hgf hgs hV rV))
  rw [← (show V = _ from hVH)]
  obtain ⟨g', cap', cur', hv', _, _, _, _, hgc', _⟩ := own_at (show V.ownsRow w.heap.size _ 4 _ m _ from rVH) 0 (by rw [flat_len, List.length_set, show l.length = m from hmH]; omega)
  simp only [Value.slice.injEq, Option.some.injEq, Addr.mk.injEq, and_true, true_and] at hv'
  obtain ⟨rfl, rfl⟩ := hv'
  have z0 : V.cell? ⟨g, k * 4, none⟩ = some (ci op) := hgc' _ _ (hsetH 0 _ rfl)
  have z1 : V.cell? ⟨g, k * 4 + 1, none⟩ = some (ci n) := hgc' _ _ (hsetH 1 _ rfl)
  have z2 : V.cell? ⟨g, k * 4 + 2, none⟩ = some (ci t) := hgc' _ _ (hsetH 2 _ rfl)
  have z3 : V.cell? ⟨g, k * 4 + 3, none⟩ = some (.int .u64 b) := hgc' _ _ (hsetH 3 _ rfl)
  clear hgc' y0 fy hVH
  by_cases hri : rightS ⟨op, n, t, b⟩ = true
  · have e : R = (0, l.set k ⟨op, n, t, b⟩) := by rw [show R = _ from hRe, if_pos hri]
    rw [hri] at kr
    clear hri
    go_wp2_with (first
      | (go_at_call 8; refine (kr _).mono ?_; rintro e' w2 ⟨rfl, f2⟩))
    go_ret2
    refine ⟨_, by rw [e]; rfl, ?_, (show Fr (fun _ => False) w V from fV).same f2⟩
    rw [e]
    have r2 := own_keep (show V.ownsRow w.heap.size _ 4 _ m _ from rVH) f2 (fun _ _ f => f)
    unfold IW
    rw [List.length_set, show l.length = m from hmH]
    exact r2
  · have hrf : rightS ⟨op, n, t, b⟩ = false := by simpa using hri
    have e : R = (51, []) := by rw [show R = _ from hRe, if_neg hri]
    rw [hrf] at kr
    clear hri hrf
    go_wp2_with (first
      | (go_at_call 8; refine (kr _).mono ?_; rintro e' w2 ⟨rfl, f2⟩))
    go_ret2
    exact ⟨_, by rw [e]; rfl, by rw [e]; exact IW.nil _ _ _, (show Fr (fun _ => False) w V from fV).same f2⟩
end Go.Proofs.YticpiaonkgomfaaDoor.Cd

namespace Go.Proofs.YticpiaonkgomfaaDoor.Cd
open Go.RowKit Ty
set_option linter.unusedSimpArgs false
set_option linter.unusedVariables false

theorem flat_set4 : ∀ (l : List In) (k : Nat) (x : In), k < l.length → ((((l.flatMap inC).set (k * 4) (ci x.op)).set (k * 4 + 1) (ci x.n)).set (k * 4 + 2) (ci x.t)).set (k * 4 + 3) (.int .u64 x.b) = (l.set k x).flatMap inC
  | [], k, x, h => by simp at h
  | y :: r, 0, x, h => rfl
  | y :: r, k + 1, x, h => by
    have ih := flat_set4 r k x (by simpa using h)
    rw [List.set_cons_succ, List.flatMap_cons, List.flatMap_cons, ← ih]
    have e : ∀ j, (k + 1) * 4 + j = (inC y).length + (k * 4 + j) := fun j => by rw [inC_len]; omega
    have e0 : (k + 1) * 4 = (inC y).length + k * 4 := by rw [inC_len]; omega
    rw [e 1, e 2, e 3, e0]
    simp only [List.set_append_right _ _ (Nat.le_add_right _ _), Nat.add_sub_cancel_left]
theorem own_four {w : World} {B : Nat} {e : TypeId} {v : Value} {m k : Nat} {l : List In} (h : w.ownsRow B e 4 v m (l.flatMap inC)) (hk : k < l.length) (x : In) :
    ∃ g cap, v = .slice (some ⟨g, 0, none⟩) m cap ∧ B ≤ g ∧ m ≤ cap ∧ cap ≤ maxLen ∧ (∀ (i : Nat) (u : Value), (l.flatMap inC)[i]? = some u → w.cell? ⟨g, i, none⟩ = some u) ∧ (∀ i, w.frozen? ⟨g, i, none⟩ = false) ∧
      ((((w.setCell ⟨g, k * 4, none⟩ (ci x.op)).setCell ⟨g, k * 4 + 1, none⟩ (ci x.n)).setCell ⟨g, k * 4 + 2, none⟩ (ci x.t)).setCell ⟨g, k * 4 + 3, none⟩ (.int .u64 x.b)).ownsRow B e 4 v m ((l.set k x).flatMap inC) := by
  have hl := flat_len l
  obtain ⟨g, cap, cur, hv, a1, a2, a3, a4, a5, a6, a7⟩ := own_at h (k * 4) (by omega)
  have s0 := a7 (ci x.op)
  obtain ⟨g1, cap1, cur1, hv1, _, _, _, _, _, _, b7⟩ := own_at s0 (k * 4 + 1) (by rw [List.length_set]; omega)
  rw [hv] at hv1
  simp only [Value.slice.injEq, Option.some.injEq, Addr.mk.injEq, and_true, true_and] at hv1
  obtain ⟨rfl, rfl⟩ := hv1
  have s1 := b7 (ci x.n)
  obtain ⟨g2, cap2, cur2, hv2, _, _, _, _, _, _, c7⟩ := own_at s1 (k * 4 + 2) (by rw [List.length_set, List.length_set]; omega)
  rw [hv] at hv2
  simp only [Value.slice.injEq, Option.some.injEq, Addr.mk.injEq, and_true, true_and] at hv2
  obtain ⟨rfl, rfl⟩ := hv2
  have s2 := c7 (ci x.t)
  obtain ⟨g3, cap3, cur3, hv3, _, _, _, _, _, _, d7⟩ := own_at s2 (k * 4 + 3) (by rw [List.length_set, List.length_set, List.length_set]; omega)
  rw [hv] at hv3
  simp only [Value.slice.injEq, Option.some.injEq, Addr.mk.injEq, and_true, true_and] at hv3
  obtain ⟨rfl, rfl⟩ := hv3
  refine ⟨g, cap, hv, a1, a2, a3, a5, a6, ?_⟩
  rw [← flat_set4 l k x hk]
  exact d7 _
theorem four_fr_at (w : World) (g j : Nat) (v0 v1 v2 v3 : Value) : Fr (fun k => k = g) w ((((w.setCell ⟨g, j, none⟩ v0).setCell ⟨g, j + 1, none⟩ v1).setCell ⟨g, j + 2, none⟩ v2).setCell ⟨g, j + 3, none⟩ v3) :=
  (((Fr.setCell w ⟨g, j, none⟩ v0).same (Fr.setCell _ ⟨g, j + 1, none⟩ v1)).same (Fr.setCell _ ⟨g, j + 2, none⟩ v2)).same (Fr.setCell _ ⟨g, j + 3, none⟩ v3)
set_option maxRecDepth 20000 in
set_option maxHeartbeats 4000000 in
theorem rpatch_any (ao : Option Addr) (m cap : Nat) (l : List In) (hm : l.length = m) (a n : Int) (w : World) (h : IL w ao cap l) (hok : ∀ i ∈ l, U64 i.b) (hb : m ≤ 4398046510976) :
    Calls Tryd.prog 20 #[.slice ao m cap, ci a, ci n] w fun e w' => ∃ v, e = .returned (.tuple #[v, ci (patS l a n).1]) ∧ IW w' w.heap.size 26 v (patS l a n).2 ∧ Fr (fun _ => False) w w' := by
  have hcells := h.cells
  rw [hm] at hcells
  have hcH : Hidden _ := hcells
  have hmH : Hidden (l.length = m) := hm
  have hcap : m ≤ cap := by rw [← hm]; exact h.1
  have hcm : cap ≤ 9223372036854775807 := by have := h.2.1; simpa [maxLen] using this
  obtain ⟨R, hR⟩ : ∃ R, R = patS l a n := ⟨_, rfl⟩
  rw [← hR]
  have hRH : Hidden (R = patS l a n) := hR
  clear hcells hR
  by_cases h0 : a < 0
  · have e : R = (1, []) := by rw [show R = _ from hRH]; unfold patS; rw [if_pos (Or.inl h0)]
    have hb0 : decide (a < 0) = true := by simpa using h0
    clear h0 hm h
    go_enter Tryd.func20, Tryd.ntmps20
    go_wp2_with fail
    go_ret2
    exact ⟨_, by first | rfl | (rw [e]; rfl), by first | exact IW.nil _ _ _ | (rw [e]; exact IW.nil _ _ _), Fr.refl _ _⟩
  obtain ⟨k, rfl⟩ : ∃ k : Nat, a = (k : Int) := ⟨a.toNat, by omega⟩
  have hb0 : decide ((k : Int) < 0) = false := by simp
  by_cases hk : m ≤ k
  · have e : R = (1, []) := by rw [show R = _ from hRH]; unfold patS; rw [if_pos (Or.inr (by rw [hm]; omega))]
    have hb1 : decide ((m : Int) ≤ (k : Int)) = true := by simp; omega
    clear h0 hm h
    go_enter Tryd.func20, Tryd.ntmps20
    go_wp2_with fail
    go_ret2
    exact ⟨_, by first | rfl | (rw [e]; rfl), by first | exact IW.nil _ _ _ | (rw [e]; exact IW.nil _ _ _), Fr.refl _ _⟩
  have hkm : k < m := by omega
  have hb1 : decide ((m : Int) ≤ (k : Int)) = false := by simp; omega
  obtain ⟨x, hx⟩ : ∃ x, l[k]? = some x := ⟨_, List.getElem?_eq_getElem (by omega)⟩
  have hRe : Hidden (R = if rightS { x with n := n } = true then (0, l.set k { x with n := n }) else (51, [])) := by
    show _ = _
    rw [show R = _ from hRH]
    unfold patS
    rw [if_neg (by rw [hm]; omega)]
    simp only [Int.toNat_natCast]
    rw [List.getD_eq_getElem?_getD, hx]
    rfl
  have hub : U64 x.b := hok x (List.mem_of_getElem? hx)
  have kr := fun W => rright_any { x with n := n } hub W
  obtain ⟨b0, off, rfl, hc⟩ := h.2.2.2.resolve_left (by rintro rfl; simp at hx)
  obtain ⟨c0, c1, c2, c3⟩ := IL.at' (cap := cap) hc hx
  have hat := flat_get l k x hx
  have hatH : Hidden _ := hat
  clear hat hx h0 hk hm hok hc h
  obtain ⟨op, nn, t, b⟩ := x
  simp only [] at kr c0 c1 c2 c3
  go_enter Tryd.func20, Tryd.ntmps20
  have X0 := alloc_new w (.cells #[ci op, ci nn, ci t, .int .u64 b] 26 (0, 0))
  obtain ⟨d0, d1, d2, d3⟩ := box4 X0
  have fd1 := fz_row X0 1
  go_upto_region 5 with fail
  obtain ⟨V, hV⟩ : ∃ V, V = w.alloc (.cells #[ci op, ci n, ci t, .int .u64 b] 26 (0, 0)) := ⟨_, rfl⟩
  have XV : V.heap[w.heap.size]? = some (.cells #[ci op, ci n, ci t, .int .u64 b] 26 (0, 0)) := by rw [hV]; exact alloc_new _ _
  have fV : Fr (fun _ => False) w V := by rw [hV]; exact Fr.alloc _ _ _
  rw [← hV]
  clear hV X0 d0 d1 d2 d3 fd1
  obtain ⟨d0, d1, d2, d3⟩ := box4 XV
  generalize hG : w.heap.size = G at XV d0 d1 d2 d3 ⊢
  have hGH : Hidden (w.heap.size = G) := hG
  have hGV : Hidden (G < V.heap.size) := lt_of_heap XV
  clear hG
  by_cases hri : rightS ⟨op, n, t, b⟩ = true
  · have e : R = (0, l.set k ⟨op, n, t, b⟩) := by rw [show R = _ from hRe, if_pos hri]
    rw [hri] at kr
    clear hri
    have hkl : k < l.length := by have : l.length = m := hmH; omega
    have fVH : Hidden (Fr (fun _ => False) w V) := fV
    go_wp2_with (first
      | (go_at_call 9; refine (kr _).mono ?_; rintro e' w2 ⟨rfl, f2⟩)
      | (at_builtin
         refine wpl_app rfl _ _ 40 26 (.agg #[.int .i64 0, .int .i64 0, .int .i64 0, .int .u64 0]) 4 32 Tryd.underlying40 info_rin rfl (by decide) rfl G (.slice none 0 0) 0 [] (some ⟨b0, off, none⟩) m cap (l.flatMap inC) rfl ?c0 rfl ?c1 ?c2 ?c3 ?c4 ?c5 ?c6 ?c7 ?_
         case c0 => exact own_nil _ _ _ _
         case c1 => rw [flat_len, show l.length = m from hmH]
         case c2 => exact hcH.1
         case c3 => exact fun ad e j u hu => f2.cellN ((show Fr (fun _ => False) w V from fVH).cellN (hcH.2 ad e j u hu))
         case c4 => exact flat_one l
         case c5 => simp [maxLen]; omega
         case c6 => omega
         case c7 => have h1 : G < V.heap.size := hGV; have h2 := f2.size; omega
         intro v1 w1 r1 f1 o1
         have f21 : Fr (fun _ => False) w2 w1 := f1.mono (fun k _ e => by cases e)
         rw [Nat.zero_add, List.nil_append] at r1
         obtain ⟨g, cap1, hv1, hg1, hg2, hg3, hgc, hgf, hgs⟩ := own_four r1 hkl ⟨op, n, t, b⟩
         subst hv1
         have y0 : w1.cell? ⟨g, k * 4, none⟩ = some (ci op) := hgc _ _ (hatH 0 _ rfl)
         have y1 : w1.cell? ⟨g, k * 4 + 1, none⟩ = some (ci nn) := hgc _ _ (hatH 1 _ rfl)
         have y2 : w1.cell? ⟨g, k * 4 + 2, none⟩ = some (ci t) := hgc _ _ (hatH 2 _ rfl)
         have y3 : w1.cell? ⟨g, k * 4 + 3, none⟩ = some (.int .u64 b) := hgc _ _ (hatH 3 _ rfl)
         have fy0 := hgf (k * 4)
         have fy1 := hgf (k * 4 + 1)
         have fy2 := hgf (k * 4 + 2)
         have fy3 := hgf (k * 4 + 3)
         have z0 := (f2.same f21).cellN d0
         have z1 := (f2.same f21).cellN d1
         have z2 := (f2.same f21).cellN d2
         have z3 := (f2.same f21).cellN d3
         have hcapi : cap1 ≤ 9223372036854775807 := by simpa [maxLen] using hg3
         have fw1 : Hidden (Fr (fun _ => False) w w1) := (show Fr (fun _ => False) w V from fVH).same (f2.same f21)
         have hgsH : Hidden _ := hgs
         have hg1H : Hidden (G ≤ g) := hg1
         clear f1 o1 r1 hg1 hg3 hgc hgf hgs f21))
    go_ret2
    refine ⟨_, by first | rfl | (rw [e]; rfl), ?_, ?_⟩
    · have e2 : R.2 = l.set k ⟨op, n, t, b⟩ := by rw [e]
      first
        | (show IW _ w.heap.size _ _ (l.set k ⟨op, n, t, b⟩))
        | rw [e2]
      unfold IW
      rw [List.length_set, show l.length = m from hmH, show w.heap.size = G from hGH]
      exact hgsH
    · exact (show Fr (fun _ => False) w w1 from fw1).over (four_fr_at w1 g (k * 4) _ _ _ _) (fun q e => by have h1 : G ≤ g := hg1H; have h2 : w.heap.size = G := hGH; omega)
  · have hrf : rightS ⟨op, n, t, b⟩ = false := by simpa using hri
    have e : R = (51, []) := by rw [show R = _ from hRe, if_neg hri]
    rw [hrf] at kr
    clear hri hrf
    go_wp2_with (first
      | (go_at_call 9; refine (kr _).mono ?_; rintro e' w2 ⟨rfl, f2⟩))
    go_ret2
    exact ⟨_, by rw [e]; rfl, by rw [e]; exact IW.nil _ _ _, fV.same f2⟩
end Go.Proofs.YticpiaonkgomfaaDoor.Cd

namespace Go.Proofs.YticpiaonkgomfaaDoor.Cd
open Go.RowKit Ty
set_option linter.unusedSimpArgs false
set_option linter.unusedVariables false

set_option maxRecDepth 20000 in
set_option maxHeartbeats 8000000 in
theorem patches_walk (ao : Option Addr) (m cap : Nat) (l : List In) (a n : Int) (W : World) (hm : l.length = m) (hl : IL W ao cap l) (hok : ∀ i ∈ l, OkIn i) (hm2 : m ≤ 4398046510976) (ht : F.Tab W) :
    Calls Tryd.prog 5 #[.slice ao m cap, ci a, ci n] W fun e w' => e = .returned (.bool true) ∧ Fr (fun _ => False) W w' := by
  have hub : ∀ i ∈ l, U64 i.b := fun i hi => (hok i hi).b
  have km := mine_any ao m cap l hm W hl hm2
  have hlH : Hidden (IL W ao cap l) := hl
  have hmH : Hidden (l.length = m) := hm
  have hubH : Hidden (∀ i ∈ l, U64 i.b) := hub
  clear hl hm hok hub
  go_enter Tryd.func5, Tryd.ntmps5
  go_wp2_with fail
  go_at_call 18
  refine km.mono ?_
  rintro e w2 ⟨ov, rfl, hO, f2⟩
  have fw2 : Hidden (Fr (fun _ => False) W w2) := f2
  obtain ⟨oo, co, rfl, hil⟩ := hO.il
  rw [show l.length = m from hmH]
  have ilH : Hidden (IL w2 oo co l) := hil
  have kp := patch_any oo m co l hmH a n w2 hil hubH hm2
  clear km f2 hO hil
  go_wp2_with fail
  go_at_call 19
  refine kp.mono ?_
  rintro e w3 ⟨av, rfl, hA, f3⟩
  have fw3 : Hidden (Fr (fun _ => False) w2 w3) := f3
  have kr := rpatch_any ao m cap l hmH a n w3 ((show IL W ao cap l from hlH).keep ((show Fr _ W w2 from fw2).same f3)) hubH hm2
  obtain ⟨E, hE⟩ : ∃ E, (patS l a n).1 = E := ⟨_, rfl⟩
  obtain ⟨L, hL⟩ : ∃ L, (patS l a n).2 = L := ⟨_, rfl⟩
  rw [hE] at kr ⊢
  rw [hL] at kr hA
  obtain ⟨q, hq⟩ : ∃ q, L.length = q := ⟨_, rfl⟩
  have hqH : Hidden (L.length = q) := hq
  obtain ⟨aa, ca, rfl, hila⟩ := hA.il
  have hAH : Hidden (IW w3 w2.heap.size 27 (.slice aa L.length ca) L) := hA
  rw [hq] at hAH ⊢
  have ilaH : Hidden (IL w3 aa ca L) := hila
  have hqc : q ≤ ca := by rw [← hq]; exact hila.1
  have hcm : ca ≤ 9223372036854775807 := by have := hila.2.1; simpa [maxLen] using this
  clear kp hE hL f3 hA hila hq
  go_wp2_with fail
  go_at_call 20
  refine kr.mono ?_
  rintro e w4 ⟨bv, rfl, hB, f4⟩
  obtain ⟨ba, cb, rfl, hilb⟩ := hB.il
  rw [show L.length = q from hqH]
  have kS := sameCode_any aa ba q q ca cb L L hqH hqH true (show _ = _ by simp) w4 ((show IL w3 aa ca L from ilaH).keep f4) hilb
  have fw4 : Hidden (Fr (fun _ => False) w2 w4) := (show Fr _ w2 w3 from fw3).same f4
  have f34 : Hidden (Fr (fun _ => False) w3 w4) := f4
  clear kr hB hilb f4
  go_wp2_with fail
  go_at_call 17
  refine kS.mono ?_
  rintro e w5 ⟨rfl, f5⟩
  have fw5 : Hidden (Fr (fun _ => False) w2 w5) := (show Fr _ w2 w4 from fw4).same f5
  have f35 : Hidden (Fr (fun _ => False) w3 w5) := (show Fr _ w3 w4 from f34).same f5
  have kS2 := sameCode_any oo ao m m co cap l l hmH hmH true (show _ = _ by simp) w5 ((show IL w2 oo co l from ilH).keep fw5) ((show IL W ao cap l from hlH).keep ((show Fr _ W w2 from fw2).same fw5))
  clear kS f5 fw4 f34
  go_wp2_with fail
  go_at_call 17
  refine kS2.mono ?_
  rintro e w6 ⟨rfl, f6⟩
  have fw6 : Hidden (Fr (fun _ => False) w2 w6) := (show Fr _ w2 w5 from fw5).same f6
  have hA6 : Hidden (w6.ownsRow w2.heap.size 27 4 (.slice aa q ca) q (L.flatMap inC)) := by
    have h1 := own_keep (show IW w3 _ _ _ L from hAH) ((show Fr _ w3 w5 from f35).same f6) (fun _ _ f => f)
    rw [show L.length = q from hqH] at h1
    exact h1
  have hlow : Hidden (∀ k, (Value.slice aa q ca).ownBlock = some k → w2.heap.size ≤ k ∧ k < w6.heap.size) := own_block hA6
  clear kS2 f6 fw5 f35
  go_wp2_with fail
  go_loopg [12] q (fun k iv wr => ∃ (j : Nat) (cells : List Value), iv = .int .i64 (j : Int) ∧ j ≤ q ∧ k = q - j ∧ wr.ownsRow w2.heap.size 27 4 (.slice aa q ca) q cells ∧ Fr (fun k => (Value.slice aa q ca).ownBlock = some k) w6 wr)
  case atStart => exact ⟨0, _, rfl, by omega, rfl, hA6, Fr.refl _ _⟩
  case round =>
    obtain ⟨j, cells, rfl, hj, hk, hO, hf⟩ := hrel
    have hkH : Hidden (gk = q - j) := hk
    have hfH : Hidden (Fr (fun k => (Value.slice aa q ca).ownBlock = some k) w6 wr) := hf
    clear hk
    by_cases hjl : j < q
    · have hcl : cells.length = q * 4 := hO.1
      obtain ⟨g, cap', cur, hv, _, _, _, _, hgc, hgf, hgs⟩ := own_at hO (j * 4) (by omega)
      simp only [Value.slice.injEq, true_and] at hv
      obtain ⟨rfl, rfl⟩ := hv
      obtain ⟨u, hu⟩ : ∃ u, cells[j * 4]? = some u := ⟨_, List.getElem?_eq_getElem (by omega)⟩
      have c0 := hgc _ _ hu
      have fz := hgf (j * 4)
      have hgsH : Hidden _ := hgs
      clear hu hcl hgc hgf hgs hO hf
      go_wp2_with fail
      go_roundg (q - (j + 1))
      case measure => have : gk = q - j := hkH; omega
      case rel =>
        exact ⟨j + 1, _, by go_num, by omega, rfl, hgsH _, (show Fr _ w6 wr from hfH).same ((Fr.setCell wr ⟨g, j * 4, none⟩ _).mono (fun k _ e => by have : k = g := e; subst this; rfl))⟩
    · obtain rfl : j = q := by omega
      have f2r : Fr (fun _ => False) w2 wr := (show Fr _ w2 w6 from fw6).over hf (fun k e => ((show ∀ k, _ → _ from hlow) k e).1)
      have fWr := (show Fr (fun _ => False) W w2 from fw2).same f2r
      have kS3 := sameCode_any oo ao m m co cap l l hmH hmH true (show _ = _ by simp) wr ((show IL w2 oo co l from ilH).keep f2r) ((show IL W ao cap l from hlH).keep fWr)
      clear hjl hf hO f2r
      go_wp2_with fail
      go_at_call 17
      refine kS3.mono ?_
      rintro e w7 ⟨rfl, f7⟩
      have fw7 := fWr.same f7
      have klive := live_any w7 (tab_fr ht fw7)
      clear kS3 f7 fWr
      go_wp2_with fail
      go_at_call 14
      refine klive.mono ?_
      rintro e w8 ⟨rfl, f8⟩
      go_wp2_with fail
      go_ret
      exact ⟨rfl, fw7.same f8⟩
end Go.Proofs.YticpiaonkgomfaaDoor.Cd
namespace Go.Proofs.YticpiaonkgomfaaDoor.codePatches
open Go.RowKit Ty Cd
theorem walk (v : Value) (l : List In) (a n : Int) (W : World) (hx : InsA W v l) (_ : (Lit.int .i64 a).wf = true) (_ : (Lit.int .i64 n).wf = true) (ht : F.Tab W) : Calls Tryd.prog 5 #[v, .int .i64 a, .int .i64 n] W fun e w' => e = .returned (.bool true) ∧ Fr (fun _ => False) W w' := by
  obtain ⟨ao, cap, rfl, h1, h2, h3⟩ := hx
  exact patches_walk ao l.length cap l a n W rfl h1 h2 h3 ht
end Go.Proofs.YticpiaonkgomfaaDoor.codePatches
