/- append of a row, which may lie nowhere, to a row of the call's own; CodeDecodes. -/
import Derived.Test.YticpiaonkgomfaaDoorCdRd
import Derived.Test.YticpiaonkgomfaaDoorCdBk
namespace Go.Proofs.YticpiaonkgomfaaDoor.Cd
open Go.RowKit Ty
set_option linter.unusedSimpArgs false
set_option linter.unusedVariables false

theorem wpl_app {w : World} {ops : Array Oper} {rest : List Oper} {o : Oper} {a : Act} {Q : Exit → Act → World → Prop} (hgd : o.guard = none) (s x : Operand) (ty e : TypeId) (z : Value) (size bytes : Nat)
    (hty : Tryd.prog.underlying ty = some (.slice e)) (hinfo : (Tryd.prog.info? e).map (fun i => (i.zero, i.size, i.bytes)) = some (some z, size, bytes)) (hzs : z.cells.size = size) (hsz : 0 < size)
    (ho : o.op = .call { callee := .builtin .append, args := #[s, x], argTypes := #[ty, ty] }) (B : Nat) (v : Value) (n : Nat) (cells : List Value) (lo : Option Addr) (k c : Nat) (news : List Value)
    (hs : a.eval s = v) (hr : w.ownsRow B e size v n cells) (hx : a.eval x = .slice lo k c) (hl : news.length = k * size) (hnil : lo = none → k = 0 ∧ c = 0) (hc : ∀ ad, lo = some ad → ∀ (j : Nat) (u : Value), news[j]? = some u → w.cell? (ad.add j) = some u) (h1 : ∀ u ∈ news, u.oneCell' = true)
    (hm : n + k ≤ maxLen) (hb : (n + k) * bytes ≤ 140737488355328) (hB : B ≤ w.heap.size)
    (h : ∀ v' w', w'.ownsRow B e size v' (n + k) (cells ++ news) → Fr (fun b => v.ownBlock = some b) w w' → (v'.ownBlock = v.ownBlock ∨ v'.ownBlock = some w.heap.size) → wpList Tryd.prog ops Q rest (a.put o.dst v') w') : wpList Tryd.prog ops Q (o :: rest) a w := by
  cases lo with
  | some ad => exact wpl_append hgd s x ty e z size bytes hty hinfo hzs hsz ho B v n cells ad k c news hs hr hx hl (hc ad rfl) h1 hm hb hB h
  | none =>
    obtain ⟨rfl, rfl⟩ := hnil rfl
    have hn0 : news = [] := List.eq_nil_of_length_eq_zero (by rw [hl, Nat.zero_mul])
    subst hn0
    refine wpList_plain hgd fun K hK => ?_
    cases hi : Tryd.prog.info? e with
    | none => rw [hi] at hinfo; cases hinfo
    | some i =>
      have hrun := run_append_owned_none (P := Tryd.prog) (w := w) B ty o.type e i size hty hi v n cells hr
      unfold Oper.wp
      simp only [execOp, ho, resolve, invoke, builtin, Sem.run_bind, Sem.run_pure, Result.andThen_ok, List.map_toArray, List.map_cons, List.map_nil, hs, hx, hrun]
      exact hK _ _ (h v w (by simpa using hr) (Fr.refl _ _) (Or.inl rfl))
theorem own_new {w : World} {B g : Nat} {e : TypeId} (size : Nat) (hB : B ≤ g) (hg : w.heap[g]? = some (.cells #[] e (0, 0))) : w.ownsRow B e size (.slice (some ⟨g, 0, none⟩) 0 0) 0 [] :=
  ⟨by simp, Or.inr ⟨g, 0, #[], rfl, hB, hg, Nat.le_refl _, by decide, by simp, by simp⟩⟩
theorem byC_one (l : Bs) : ∀ u ∈ byC l, u.oneCell' = true := by
  intro u hu
  obtain ⟨c, _, rfl⟩ := List.mem_map.1 hu
  rfl
theorem BL.cells {w : World} {ao : Option Addr} {cap : Nat} {l : Bs} (h : BL w ao cap l) : (ao = none → l.length = 0 ∧ cap = 0) ∧ ∀ ad, ao = some ad → ∀ (j : Nat) (u : Value), (byC l)[j]? = some u → w.cell? (ad.add j) = some u := by
  obtain ⟨h1, h2, h3, h4⟩ := h
  refine ⟨fun e => ⟨by have := h3 e; omega, h3 e⟩, fun ad e j u hu => ?_⟩
  rcases h4 with rfl | ⟨b, off, e2, h4⟩
  · simp [byC] at hu
  · rw [e] at e2
    obtain rfl := Option.some.inj e2
    unfold byC at hu
    rw [List.getElem?_map] at hu
    cases hc : l[j]? with
    | none => rw [hc] at hu; cases hu
    | some c =>
      rw [hc] at hu
      obtain rfl := Option.some.inj hu
      rw [Addr.add_lit]
      exact h4 j c hc
set_option maxRecDepth 20000 in
set_option maxHeartbeats 4000000 in
theorem decodes_walk (bo : Option Addr) (n cap : Nat) (b : Bs) (W : World) (hn : b.length = n) (hbl : BL W bo cap b) (hn2 : n ≤ 140737488351232) (ht : F.Tab W) :
    Calls Tryd.prog 4 #[.slice bo n cap] W fun e w' => e = .returned (.bool true) ∧ Fr (fun _ => False) W w' := by
  have hblH : Hidden (BL W bo cap b) := hbl
  have hnH : Hidden (b.length = n) := hn
  have hcb := hbl.cells
  rw [hn] at hcb
  have hcbH : Hidden _ := hcb
  have hR : Hidden ((decS b).2 = (decS b).2) := rfl
  clear hbl hn hcb
  go_enter Tryd.func4, Tryd.ntmps4
  go_upto_region 1 with fail
  go_wp2_with (at_builtin
               refine wpl_app rfl _ _ 35 5 (.int .u8 0) 1 1 Tryd.underlying35 info_u8 rfl (by decide) rfl W.heap.size (.slice (some ⟨W.heap.size, 0, none⟩) 0 0) 0 [] bo n cap (byC b) rfl ?c0 rfl ?c1 ?c2 ?c3 ?c4 ?c5 ?c6 ?c7 ?_
               case c0 => exact own_new 1 (Nat.le_refl _) (alloc_new W _)
               case c1 => rw [byC_len, show b.length = n from hnH, Nat.mul_one]
               case c2 => exact hcbH.1
               case c3 => exact fun ad e j u hu => (Fr.alloc (fun _ => False) W _).cellN (hcbH.2 ad e j u hu)
               case c4 => exact byC_one b
               case c5 => simp [maxLen]; omega
               case c6 => omega
               case c7 => simp
               intro v1 w1 r1 f1 o1
               have fw1 : Fr (fun _ => False) W w1 := (Fr.alloc (fun _ => False) W _).over f1 (fun k e => by
                 have : W.heap.size = k := by simpa [Value.ownBlock] using e
                 omega)
               obtain ⟨ao1, cap1, hv1, hb1⟩ := Bw.bl (l := b) (show Bw w1 W.heap.size v1 b from by unfold Bw; rw [show b.length = n from hnH]; simpa using r1)
               rw [show b.length = n from hnH] at hv1
               subst hv1
               have kd := decode_any ao1 n cap1 b hnH w1 hb1
               have fw1H : Hidden (Fr (fun _ => False) W w1) := fw1
               clear r1 f1 o1 hb1 fw1)
  go_at_call 15
  refine kd.mono ?_
  rintro e w2 ⟨v2, rfl, hI2, f2⟩
  have fw2 := (show Fr (fun _ => False) W w1 from fw1H).same f2
  obtain ⟨ao2, cap2, rfl, hil2⟩ := hI2.il
  have kr := rdecode_any bo n cap b hnH w2 ((show BL W bo cap b from hblH).keep fw2)
  have hil2H : Hidden (IL w2 ao2 cap2 (decS b).2) := hil2
  obtain ⟨L, hL⟩ : ∃ L, (decS b).2 = L := ⟨_, rfl⟩
  obtain ⟨E, hE⟩ : ∃ E, (decS b).1 = E := ⟨_, rfl⟩
  rw [hL] at hil2H kr ⊢
  rw [hE] at kr ⊢
  obtain ⟨m, hm⟩ : ∃ m, L.length = m := ⟨_, rfl⟩
  have hmH : Hidden (L.length = m) := hm
  have fw2H : Hidden (Fr (fun _ => False) W w2) := fw2
  rw [hm]
  clear kd hI2 hil2 f2 hL hE hm
  go_wp2_with fail
  go_at_call 16
  refine kr.mono ?_
  rintro e w3 ⟨v3, rfl, hI3, f3⟩
  obtain ⟨ao3, cap3, rfl, hil3⟩ := hI3.il
  have kS := sameCode_any ao2 ao3 m m cap2 cap3 L L hmH hmH true (show _ = _ by simp) w3 ((show IL w2 ao2 cap2 L from hil2H).keep f3) hil3
  rw [show L.length = m from hmH]
  have fw3 := fw2.same f3
  clear kr hI3 hil3 f3 fw2
  go_wp2_with fail
  go_at_call 17
  refine kS.mono ?_
  rintro e w4 ⟨rfl, f4⟩
  have fw4 := fw3.same f4
  have klive := live_any w4 (tab_fr ht fw4)
  clear kS f4 fw3
  go_wp2_with fail
  go_at_call 14
  refine klive.mono ?_
  rintro e w5 ⟨rfl, f5⟩
  go_wp2_with fail
  go_ret
  exact ⟨rfl, fw4.same f5⟩
end Go.Proofs.YticpiaonkgomfaaDoor.Cd
namespace Go.Proofs.YticpiaonkgomfaaDoor.codeDecodes
open Go.RowKit Ty Cd
theorem walk (u : Value) (b : Bs) (W : World) (hy : BytA W u b) (ht : F.Tab W) : Calls Tryd.prog 4 #[u] W fun e w' => e = .returned (.bool true) ∧ Fr (fun _ => False) W w' := by
  obtain ⟨bo, capb, rfl, h4, h5⟩ := hy
  exact decodes_walk bo b.length capb b W rfl h4 h5 ht
end Go.Proofs.YticpiaonkgomfaaDoor.codeDecodes
