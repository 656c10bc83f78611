/- The document's New. -/
import Derived.Test.YtajefmmggefbeaaDgW7
import Derived.Deep.DeepCutAuto
import Derived.Deep.RegionLaw
namespace Go.Proofs.Ytajefmmggefbeaa.Dg
open Go.RowKit Go.Sort
set_option linter.unusedSimpArgs false
set_option linter.unusedVariables false

theorem map_take_snoc {nl : List Nd} {j : Nat} {n : Nd} (h : nl[j]? = some n) : (nl.take (j + 1)).map (·.1) = (nl.take j).map (·.1) ++ [n.1] := by
  rw [List.take_add_one, h]; simp
theorem mem_take_snoc {α : Type} {l : List α} {j : Nat} {x y : α} (h : l[j]? = some x) (hy : y ∈ l.take (j + 1)) : y ∈ l.take j ∨ y = x := by
  rw [List.take_add_one, h] at hy
  simpa using hy
/-- Where the document has come to with its nodes. -/
def MkAt (g : Gr) (Bx : Nat) (w4 wr : World) (i : Nat) : Prop := ∃ v xs, BoxV wr Bx v ∧ OwR wr w4.heap.size v xs ((g.ks.take i).map fun s => (s, g.im s)) ∧ Fr (fun k => k = Bx) w4 wr
theorem Tl.lowE {w : World} {v : Value} {l : List Str} (h : Tl w v l) (hl : l ≠ []) : ∀ k, v.ownBlock = some k → k < w.heap.size := by
  intro k hk
  obtain ⟨ao, cap, rfl, _, _, _, h4⟩ := h
  rcases h4 with h0 | ⟨b, off, rfl, hc⟩
  · exact absurd h0 hl
  · have hb : b = k := by simpa [Value.ownBlock] using hk
    subst hb
    obtain ⟨x, hx⟩ : ∃ x, l[0]? = some x := by
      cases l with
      | nil => exact absurd rfl hl
      | cons x l => exact ⟨x, rfl⟩
    exact World.block_lt_of_cell? w _ (hc 0 x hx)
theorem MkAt.next {g : Gr} {Bx : Nat} {w4 wr w7 w8 : World} {i : Nat} {s : Str} {v v7 v8 : Value} {xs : List (Str × Value)} {ob : Obj} (hs : g.ks[i]? = some s) (hb : BoxV wr Bx v) (ho : OwR wr w4.heap.size v xs ((g.ks.take i).map fun s => (s, g.im s))) (hf : Fr (fun k => k = Bx) w4 wr) (hBx : Bx < w4.heap.size)
    (t7 : To w7 wr.heap.size v7 (g.im s)) (f7 : Fr (fun _ => False) wr w7) (r8 : RowR w8 w4.heap.size v8 (xs ++ [(s, v7)])) (f8 : Fr (fun k => v.ownBlock = some k) (w7.alloc ob) w8) (o8 : v8.ownBlock = v.ownBlock ∨ v8.ownBlock = some (w7.alloc ob).heap.size) : MkAt g Bx w4 (w8.setCell ⟨Bx, 0, none⟩ v8) (i + 1) := by
  have fa := Fr.alloc (fun _ => False) w7 ob
  have low := ho.row.low
  have h8 : OwR w8 w4.heap.size v8 (xs ++ [(s, v7)]) ((g.ks.take i).map (fun s => (s, g.im s)) ++ [(s, g.im s)]) := by
    refine OwR.snoc ((ho.keep f7 (fun _ _ _ f => f)).keep fa (fun _ _ _ f => f)) f8 r8 o8 ((To.lower t7 hf.size).later fa) (fun k hk e => ?_)
    have h1 := (t7.own k hk).1
    have h2 := (low k e).2
    omega
  refine ⟨v8, xs ++ [(s, v7)], ?_, ?_, ?_⟩
  · have b7 : BoxV (w7.alloc ob) Bx v := (hb.keep f7 (fun f => f)).keep fa (fun f => f)
    have b8 : BoxV w8 Bx v := b7.keep f8 (fun e => by have := (low Bx e).1; omega)
    exact b8.set v8
  · rw [take_snoc hs, List.map_append]
    exact h8.keep (Fr.setCell w8 ⟨Bx, 0, none⟩ v8) (fun k h1 _ e => by have h2 : k = Bx := e; omega)
  · have a1 : Fr (fun k => k = Bx) w4 (w7.alloc ob) := (hf.same (f7.mono fun _ _ f => f.elim)).same (fa.mono fun _ _ f => f.elim)
    have a2 : Fr (fun k => k = Bx) w4 w8 := a1.over f8 (fun k hk => (low k hk).1)
    exact a2.same (Fr.setCell w8 ⟨Bx, 0, none⟩ v8)
set_option maxRecDepth 20000 in
set_option maxHeartbeats 16000000 in
theorem rnew_main (ao : Option Addr) (cap : Nat) (nl : List Nd) (w : World) (h : NL w (.slice ao nl.length cap) nl) (hok : ∀ n ∈ nl, OkN n.1 ∧ ∀ x ∈ n.2, OkN x) (h32 : nl.length ≤ 32) :
    Calls Try.prog 28 #[.slice ao nl.length cap] w fun e w' => RNewR w nl e w' ∧ Fr (fun _ => False) w w' := by
  have hH : Hidden (NL w (.slice ao nl.length cap) nl) := h
  have hokH : Hidden (∀ n ∈ nl, OkN n.1 ∧ ∀ x ∈ n.2, OkN x) := hok
  have hcap : nl.length ≤ cap ∧ cap ≤ 9223372036854775807 := by obtain ⟨_, _, e, q1, q2, _⟩ := h; cases e; exact ⟨q1, q2⟩
  obtain ⟨hc1, hc2⟩ := hcap
  have hz : ¬ (32 : Int) < (nl.length : Int) := by omega
  clear h hok
  go_enter Try.func28, Try.ntmps28
  go_wp2_with fail
  go_loopg [4] nl.length (fun k iv wr => ∃ j : Nat, iv = .int .i64 (j : Int) ∧ j ≤ nl.length ∧ k = nl.length - j ∧ (∀ n ∈ nl.take j, n.2.length ≤ 16) ∧ wr = w)
  case atStart => exact ⟨0, rfl, by omega, rfl, by simp, rfl⟩
  case round =>
    obtain ⟨j, rfl, hj, hk, hsm, hw⟩ := hrel
    subst hw
    have hkH : Hidden (gk = nl.length - j) := hk
    have hsmH : Hidden (∀ n ∈ nl.take j, n.2.length ≤ 16) := hsm
    clear hk hsm
    by_cases hjl : j < nl.length
    · obtain ⟨⟨s, imps⟩, hn⟩ : ∃ n, nl[j]? = some n := ⟨nl[j], List.getElem?_eq_getElem hjl⟩
      obtain ⟨b, off, aoi, capi, rfl, c1, c2, htl⟩ := NL.at (show NL wr _ nl from hH) hn
      simp only at c1 c2 htl
      by_cases h16 : 16 < imps.length
      · have he : Hidden (newE nl = 3) := by
          show _ = _
          unfold newE
          rw [if_pos]
          unfold bigS
          rw [Bool.or_eq_true]
          right
          rw [List.any_eq_true]
          exact ⟨(s, imps), List.mem_of_getElem? hn, by simpa using h16⟩
        have hz2 : (16 : Int) < (imps.length : Int) := by omega
        clear hn htl h16
        generalize imps.length = m at *
        go_wp2
        go_ret2
        exact ⟨Or.inl ⟨by rw [(show newE nl = 3 from he)]; decide, by rw [(show newE nl = 3 from he)]; rfl⟩, Fr.refl _ _⟩
      · have hz2 : ¬ (16 : Int) < (imps.length : Int) := by omega
        have hs2 : Hidden (∀ n ∈ nl.take (j + 1), n.2.length ≤ 16) := fun n hm => by
          rcases mem_take_snoc hn hm with q | q
          · exact (show ∀ n ∈ nl.take j, n.2.length ≤ 16 from hsmH) n q
          · subst q; show imps.length ≤ 16; omega
        clear hn htl h16
        generalize imps.length = m at *
        go_wp2
        go_roundg (nl.length - (j + 1))
        case measure => have := (show gk = nl.length - j from hkH); omega
        case rel => exact ⟨j + 1, by go_num, by omega, rfl, hs2, rfl⟩
    · obtain rfl : j = nl.length := by omega
      have him : Hidden (∀ n ∈ nl, n.2.length ≤ 16) := by
        have := (show ∀ n ∈ nl.take nl.length, n.2.length ≤ 16 from hsmH)
        rw [List.take_length] at this
        exact this
      have hbig : Hidden (bigS nl = false) := by
        show _ = _
        unfold bigS
        rw [Bool.or_eq_false_iff]
        refine ⟨by simpa using h32, List.any_eq_false.2 fun n hn => ?_⟩
        have := (show ∀ n ∈ nl, n.2.length ≤ 16 from him) n hn
        simpa using this
      obtain ⟨W0, hW0⟩ : ∃ V, V = wr := ⟨wr, rfl⟩
      subst hW0
      clear hsmH hkH
      go_wp2_with fail
      go_loopg [5, 6] nl.length (fun k nv iv wr => ∃ j : Nat, iv = .int .i64 (j : Int) ∧ j ≤ nl.length ∧ k = nl.length - j ∧ To wr W0.heap.size nv ((nl.take j).map (·.1)) ∧ (∀ n ∈ nl.take j, badN n.1 = false ∧ ∀ x ∈ n.2, badN x = false) ∧ Fr (fun _ => False) W0 wr)
      case atStart => exact ⟨0, rfl, by omega, rfl, To.nil _ _, by simp, Fr.refl _ _⟩
      case round =>
        obtain ⟨j, rfl, hj2, hk, hto, hgood, hf⟩ := hrel
        have hkH : Hidden (gk = nl.length - j) := hk
        have htoH : Hidden (To wr W0.heap.size u5 ((nl.take j).map (·.1))) := hto
        have hgoodH : Hidden (∀ n ∈ nl.take j, badN n.1 = false ∧ ∀ x ∈ n.2, badN x = false) := hgood
        have hfH : Hidden (Fr (fun _ => False) W0 wr) := hf
        clear hk hgood
        by_cases hjl2 : j < nl.length
        · obtain ⟨⟨s, imps⟩, hn⟩ : ∃ n, nl[j]? = some n := ⟨nl[j], List.getElem?_eq_getElem hjl2⟩
          obtain ⟨b, off, aoi, capi, e1, c1, c2, htl⟩ := NL.at (NL.later hH hf) hn
          subst e1
          simp only at c1 c2 htl
          have hnH : Hidden (nl[j]? = some (s, imps)) := hn
          have htlH : Hidden (Tl wr (.slice aoi imps.length capi) imps) := htl
          have himp : Hidden (imps.length ≤ 16) := (show ∀ n ∈ nl, n.2.length ≤ 16 from him) _ (List.mem_of_getElem? hn)
          have hokn : Hidden (OkN s ∧ ∀ x ∈ imps, OkN x) := (show ∀ n ∈ nl, OkN n.1 ∧ ∀ x ∈ n.2, OkN x from hokH) _ (List.mem_of_getElem? hn)
          have hlen : Hidden (((nl.take j).map (·.1)).length ≤ j) := by show _ ≤ _; simp; omega
          have hbl : Hidden (b < W0.heap.size) := by
            obtain ⟨bq, oq, _, _, eq, cq, _⟩ := NL.at (show NL W0 _ nl from hH) hn
            simp only [Option.some.injEq, Addr.mk.injEq, and_true] at eq
            rw [eq.1]
            exact World.block_lt_of_cell? W0 _ cq
          obtain ⟨gko, hgko⟩ : ∃ gko, gko = gk := ⟨gk, rfl⟩
          subst hgko
          clear hn htl hto hf
          go_wp2_with (at_builtin; refine wpList_app rfl _ _ rfl W0.heap.size _ _ _ [s] rfl (To.keep htoH (Fr.alloc (fun _ => False) _ _) (fun _ _ f => f)) rfl (Tl.one _ s) (Nat.le_trans (show Fr (fun _ => False) W0 wr from hfH).size (by simp)) (by have : _ ≤ j := hlen; simp only [List.length_cons, List.length_nil]; omega) ?_; intro v3 w3 ht3 f3 _)
          have f3H : Hidden (Fr (fun _ => False) W0 w3) := ((show Fr (fun _ => False) W0 wr from hfH).same (Fr.alloc _ _ _)).over f3 fun k hk => ((show To wr W0.heap.size _ _ from htoH).own k hk).1
          have t3H : Hidden (To w3 W0.heap.size v3 ((nl.take (j + 1)).map (·.1))) := by
            rw [map_take_snoc (show nl[j]? = some (s, imps) from hnH)]
            exact ht3
          have d1 : w3.cell? ⟨b, off + j * 2, none⟩ = some (ct s) := by
            obtain ⟨b', off', _, _, e1, q1, q2, _⟩ := NL.at (NL.later hH f3H) (show nl[j]? = some (s, imps) from hnH)
            cases e1
            exact q1
          obtain ⟨aoi3, capi3, d2, d3⟩ : ∃ aoi3 capi3, w3.cell? ⟨b, off + j * 2 + 1, none⟩ = some (.slice aoi3 imps.length capi3) ∧ Tl w3 (.slice aoi3 imps.length capi3) imps := by
            obtain ⟨b', off', aq, cq, e1, q1, q2, q3⟩ := NL.at (NL.later hH f3H) (show nl[j]? = some (s, imps) from hnH)
            cases e1
            exact ⟨aq, cq, q2, q3⟩
          have d3H : Hidden (Tl w3 (.slice aoi3 imps.length capi3) imps) := d3
          have hsz : Hidden (W0.heap.size ≤ w3.heap.size) := (show Fr (fun _ => False) W0 w3 from f3H).size
          have hb5 : (([s] : List Str).length + imps.length) * 16 ≤ 140737488355328 := by have : imps.length ≤ 16 := himp; simp; omega
          clear ht3 f3 c1 c2 d3 htlH
          go_region_held3 (fun w' => w'.cell? ⟨b, off + j * 2, none⟩ = some (ct s) ∧ w'.cell? ⟨b, off + j * 2 + 1, none⟩ = some (.slice aoi3 imps.length capi3)) (first | (refine ⟨by with_reducible assumption, by with_reducible assumption⟩) | go_keep) (first
            | (first
                 | refine step_app rfl _ _ rfl W0.heap.size (.slice (some ⟨w3.heap.size, 0, none⟩) 1 1) _ [s] imps rfl (To.later (To.one w3 s W0.heap.size hsz) (Fr.drew _ _)) rfl (Tl.later d3H ((Fr.alloc _ _ _).same (Fr.drew _ _))) (Nat.le_trans hsz (by simp)) hb5 ?_
                 | refine step_app rfl _ _ rfl W0.heap.size (.slice (some ⟨w3.heap.size, 0, none⟩) 1 1) _ [s] imps rfl (To.one w3 s W0.heap.size hsz) rfl (Tl.later d3H (Fr.alloc _ _ _)) (Nat.le_trans hsz (by simp)) hb5 ?_
                 | refine step_app rfl _ _ rfl W0.heap.size (.slice (some ⟨w3.heap.size, 0, none⟩) 1 1) _ [s] imps rfl (To.one w3.drew s W0.heap.size hsz) rfl (Tl.later d3H ((Fr.drew _ _).same (Fr.alloc _ _ _))) (Nat.le_trans hsz (by simp)) hb5 ?_
               intro v5 w5 t5 f5 o5
               have g5 : Fr (fun k => k = w3.heap.size) w3 w5 := by
                 have hk : ∀ k, (Value.slice (some (⟨w3.heap.size, 0, none⟩ : Addr)) 1 1).ownBlock = some k → k = w3.heap.size := fun k hk => by
                   have : w3.heap.size = k := by simpa [Value.ownBlock] using hk
                   exact this.symm
                 first
                   | exact (((Fr.alloc (fun k => k = w3.heap.size) w3 _).same (Fr.drew _ _)).same (f5.mono fun k _ e => hk k e))
                   | exact ((Fr.alloc (fun k => k = w3.heap.size) w3 _).same (f5.mono fun k _ e => hk k e))
                   | exact (((Fr.drew (fun k => k = w3.heap.size) w3).same (Fr.alloc _ _ _)).same (f5.mono fun k _ e => hk k e))
               have hb' : b < W0.heap.size := hbl
               have hsz' : W0.heap.size ≤ w3.heap.size := hsz
               have e1 := g5.cell d1 (fun e => by have h1 : b = w3.heap.size := e; omega)
               have e2 := g5.cell d2 (fun e => by have h1 : b = w3.heap.size := e; omega)
               have t5H : Hidden (To w5 W0.heap.size v5 (s :: imps)) := t5
               have g5H : Hidden (Fr (fun k => k = w3.heap.size) w3 w5) := g5
               clear t5 f5 o5 g5 hb' hsz'))
          obtain ⟨ao5, cap5, hv5, q1, q2⟩ := (show To w5 W0.heap.size v5 (s :: imps) from t5H).shape
          subst hv5
          have f5W : Hidden (Fr (fun _ => False) W0 w5) := Fr.over f3H g5H (fun k hk => by have : W0.heap.size ≤ w3.heap.size := hsz; omega)
          have t35 : Hidden (To w5 W0.heap.size v3 ((nl.take (j + 1)).map (·.1))) := To.keep t3H g5H (fun k hk e => by have := ((show To w3 W0.heap.size v3 _ from t3H).own k hk).2; omega)
          clear d1 d2 e1 e2
          obtain ⟨all, hall⟩ : ∃ l, l = s :: imps := ⟨_, rfl⟩
          rw [← hall] at t5H q1 ⊢
          have hallH : Hidden (all = s :: imps) := hall
          have hL' : all.length ≤ 17 := by have : imps.length ≤ 16 := himp; rw [hall]; simp; omega
          clear hall
          go_wp2_with fail
          go_loopg [8] all.length (fun q iv wr => ∃ k : Nat, iv = .int .i64 (k : Int) ∧ k ≤ all.length ∧ q = all.length - k ∧ (∀ x ∈ all.take k, badN x = false) ∧ Fr (fun _ => False) w5 wr)
          case atStart => exact ⟨0, rfl, by omega, rfl, by simp, Fr.refl _ _⟩
          case round =>
            obtain ⟨k, rfl, hk2, hq2, hgd, hf6⟩ := hrel
            have hqH2 : Hidden (gk = all.length - k) := hq2
            have hgdH : Hidden (∀ x ∈ all.take k, badN x = false) := hgd
            have hfH6 : Hidden (Fr (fun _ => False) w5 wr) := hf6
            clear hq2 hgd
            by_cases hkl : k < all.length
            · obtain ⟨x, hx⟩ : ∃ x, all[k]? = some x := ⟨all[k], List.getElem?_eq_getElem hkl⟩
              obtain ⟨b6, off6, e6, c6⟩ := Tl.at (Tl.later (show To w5 W0.heap.size _ all from t5H).tn.tl hf6) hx
              subst e6
              have hxm : Hidden (x = s ∨ x ∈ imps) := by
                have := List.mem_of_getElem? hx
                rw [(show all = s :: imps from hallH)] at this
                exact List.mem_cons.1 this
              have hxok : OkN x := by
                rcases (show x = s ∨ x ∈ imps from hxm) with q | q
                · subst q; exact (show OkN x ∧ _ from hokn).1
                · exact (show OkN s ∧ ∀ x ∈ imps, OkN x from hokn).2 x q
              obtain ⟨r, hr⟩ : ∃ r, rightS x = r := ⟨_, rfl⟩
              have kr := rright_any x r hr hxok wr
              by_cases hr0 : r = 0
              · have hgd2 : Hidden (∀ y ∈ all.take (k + 1), badN y = false) := fun y hy => by
                  rcases mem_take_snoc hx hy with q | q
                  · exact (show ∀ x ∈ all.take k, badN x = false from hgdH) y q
                  · subst q; unfold badN; rw [hr, hr0]; rfl
                subst hr0
                clear hx hr hf6 hxok
                go_wp2_with (go_at_call 58; refine kr.mono ?_; rintro e w7 ⟨rfl, f7⟩)
                go_roundg (all.length - (k + 1))
                case measure => have := (show gk = all.length - k from hqH2); omega
                case rel => exact ⟨k + 1, by go_num, by omega, rfl, hgd2, Fr.same hfH6 f7⟩
              · have he : Hidden (newE nl = 12) := by
                  show _ = _
                  unfold newE
                  rw [if_neg (by rw [(show bigS nl = false from hbig)]; simp), if_pos]
                  unfold badS
                  rw [List.any_eq_true]
                  refine ⟨(s, imps), List.mem_of_getElem? (show nl[j]? = some (s, imps) from hnH), ?_⟩
                  rw [Bool.or_eq_true]
                  have hbx : badN x = true := by unfold badN; rw [hr]; simpa using hr0
                  rcases (show x = s ∨ x ∈ imps from hxm) with q | q
                  · subst q; exact Or.inl hbx
                  · exact Or.inr (List.any_eq_true.2 ⟨x, q, hbx⟩)
                have hne : (r == 0) = false := by simpa using hr0
                have hne2 : (r != 0) = true := by simpa using hr0
                clear hx hr hf6 hxok hr0
                go_wp2_with (go_at_call 58; refine kr.mono ?_; rintro e w7 ⟨rfl, f7⟩; have f7H : Hidden (Fr (fun _ => False) W0 w7) := Fr.same f5W (Fr.same hfH6 f7); clear f7)
                go_ret2
                exact ⟨Or.inl ⟨by rw [(show newE nl = 12 from he)]; decide, by rw [(show newE nl = 12 from he)]; rfl⟩, f7H⟩
            · obtain rfl : k = all.length := by omega
              have hg2 : Hidden (∀ n ∈ nl.take (j + 1), badN n.1 = false ∧ ∀ x ∈ n.2, badN x = false) := fun n hm => by
                rcases mem_take_snoc (show nl[j]? = some (s, imps) from hnH) hm with q | q
                · exact (show ∀ n ∈ nl.take j, badN n.1 = false ∧ ∀ x ∈ n.2, badN x = false from hgoodH) n q
                · subst q
                  have := (show ∀ x ∈ all.take all.length, badN x = false from hgdH)
                  rw [List.take_length, (show all = s :: imps from hallH)] at this
                  exact ⟨this s (by simp), fun x hx => this x (by simp [hx])⟩
              clear hf6
              go_wp2
              go_roundg (nl.length - (j + 1))
              case measure => have := (show gko = nl.length - j from hkH); omega
              case rel => exact ⟨j + 1, by go_num, by omega, rfl, To.later t35 hfH6, hg2, Fr.same f5W hfH6⟩
        · obtain rfl : j = nl.length := by omega
          have hbad : Hidden (badS nl = false) := by
            show _ = _
            have hg := (show ∀ n ∈ nl.take nl.length, badN n.1 = false ∧ ∀ x ∈ n.2, badN x = false from hgoodH)
            rw [List.take_length] at hg
            unfold badS
            refine List.any_eq_false.2 fun n hn => ?_
            obtain ⟨h1, h2⟩ := hg n hn
            rw [h1, Bool.false_or, Bool.not_eq_true]
            exact List.any_eq_false.2 fun x hx => by rw [h2 x hx]; simp
          have tn : To wr W0.heap.size u5 (nl.map (·.1)) := by
            have := (show To wr W0.heap.size u5 ((nl.take nl.length).map (·.1)) from htoH)
            rw [List.take_length] at this
            exact this
          have tnH : Hidden (To wr W0.heap.size u5 (nl.map (·.1))) := tn
          have ks := rset_any u5 (nl.map (·.1)) wr tn.tn.tl (by simp; omega) (fun x hx => by
            obtain ⟨n, h1, h2⟩ := List.mem_map.1 hx
            subst h2
            exact ((show ∀ n ∈ nl, OkN n.1 ∧ ∀ x ∈ n.2, OkN x from hokH) n h1).1)
          clear hto hf htoH hgoodH tn
          go_wp2_with fail
          refine ks.mono ?_
          rintro e w6 ⟨v6, rfl, t6, f6⟩
          have f6H : Hidden (Fr (fun _ => False) W0 w6) := Fr.same hfH f6
          have t6H : Hidden (To w6 W0.heap.size v6 (setS (nl.map (·.1)))) := To.lower t6 (show Fr (fun _ => False) W0 wr from hfH).size
          have tn6 : Hidden (To w6 W0.heap.size u5 (nl.map (·.1))) := To.later tnH f6
          obtain ⟨S, hS⟩ : ∃ S, S = setS (nl.map (·.1)) := ⟨_, rfl⟩
          rw [← hS] at t6H t6
          have hSH : Hidden (S = setS (nl.map (·.1))) := hS
          obtain ⟨aos, caps, hvs, s1, s2⟩ := t6.shape
          subst hvs
          have hsl := setS_len (nl.map (·.1))
          rw [List.length_map, ← hS] at hsl
          have hlq : S.length = nl.length ↔ (nl.map (·.1)).Nodup := by rw [← set_len_iff, hS, List.length_map]
          clear ks t6 f6 tnH hS
          by_cases hnd : (nl.map (·.1)).Nodup
          · have hlen : S.length = nl.length := hlq.2 hnd
            have he : Hidden (newE nl = 0) := by
              show _ = _
              unfold newE
              rw [if_neg (by rw [(show bigS nl = false from hbig)]; simp), if_neg (by rw [(show badS nl = false from hbad)]; simp), if_pos hnd]
            have hndH : Hidden (nl.map (·.1)).Nodup := hnd
            obtain ⟨G, hG⟩ : ∃ G, G = gOf nl := ⟨_, rfl⟩
            have hGH : Hidden (G = gOf nl) := hG
            have hGk : Hidden (G.ks = S) := by show _ = _; rw [hG, (show S = _ from hSH)]; rfl
            have hlenH : Hidden (S.length = nl.length) := hlen
            rw [hlen] at s1 ⊢
            obtain ⟨W4, hW4⟩ : ∃ W, W = w6.alloc (.cells #[.slice none 0 0] 56) := ⟨_, rfl⟩
            have hW4H : Hidden (W4 = w6.alloc (.cells #[.slice none 0 0] 56)) := hW4
            have f46 : Hidden (Fr (fun _ => False) w6 W4) := by rw [hW4]; exact Fr.alloc _ _ _
            have hBx : Hidden (w6.heap.size < W4.heap.size) := by show _ < _; rw [hW4]; simp
            have mk0 : Hidden (MkAt G w6.heap.size W4 W4 0) := by
              refine ⟨.slice none 0 0, [], ?_, ?_, Fr.refl _ _⟩
              · rw [hW4]; exact BoxV.new _ _ _
              · simp only [List.take_zero, List.map_nil]; exact OwR.nil _ _
            clear hlq hlen hnd hG
            go_wp2_with fail
            rw [← hW4]
            clear hW4
            go_loopg [11] nl.length (fun q iv wr => ∃ i : Nat, iv = .int .i64 (i : Int) ∧ i ≤ nl.length ∧ q = nl.length - i ∧ MkAt G w6.heap.size W4 wr i)
            case atStart => exact ⟨0, rfl, by omega, rfl, mk0⟩
            case round =>
              obtain ⟨i, rfl, hi, hq, hmk⟩ := hrel
              have hqH : Hidden (gk = nl.length - i) := hq
              have hmkH : Hidden (MkAt G w6.heap.size W4 wr i) := hmk
              clear hq mk0
              by_cases hil : i < nl.length
              · obtain ⟨v, xs, hb, ho, hf⟩ := hmk
                have hBx' : w6.heap.size < W4.heap.size := hBx
                obtain ⟨s, hs⟩ : ∃ s, S[i]? = some s := ⟨S[i]'(by have : S.length = nl.length := hlenH; omega), List.getElem?_eq_getElem _⟩
                have hsG : Hidden (G.ks[i]? = some s) := by show _ = _; rw [(show G.ks = S from hGk)]; exact hs
                have hsm : s ∈ nl.map (·.1) := by
                  have := List.mem_of_getElem? hs
                  rw [(show S = _ from hSH)] at this
                  exact mem_setS.1 this
                have tS : To wr W0.heap.size (.slice aos S.length caps) S := To.keep (To.later t6H f46) hf (fun k hk e => by have := ((show To w6 W0.heap.size _ S from t6H).own k hk).2; omega)
                obtain ⟨bs, offs, es, cs⟩ := Tl.at tS.tn.tl hs
                subst es
                have tN : To wr W0.heap.size u5 (nl.map (·.1)) := To.keep (To.later tn6 f46) hf (fun k hk e => by have := ((show To w6 W0.heap.size _ _ from tn6).own k hk).2; omega)
                rcases findS_spec (nl.map (·.1)) s with ⟨a1, _, _⟩ | ⟨k, a1, a2, _⟩
                · exact absurd hsm a1
                have kf := rfind_any u5 (nl.map (·.1)) s _ a2 wr tN.tn.tl
                obtain ⟨⟨s', imps⟩, hnk⟩ : ∃ n, nl[k]? = some n := ⟨nl[k]'(by have := (List.getElem?_eq_some_iff.1 a1).1; simpa using this), List.getElem?_eq_getElem _⟩
                have es' : s' = s := by rw [List.getElem?_map, hnk] at a1; simpa using a1
                subst es'
                have hkl := (List.getElem?_eq_some_iff.1 hnk).1
                have hmem := List.mem_of_getElem? hnk
                have himG : Hidden (G.im s' = setS imps) := by
                  show _ = _
                  rw [(show G = gOf nl from hGH)]
                  show (match nl.find? (fun m => decide (m.1 = s')) with | some n => setS n.2 | none => []) = _
                  rw [find_nodup (show (nl.map (·.1)).Nodup from hndH) hmem]
                have f04 : Fr (fun _ => False) W0 W4 := Fr.same f6H f46
                have hW06 : W0.heap.size ≤ w6.heap.size := (show Fr (fun _ => False) W0 w6 from f6H).size
                obtain ⟨b, off, aoi, capi, e1, c1, c2, htl⟩ := NL.at (show NL W0 _ nl from hH) hnk
                subst e1
                simp only at c1 c2 htl
                have hb0 := World.block_lt_of_cell? W0 _ c2
                simp only at hb0
                have c2r := hf.cell (f04.cellN c2) (fun e => by have h1 : b = w6.heap.size := e; omega)
                have htr : Tl wr (.slice aoi imps.length capi) imps := Tl.keepE (htl.later f04) hf (fun hne q hq e => by have h1 := Tl.lowE htl hne q hq; have h2 : q = w6.heap.size := e; omega)
                have ks := rset_any _ imps wr.drew (htr.later (Fr.drew _ _)) (by have := (show ∀ n ∈ nl, n.2.length ≤ 16 from him) _ hmem; simp only at this; omega) ((show ∀ n ∈ nl, OkN n.1 ∧ ∀ x ∈ n.2, OkN x from hokH) _ hmem).2
                have hbH : Hidden (BoxV wr w6.heap.size v) := hb
                have hoH : Hidden (OwR wr W4.heap.size v xs ((G.ks.take i).map fun s => (s, G.im s))) := ho
                have hfH4 : Hidden (Fr (fun k => k = w6.heap.size) W4 wr) := hf
                have hxl : Hidden (xs.length ≤ 32) := by have := ho.len; show _ ≤ _; simp at this; omega
                have cB := hb.1
                have hlow : Hidden (∀ k, v.ownBlock = some k → W4.heap.size ≤ k ∧ k < wr.heap.size) := ho.row.low
                have hvsl : ∃ aov capv, v = .slice aov xs.length capv := by obtain ⟨q1, q2, q3, _⟩ := ho.row.slice; exact ⟨q1, q2, q3⟩
                obtain ⟨aov, capv, hv⟩ := hvsl
                subst hv
                clear hs hsm tS tN a1 a2 hnk hmem f04 c1 c2 htl htr hb ho hf hb0 hW06 hBx'
                go_wp2_with (go_at_call 59; refine kf.mono ?_; rintro e w7 ⟨rfl, hw7⟩; replace hw7 := hw7.symm; subst hw7)
                go_region_law (first
                  | (have tk := t7H
                     refine Rw.step_rows (R := RN) rfl _ _ 22 57 (.agg #[.string ⟨#[]⟩, .slice none 0 0]) 2 40 Try.underlying22 Try.info_rn rfl (by decide) rfl W4.heap.size (.slice aov xs.length capv) xs [(s', .slice ao7 (setS imps).length cap7)] [ct s', .slice ao7 (setS imps).length cap7] ⟨w7.heap.size, 0, none⟩ 1 1 rfl ?_ rfl rfl (chunkN s' _ rfl) ?_ ?_ ?_ ?_ ?_ ?_
                     · exact Rw.Row.keep (show RowR w7 W4.heap.size _ xs from row7) (Fr.alloc (fun _ => False) _ _) (fun _ _ f => f)
                     · intro i u hu
                       rw [Addr.add_lit, Nat.zero_add, cell_of_row _ _ _ _ _ _ (alloc_new w7 _)]
                       rcases i with _ | _ | i
                       · simp at hu; subst hu; rfl
                       · simp at hu; subst hu; rfl
                       · simp at hu
                     · intro u hu
                       simp at hu
                       rcases hu with rfl | rfl <;> rfl
                     · have h1 : xs.length ≤ 32 := hxl
                       simp [maxLen]; omega
                     · have h1 : xs.length ≤ 32 := hxl
                       simp; omega
                     · have h1 : W4.heap.size ≤ w7.heap.size := hsz7
                       simp; omega
                     intro v8 w8 r8 f8 o8
                     obtain ⟨ao8, n8, cap8, hv8⟩ : ∃ a n c, v8 = .slice a n c := by obtain ⟨q1, q2, q3, _⟩ := r8.slice; exact ⟨q1, _, q2, q3⟩
                     subst hv8
                     have b7 := BoxV.keep hbH f7H (fun f => f)
                     have b8 : BoxV w8 w6.heap.size (.slice aov xs.length capv) := (b7.keep (Fr.alloc (fun _ => False) w7 _) (fun f => f)).keep f8 (fun e => by have h1 := ((show ∀ k, _ → W4.heap.size ≤ k ∧ k < wr.heap.size from hlow) _ e).1; have h2 : w6.heap.size < W4.heap.size := hBx; omega)
                     have cB8 := b8.1
                     have fz8 := b8.2.1
                     have r8H : Hidden (RowR w8 W4.heap.size (.slice ao8 n8 cap8) (xs ++ [(s', .slice ao7 (setS imps).length cap7)])) := r8
                     have f8H : Hidden (Fr (fun k => (Value.slice aov xs.length capv).ownBlock = some k) (w7.alloc (.cells #[ct s', .slice ao7 (setS imps).length cap7] 57)) w8) := f8
                     have o8H : Hidden ((Value.slice ao8 n8 cap8).ownBlock = (Value.slice aov xs.length capv).ownBlock ∨ (Value.slice ao8 n8 cap8).ownBlock = some (w7.alloc (.cells #[ct s', .slice ao7 (setS imps).length cap7] 57)).heap.size) := o8
                     clear r8 f8 o8 b7 b8)
                  | (go_simp
                     go_at_call 39
                     refine ks.mono ?_
                     rintro e w7 ⟨v7, rfl, t7, f7⟩
                     obtain ⟨ao7, cap7, hv7, _, _⟩ := t7.shape
                     subst hv7
                     have f7w : Fr (fun _ => False) wr w7 := (Fr.drew _ _).same f7
                     have b7 := BoxV.keep hbH f7w (fun f => f)
                     have cs7 := f7w.cellN cs
                     have cB7 := b7.1
                     have cB7a := (Fr.alloc (fun _ => False) w7 (.cells #[ct s', .slice ao7 (setS imps).length cap7] 57)).cellN cB7
                     have t7H : Hidden (To w7 wr.heap.size (.slice ao7 (setS imps).length cap7) (setS imps)) := t7
                     have f7H : Hidden (Fr (fun _ => False) wr w7) := f7w
                     have row7 : Hidden (RowR w7 W4.heap.size (.slice aov xs.length capv) xs) := (show OwR wr W4.heap.size _ xs _ from hoH).row.keep f7w (fun _ _ f => f)
                     have hsz7 : Hidden (W4.heap.size ≤ w7.heap.size) := Nat.le_trans (show Fr (fun k => k = w6.heap.size) W4 wr from hfH4).size f7w.size
                     clear t7 f7 f7w b7
                     dsimp only))
                all_goals
                  go_wp2
                  go_roundg (nl.length - (i + 1))
                  case measure => have := (show gk = nl.length - i from hqH); omega
                  case rel => exact ⟨i + 1, by go_num, by omega, rfl, MkAt.next hsG hbH hoH hfH4 hBx (by rw [(show G.im s' = setS imps from himG)]; exact t7H) f7H r8H f8H o8H⟩
              · obtain rfl : i = nl.length := by omega
                have hfin : Hidden (∀ W, Fr (fun k => k < W0.heap.size) wr W → Rg W (.pointer (some ⟨w6.heap.size, 0, none⟩)) (gOf nl)) := by
                  intro W hW
                  obtain ⟨v, xs, hb, ho, hf⟩ := hmk
                  have hGl : G.ks.length = nl.length := by rw [(show G.ks = S from hGk)]; exact hlenH
                  rw [List.take_of_length_le (by omega), (show G = gOf nl from hGH)] at ho
                  have hW06 : W0.heap.size ≤ w6.heap.size := (show Fr (fun _ => False) W0 w6 from f6H).size
                  have hBx' : w6.heap.size < W4.heap.size := hBx
                  exact Rg.make (show newE nl = 0 from he) (hW.cell hb.1 (fun e => by have h1 : w6.heap.size < W0.heap.size := e; omega)) (ho.keep hW (fun k h1 _ e => by have h2 : k < W0.heap.size := e; omega))
                have hffr : Hidden (Fr (fun _ => False) W0 wr) := by
                  obtain ⟨v, xs, hb, ho, hf⟩ := hmk
                  exact (Fr.same f6H f46).over hf (fun k hk => by have h1 : W0.heap.size ≤ w6.heap.size := (show Fr (fun _ => False) W0 w6 from f6H).size; omega)
                clear hmk hmkH
                go_wp2
                go_ret2
                exact ⟨Or.inr ⟨he, w6.heap.size, rfl, hfin⟩, hffr⟩
          · have hlen : S.length ≠ nl.length := fun e => hnd (hlq.1 e)
            have he : Hidden (newE nl = 20) := by
              show _ = _
              unfold newE
              rw [if_neg (by rw [(show bigS nl = false from hbig)]; simp), if_neg (by rw [(show badS nl = false from hbad)]; simp), if_neg hnd]
            have hne : ((S.length : Int) == (nl.length : Int)) = false := by simp; omega
            have hne2 : ((S.length : Int) != (nl.length : Int)) = true := by simp; omega
            clear hnd hlen hlq
            go_wp2
            go_ret2
            exact ⟨Or.inl ⟨by rw [(show newE nl = 20 from he)]; decide, by rw [(show newE nl = 20 from he)]; rfl⟩, f6H⟩
theorem rnew_any (ao : Option Addr) (cap : Nat) (nl : List Nd) (w : World) (h : NL w (.slice ao nl.length cap) nl) (hok : ∀ n ∈ nl, OkN n.1 ∧ ∀ x ∈ n.2, OkN x) :
    Calls Try.prog 28 #[.slice ao nl.length cap] w fun e w' => RNewR w nl e w' ∧ Fr (fun _ => False) w w' := by
  by_cases h32 : 32 < nl.length
  · exact rnew_32 ao cap nl w h32
  · exact rnew_main ao cap nl w h hok (by omega)
end Go.Proofs.Ytajefmmggefbeaa.Dg
