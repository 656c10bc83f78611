/- Texts of ours, in one. -/
import Derived.Test.YtmkacbpeaggcpaaGreatDoorCdBl
import Derived.Test.YtmkacbpeaggcpaaGreatDoorCdTxAll
import Derived.Test.YtmkacbpeaggcpaaGreatDoorCdUn
import Derived.Test.YtmkacbpeaggcpaaGreatDoorCdTr
import Derived.Test.YtmkacbpeaggcpaaGreatDoorCdMn
import Derived.Test.YtmkacbpeaggcpaaGreatDoorCdLAll
namespace Go.Proofs.YtmkacbpeaggcpaaGreatDoor.Cd
open Go.RowKit Ty
set_option linter.unusedSimpArgs false
set_option linter.unusedVariables false

theorem fr_below {S : Nat → Prop} {B : Nat} {w w' : World} (h : Below B w w') (hS : ∀ k, B ≤ k → S k) : Fr S w w' :=
  ⟨h.os, h.output, h.size, fun k hk hn => h.block k (Nat.lt_of_not_le (fun hb => hn (hS k hb)))⟩
theorem Bld.lt {B b : Nat} {bs : Bs} {w : World} (h : Bld B b bs w) : b < w.heap.size := by
  rcases h with ⟨_, v, hb, _⟩ | ⟨_, v, hb, _⟩
  · exact lt_of_heap hb
  · exact lt_of_heap hb
theorem Bld.keepN {B b : Nat} {bs : Bs} {w w' : World} (h : Bld B b bs w) (f : Fr (fun _ => False) w w') : Bld B b bs w' := by
  rcases h with ⟨h1, v, hb, ho, hn⟩ | ⟨h1, v, hb, ho, hn⟩
  · exact Or.inl ⟨h1, v, f.heap hb (fun f => f), own_keep ho f (fun _ _ f => f), hn⟩
  · exact Or.inr ⟨h1, v, f.heap hb (fun f => f), own_keep ho f (fun _ _ f => f), hn⟩
theorem bs_over {B b : Nat} {w w1 w2 : World} (h : Fr (fun _ => False) w w1) (g : Fr (BS B b w1) w1 w2) (hB : w.heap.size ≤ B) (hb : B ≤ b) : Fr (fun _ => False) w w2 :=
  h.over g (fun k hk => by rcases hk with rfl | ⟨h1, _⟩ <;> omega)

def lineS (k : Nat) (i : In) : Bs := Lib.itoa (k : Int) ++ [32] ++ textS i ++ [10]
theorem take_one' {α : Type} {l : List α} {j : Nat} {x : α} (h : l[j]? = some x) : l.take (j + 1) = l.take j ++ [x] := by
  rw [List.take_add_one, h]; rfl
theorem textsGo_snoc : ∀ (l : List In) (k : Nat) (i : In), textsGo k (l ++ [i]) = textsGo k l ++ lineS (k + l.length) i
  | [], k, i => by simp [textsGo, lineS]
  | x :: l, k, i => by
    show _ ++ textsGo (k + 1) (l ++ [i]) = _
    rw [textsGo_snoc l (k + 1) i]
    simp only [textsGo, List.append_assoc, List.length_cons]
    rw [show k + 1 + l.length = k + (l.length + 1) by omega]
theorem textsGo_len : ∀ (l : List In) (k : Nat), (∀ i ∈ l, OkIn i) → k + l.length ≤ 4398046510976 → (textsGo k l).length ≤ l.length * 46
  | [], _, _, _ => by simp [textsGo]
  | x :: l, k, h, hk => by
    have h1 := textsGo_len l (k + 1) (fun i hi => h i (List.mem_cons_of_mem _ hi)) (by simp at hk; omega)
    have h2 := text_31 (h x (List.mem_cons_self))
    have h3 := itoa_13 k (by simp at hk; omega)
    simp only [textsGo, List.length_append, List.length_cons, List.length_nil] at *
    omega

set_option maxRecDepth 20000 in
set_option maxHeartbeats 4000000 in
theorem texts_any (ao : Option Addr) (n cap : Nat) (l : List In) (hn : l.length = n) (w : World) (h : IL w ao cap l) (hok : ∀ i ∈ l, OkIn i) (hb : n ≤ 4398046510976) (ht : F.Tab w) :
    Calls Tryz.prog 10 #[.slice ao n cap] w fun e w' => e = .returned (ct (textsGo 0 l)) ∧ Fr (fun _ => False) w w' := by
  have hcap : n ≤ cap := by rw [← hn]; exact h.1
  have hcm : cap ≤ 9223372036854775807 := by have := h.2.1; simpa [maxLen] using this
  have hH : Hidden (IL w ao cap l) := h
  have hnH : Hidden (l.length = n) := hn
  have hokH : Hidden (∀ i ∈ l, OkIn i) := hok
  have htH : Hidden (F.Tab w) := ht
  have hb0 : Hidden (Bld w.heap.size w.heap.size [] (w.alloc (.cells #[.pointer none, .slice none 0 0] 73 (0, 0)))) :=
    Or.inl ⟨Nat.le_refl _, _, alloc_new _ _, World.ownsRow_nil _ _ _ _, by simp [Value.ownBlock]⟩
  clear h hn hok ht
  go_enter Tryz.func10, Tryz.ntmps10
  go_wp2_with fail
  go_loopg [8] n (fun k iv wr => ∃ j : Nat, iv = .int .i64 (j : Int) ∧ j ≤ n ∧ k = n - j ∧ Bld w.heap.size w.heap.size (textsGo 0 (l.take j)) wr ∧ Fr (fun _ => False) w wr)
  case atStart => exact ⟨0, rfl, by omega, by omega, hb0, Fr.alloc _ _ _⟩
  case round =>
    obtain ⟨j, rfl, hj, hk, hbd, hfr⟩ := hrel
    have hkH : Hidden (gk = n - j) := hk
    have hsz := hfr.size
    have hlt := hbd.lt
    clear hk hb0
    by_cases hjl : j < n
    · obtain ⟨x, hx⟩ : ∃ x, l[j]? = some x := ⟨_, List.getElem?_eq_getElem (by have : l.length = n := hnH; omega)⟩
      have hxo := (show ∀ i ∈ l, OkIn i from hokH) x (List.mem_of_getElem? hx)
      obtain ⟨bl, off, hao, hcells⟩ := (show IL w ao cap l from hH).2.2.2.resolve_left (by rintro rfl; simp at hx)
      obtain ⟨c0, c1, c2, c3⟩ := IL.at' (cap := cap) (fun i x hx j u hu => hfr.cellN (hcells i x hx j u hu)) hx
      subst hao
      have hacc : (textsGo 0 (l.take j)).length ≤ j * 46 := by
        have := textsGo_len (l.take j) 0 (fun i hi => (show ∀ i ∈ l, OkIn i from hokH) i (List.mem_of_mem_take hi)) (by simp; omega)
        rw [List.length_take] at this
        exact Nat.le_trans this (Nat.mul_le_mul_right _ (by omega))
      have hnext : Hidden (textsGo 0 (l.take (j + 1)) = textsGo 0 (l.take j) ++ lineS j x) := by
        show _ = _
        rw [take_one' hx, textsGo_snoc, List.length_take, Nat.zero_add]
        congr 2
        have : l.length = n := hnH
        omega
      generalize textsGo 0 (l.take j) = acc at hbd hacc hnext
      have hd : Ty.I64 (j : Int) := by unfold Ty.I64; omega
      have kd : ∀ W, Fr (fun _ => False) w W → Calls Tryz.prog 26 #[.int .i64 (j : Int)] W _ := fun W hW => D.dec_any (j : Int) hd W (tab_fr htH hW)
      have kt : ∀ W, Fr (fun _ => False) w W → Calls Tryz.prog 27 #[inV x] W _ := fun W hW => text_any x hxo.b hxo.n (operS_len x hxo.b hxo.n) W (tab_fr htH hW)
      have hl1 := itoa_13 j (by omega)
      have hl2 := text_31 hxo
      have hline : Hidden (lineS j x = Lib.itoa (j : Int) ++ [32] ++ textS x ++ [10]) := rfl
      generalize Lib.itoa (j : Int) = D1 at kd hl1 hline
      generalize textS x = T1 at kt hl2 hline
      generalize lineS j x = L1 at hline hnext
      obtain ⟨op, xn, xt, xb⟩ := x
      simp only [] at c0 c1 c2 c3
      have hc1 := fun W : World => run_string_add_lists (P := Tryz.prog) W D1 [32] (by omega) (by simp)
      have hc2 := fun W : World => run_string_add_lists (P := Tryz.prog) W (D1 ++ [32]) T1 (by simp; omega) (by omega)
      have hc3 := fun W : World => run_string_add_lists (P := Tryz.prog) W (D1 ++ [32] ++ T1) [10] (by simp; omega) (by simp)
      have hll : L1.length ≤ 46 := by rw [show L1 = _ from hline]; simp only [List.length_append, List.length_cons, List.length_nil]; omega
      obtain ⟨N1, hN1⟩ : ∃ x, x = D1 ++ [32] := ⟨_, rfl⟩
      rw [← hN1] at hc1 hc2 hc3 hline
      obtain ⟨N2, hN2⟩ : ∃ x, x = N1 ++ T1 := ⟨_, rfl⟩
      rw [← hN2] at hc2 hc3 hline
      rw [← show L1 = _ from hline] at hc3
      have hmul : j * 46 ≤ 4398046510976 * 46 := Nat.mul_le_mul_right _ (by omega)
      have kw : ∀ W, Fr (fun _ => False) wr W → _ := fun W f => wstr_any w.heap.size w.heap.size acc L1 W (hbd.keepN f) (by omega) (by omega) (by have := f.size; omega)
      have hjb : decide ((j : Int) < (n : Int)) = true := by simp; omega
      have hjn2 : (j : Int) < (n : Int) := by omega
      clear hN1 hN2 hx hcells hxo hline hd hacc hmul hl1 hl2 hll hlt
      go_upto_region 5 with fail
      have hbx := alloc_new wr (.cells #[ci op, ci xn, ci xt, .int .u64 xb] 66 (0, 0))
      obtain ⟨V, hV⟩ : ∃ V, V = wr.alloc (.cells #[ci op, ci xn, ci xt, .int .u64 xb] 66 (0, 0)) := ⟨_, rfl⟩
      have fV : Fr (fun _ => False) wr V := by rw [hV]; exact Fr.alloc _ _ _
      rw [← hV] at hbx ⊢
      clear hV
      generalize wr.heap.size = G at hbx ⊢
      obtain ⟨b0, b1, b2, b3⟩ := box4 hbx
      have kd2 : ∀ W, Fr (fun _ => False) V W → Calls Tryz.prog 26 #[.int .i64 (j : Int)] W _ := fun W hW => kd W ((hfr.same fV).same hW)
      have kt2 : ∀ W, Fr (fun _ => False) V W → Calls Tryz.prog 27 #[inV ⟨op, xn, xt, xb⟩] W _ := fun W hW => kt W ((hfr.same fV).same hW)
      have kw2 : ∀ W, Fr (fun _ => False) V W → _ := fun W hW => kw W (fV.same hW)
      have hbxH : Hidden _ := hbx
      have f0 : Fr (fun _ => False) V V := Fr.refl _ _
      have f00 : Fr (fun _ => False) V V.drew := Fr.drew _ _
      clear kd kt kw hbx c0 c1 c2 c3
      go_region_with (first
        | (go_at_call 26; refine (kd2 _ (by first | assumption | (refine Fr.same ?_ (Fr.drew _ _); assumption))).mono ?_; rintro e wd ⟨rfl, gd⟩; have fd := Fr.same (by first | assumption | (refine Fr.same ?_ (Fr.drew _ _); assumption)) (kb_frD gd); obtain ⟨b0, b1, b2, b3⟩ := box4 (fd.heap (show V.heap[G]? = _ from hbxH) (fun f => f)))
        | (go_at_call 27; refine (kt2 _ (by first | assumption | (refine Fr.same ?_ (Fr.drew _ _); assumption))).mono ?_; rintro e wt ⟨rfl, gt⟩; have ft := Fr.same (by first | assumption | (refine Fr.same ?_ (Fr.drew _ _); assumption)) gt)
        | (go_at_call 25; refine (kw2 _ (by first | assumption | (refine Fr.same ?_ (Fr.drew _ _); assumption))).mono ?_; rintro e ws ⟨rfl, hbs, gs⟩; have fs := bs_over (Fr.same (hfr.same fV) (by first | assumption | (refine Fr.same ?_ (Fr.drew _ _); assumption))) gs (Nat.le_refl _) (Nat.le_refl _)))
      all_goals
        go_wp2_with fail
        go_roundg (n - (j + 1))
        case measure =>
          have : gk = n - j := hkH
          omega
        case rel =>
          exact ⟨j + 1, by go_num, by omega, rfl, by rw [show textsGo 0 (l.take (j + 1)) = _ from hnext]; exact Or.inr hbs, fs⟩
    · obtain rfl : j = n := by omega
      have ks := Tryz.Builder_String_any w.heap.size w.heap.size (textsGo 0 (l.take j)) wr hbd hsz
      have hnn : l.length = j := hnH
      rw [List.take_of_length_le (by omega)] at ks
      have hjb : decide ((j : Int) < (j : Int)) = false := by simp
      clear hbd
      go_wp2_with (go_at_call 28; refine ks.mono ?_; rintro e W2 ⟨rfl, hb2⟩)
      go_ret
      exact ⟨rfl, hfr.over (fr_below (S := fun k => w.heap.size ≤ k) hb2 (fun k h => h)) (fun k h => h)⟩
end Go.Proofs.YtmkacbpeaggcpaaGreatDoor.Cd

namespace Go.Proofs.YtmkacbpeaggcpaaGreatDoor.Cd
open Go.RowKit Ty
set_option linter.unusedSimpArgs false
set_option linter.unusedVariables false

/-- append of a string to a row of bytes of the call's own, as a step of a region whose order is drawn. -/
theorem step_str {w : World} {ops : Array Oper} {o : Oper} {a : Act} {K : Act → World → Prop} {Q : Exit → Act → World → Prop} {E : Prop} (hgd : o.guard = none) (sl x : Operand)
    (ho : o.op = .call { callee := .builtin .append, args := #[sl, x], argTypes := #[25, 9] }) (B : Nat) (v : Value) (l s : Bs)
    (hs : a.eval sl = v) (hr : Bw w B v l) (hx : a.eval x = ct s) (hs1 : s.length ≤ 1000) (hm : l.length + s.length ≤ 210000000000000) (hB : B ≤ w.heap.size)
    (h : ∀ v' w', Bw w' B v' (l ++ s) → Fr (fun b => B ≤ b) w w' → K (a.put o.dst v') w') : if Region.wanted o (yielded ops a.tmps) = true then Oper.wp Tryz.prog o a w K Q else E := by
  have hw : Region.wanted o (yielded ops a.tmps) = true := by simp [Region.wanted, hgd]
  rw [if_pos hw]
  have hs2 : (⟨s.toArray⟩ : ByteArray).size = s.length := by simp [ByteArray.size]
  obtain ⟨v', w', hrun, h2, h3⟩ := app_str (w := w) B o.type v l.length (byC l) ⟨s.toArray⟩ hr (by rw [hs2]; exact hs1) (by rw [hs2]; exact hm) hB
  unfold Oper.wp execOp
  simp only [ho, resolve, invoke, builtin, Sem.run_bind, Sem.run_pure, Result.andThen_ok, List.map_toArray, List.map_cons, List.map_nil, hs, hx, hrun]
  refine h v' w' ?_ ((Fr.grown h3).mono fun k _ e => (bs_row hr k e.symm).1)
  show w'.ownsRow _ _ 1 v' (l ++ s).length (byC (l ++ s))
  rw [List.length_append, byC_app]
  have e : byC s = Lib.strCells ⟨s.toArray⟩ := by simp [byC, Lib.strCells]
  rw [e, ← hs2]
  exact h2

set_option maxRecDepth 20000 in
set_option maxHeartbeats 4000000 in
theorem rtexts_any (ao : Option Addr) (n cap : Nat) (l : List In) (hn : l.length = n) (w : World) (h : IL w ao cap l) (hok : ∀ i ∈ l, OkIn i) (hb : n ≤ 4398046510976) (ht : F.Tab w) :
    Calls Tryz.prog 11 #[.slice ao n cap] w fun e w' => e = .returned (ct (textsGo 0 l)) ∧ Fr (fun _ => False) w w' := by
  have hcap : n ≤ cap := by rw [← hn]; exact h.1
  have hcm : cap ≤ 9223372036854775807 := by have := h.2.1; simpa [maxLen] using this
  have hH : Hidden (IL w ao cap l) := h
  have hnH : Hidden (l.length = n) := hn
  have hokH : Hidden (∀ i ∈ l, OkIn i) := hok
  have htH : Hidden (F.Tab w) := ht
  clear h hn hok ht
  go_enter Tryz.func11, Tryz.ntmps11
  go_wp2_with fail
  go_loopg [3, 4] n (fun k v iv wr => ∃ j : Nat, iv = .int .i64 (j : Int) ∧ j ≤ n ∧ k = n - j ∧ Bw wr w.heap.size v (textsGo 0 (l.take j)) ∧ Fr (fun _ => False) w wr)
  case atStart => exact ⟨0, rfl, by omega, by omega, Bw.nil _ _, Fr.refl _ _⟩
  case round =>
    obtain ⟨j, rfl, hj, hk, hbd, hfr⟩ := hrel
    have hkH : Hidden (gk = n - j) := hk
    have hsz := hfr.size
    clear hk
    by_cases hjl : j < n
    · obtain ⟨x, hx⟩ : ∃ x, l[j]? = some x := ⟨_, List.getElem?_eq_getElem (by have : l.length = n := hnH; omega)⟩
      have hxo := (show ∀ i ∈ l, OkIn i from hokH) x (List.mem_of_getElem? hx)
      obtain ⟨bl, off, hao, hcells⟩ := (show IL w ao cap l from hH).2.2.2.resolve_left (by rintro rfl; simp at hx)
      obtain ⟨c0, c1, c2, c3⟩ := IL.at' (cap := cap) (fun i x hx j u hu => hfr.cellN (hcells i x hx j u hu)) hx
      subst hao
      have hacc : (textsGo 0 (l.take j)).length ≤ j * 46 := by
        have := textsGo_len (l.take j) 0 (fun i hi => (show ∀ i ∈ l, OkIn i from hokH) i (List.mem_of_mem_take hi)) (by simp; omega)
        rw [List.length_take] at this
        exact Nat.le_trans this (Nat.mul_le_mul_right _ (by omega))
      have hnext : Hidden (textsGo 0 (l.take (j + 1)) = textsGo 0 (l.take j) ++ lineS j x) := by
        show _ = _
        rw [take_one' hx, textsGo_snoc, List.length_take, Nat.zero_add]
        congr 2
        have : l.length = n := hnH
        omega
      generalize textsGo 0 (l.take j) = acc at hbd hacc hnext
      have hd : Ty.I64 (j : Int) := by unfold Ty.I64; omega
      have kd := fun W => D.rdec_is (j : Int) hd W
      have kt : ∀ W, Fr (fun _ => False) wr W → Calls Tryz.prog 30 #[inV x] W _ := fun W hW => rtext_any x hxo.b hxo.n (operS_len x hxo.b hxo.n) W (tab_fr htH (hfr.same hW))
      have hl1 := itoa_13 j (by omega)
      have hl2 := text_31 hxo
      have hline : Hidden (lineS j x = Lib.itoa (j : Int) ++ [32] ++ textS x ++ [10]) := rfl
      generalize Lib.itoa (j : Int) = D1 at kd hl1 hline
      generalize textS x = T1 at kt hl2 hline
      generalize lineS j x = L1 at hline hnext
      obtain ⟨op, xn, xt, xb⟩ := x
      simp only [] at c0 c1 c2 c3
      have hc1 := fun W : World => run_string_add_lists (P := Tryz.prog) W D1 [32] (by omega) (by simp)
      have hc2 := fun W : World => run_string_add_lists (P := Tryz.prog) W (D1 ++ [32]) T1 (by simp; omega) (by omega)
      have hc3 := fun W : World => run_string_add_lists (P := Tryz.prog) W (D1 ++ [32] ++ T1) [10] (by simp; omega) (by simp)
      have hll : L1.length ≤ 46 := by rw [show L1 = _ from hline]; simp only [List.length_append, List.length_cons, List.length_nil]; omega
      obtain ⟨N1, hN1⟩ : ∃ x, x = D1 ++ [32] := ⟨_, rfl⟩
      rw [← hN1] at hc1 hc2 hc3 hline
      obtain ⟨N2, hN2⟩ : ∃ x, x = N1 ++ T1 := ⟨_, rfl⟩
      rw [← hN2] at hc2 hc3 hline
      rw [← show L1 = _ from hline] at hc3
      have hmul : j * 46 ≤ 4398046510976 * 46 := Nat.mul_le_mul_right _ (by omega)
      have hlen : Hidden (acc.length + L1.length ≤ 210000000000000) := by show _ ≤ _; omega
      have hlen1 : Hidden (L1.length ≤ 1000) := by show _ ≤ _; omega
      have hbl : bl < w.heap.size := World.block_lt_of_cell? w _ (hcells j ⟨op, xn, xt, xb⟩ hx 0 _ rfl)
      have hblH : Hidden (¬ w.heap.size ≤ bl) := by show ¬ _; omega
      have hbdH : Hidden (Bw wr w.heap.size u3 acc) := hbd
      have hszH : Hidden (w.heap.size ≤ wr.heap.size) := hsz
      have hjb : decide ((j : Int) < (n : Int)) = true := by simp; omega
      have hjn2 : (j : Int) < (n : Int) := by omega
      have f0 : Fr (fun _ => False) wr wr := Fr.refl _ _
      have f00 : Fr (fun _ => False) wr wr.drew := Fr.drew _ _
      have hfd : Fr (fun _ => False) w wr.drew := hfr.same f00
      have e0H : Hidden (wr.cell? ⟨bl, off + j * 4, none⟩ = some (ci op)) := c0
      have e1H : Hidden (wr.cell? ⟨bl, off + j * 4 + 1, none⟩ = some (ci xn)) := c1
      have e2H : Hidden (wr.cell? ⟨bl, off + j * 4 + 2, none⟩ = some (ci xt)) := c2
      have e3H : Hidden (wr.cell? ⟨bl, off + j * 4 + 3, none⟩ = some (.int .u64 xb)) := c3
      clear hN1 hN2 hx hcells hxo hline hd hacc hmul hl1 hl2 hll hbd hsz hbl
      go_upto_region 5 with fail
      go_region_held3 (fun w' => Fr (fun _ => False) w w' ∧ w'.cell? ⟨bl, off + j * 4, none⟩ = some (ci op) ∧ w'.cell? ⟨bl, off + j * 4 + 1, none⟩ = some (ci xn) ∧ w'.cell? ⟨bl, off + j * 4 + 2, none⟩ = some (ci xt) ∧ w'.cell? ⟨bl, off + j * 4 + 3, none⟩ = some (.int .u64 xb)) (first | (refine ⟨by with_reducible assumption, by with_reducible assumption, by with_reducible assumption, by with_reducible assumption, by with_reducible assumption⟩) | (refine ⟨by with_reducible assumption, ?_⟩; go_keep)) (first
        | (go_at_call 29; (go_split_ands); refine (kd _).mono ?_; rintro e wd ⟨rfl, gd⟩; have fd := Fr.same (by first | with_reducible assumption | (refine Fr.same ?_ (Fr.drew _ _); with_reducible assumption) : Fr (fun _ => False) wr _) (kb_frD gd); have fdw := Fr.same hfr fd; have q0 := fd.cellN (show wr.cell? _ = _ from e0H); have q1 := fd.cellN (show wr.cell? _ = _ from e1H); have q2 := fd.cellN (show wr.cell? _ = _ from e2H); have q3 := fd.cellN (show wr.cell? _ = _ from e3H))
        | (go_at_call 30; (go_split_ands); refine (kt _ (by first | with_reducible assumption | (refine Fr.same ?_ (Fr.drew _ _); with_reducible assumption))).mono ?_; rintro e wt ⟨rfl, gt⟩; have ft := Fr.same (by first | with_reducible assumption | (refine Fr.same ?_ (Fr.drew _ _); with_reducible assumption) : Fr (fun _ => False) wr _) gt; have ftw := Fr.same hfr ft; have p0 := ft.cellN (show wr.cell? _ = _ from e0H); have p1 := ft.cellN (show wr.cell? _ = _ from e1H); have p2 := ft.cellN (show wr.cell? _ = _ from e2H); have p3 := ft.cellN (show wr.cell? _ = _ from e3H))
        | (refine step_str rfl _ _ rfl w.heap.size u3 acc L1 rfl ?_ rfl hlen1 hlen ?_ ?_
           · exact (show Bw wr _ u3 acc from hbdH).keepN (by first | with_reducible assumption | (refine Fr.same ?_ (Fr.drew _ _); with_reducible assumption))
           · exact Nat.le_trans (show w.heap.size ≤ wr.heap.size from hszH) (Fr.size (S := fun _ => False) (by first | with_reducible assumption | (refine Fr.same ?_ (Fr.drew _ _); with_reducible assumption)))
           intro v7 w7 r7 f7
           have r7H : Hidden (Bw w7 w.heap.size v7 (acc ++ L1)) := r7
           have gw : Fr (fun _ => False) wr _ := (by first | with_reducible assumption | (refine Fr.same ?_ (Fr.drew _ _); with_reducible assumption))
           have fs := Fr.over (Fr.same hfr gw) f7 (fun k hk => hk)
           have r0 := f7.cell (gw.cellN (show wr.cell? _ = _ from e0H)) (show ¬ w.heap.size ≤ bl from hblH)
           have r1 := f7.cell (gw.cellN (show wr.cell? _ = _ from e1H)) (show ¬ w.heap.size ≤ bl from hblH)
           have r2 := f7.cell (gw.cellN (show wr.cell? _ = _ from e2H)) (show ¬ w.heap.size ≤ bl from hblH)
           have r3 := f7.cell (gw.cellN (show wr.cell? _ = _ from e3H)) (show ¬ w.heap.size ≤ bl from hblH)
           clear r7 f7 gw))
      all_goals
        go_wp2_with fail
        go_roundg (n - (j + 1))
        case measure =>
          have : gk = n - j := hkH
          omega
        case rel =>
          (go_split_ands)
          exact ⟨j + 1, by go_num, by omega, rfl, by rw [show textsGo 0 (l.take (j + 1)) = _ from hnext]; assumption, by assumption⟩
    · obtain rfl : j = n := by omega
      have hnn : l.length = j := hnH
      rw [List.take_of_length_le (by omega)] at hbd
      obtain ⟨aq, cq, rfl, hq⟩ := hbd.bl
      have hjb : decide ((j : Int) < (j : Int)) = false := by simp
      have kc := conv_bl hq
      clear hbd hq
      go_wp2_with fail
      go_ret
      exact ⟨rfl, hfr⟩
end Go.Proofs.YtmkacbpeaggcpaaGreatDoor.Cd
