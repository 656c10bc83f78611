/- The document's Decode. -/
import Derived.Test.YticpiaonkgomfaaDoorCdDe
import Derived.Test.YticpiaonkgomfaaDoorCdRr
namespace Go.Proofs.YticpiaonkgomfaaDoor.Cd
open Go.RowKit Ty
set_option linter.unusedSimpArgs false
set_option linter.unusedVariables false

theorem bits_or_i64_nat (a b : Nat) (ha : a < 9223372036854775808) (hb : b < 9223372036854775808) : bits .or .i64 (a : Int) (b : Int) = ((a ||| b : Nat) : Int) := by
  have hx : a ||| b < 2 ^ 63 := Nat.or_lt_two_pow (by omega) (by omega)
  have h1 : (BitVec.ofInt 64 (a : Int)).toNat = a := by
    rw [BitVec.ofInt_natCast, BitVec.toNat_ofNat]; exact Nat.mod_eq_of_lt (by omega)
  have h2 : (BitVec.ofInt 64 (b : Int)).toNat = b := by
    rw [BitVec.ofInt_natCast, BitVec.toNat_ofNat]; exact Nat.mod_eq_of_lt (by omega)
  show IntKind.i64.wrap ((BitVec.ofInt 64 (a : Int) ||| BitVec.ofInt 64 (b : Int)).toNat : Int) = _
  rw [BitVec.toNat_or, h1, h2]
  exact wrap_small _ (by omega) (by omega)
theorem or_byte_i (A : Nat) (x : UInt8) (h : A < 1000000) : bits .or .i64 ((A : Int) * 256) (x.toNat : Int) = ((A * 256 + x.toNat : Nat) : Int) := by
  have hx := x.toNat_lt
  have := bits_or_i64_nat (A * 256) x.toNat (by omega) (by omega)
  rw [show ((A * 256 : Nat) : Int) = (A : Int) * 256 by omega] at this
  rw [this]
  congr 1
  have h8 : x.toNat < 2 ^ 8 := by omega
  have := Nat.two_pow_add_eq_or_of_lt h8 A
  rw [show 2 ^ 8 * A = A * 256 by omega] at this
  exact this.symm
theorem info_rin : (Tryd.prog.info? 26).map (fun i => (i.zero, i.size, i.bytes)) = some (some (.agg #[.int .i64 0, .int .i64 0, .int .i64 0, .int .u64 0]), 4, 32) := by kernel_rfl
theorem box4_set3 {w : World} {b : Nat} {x0 x1 x2 x3 : Value} {t : TypeId} (h : w.heap[b]? = some (.cells #[x0, x1, x2, x3] t (0, 0))) (v3 : Value) :
    (w.setCell ⟨b, 3, none⟩ v3).heap[b]? = some (.cells #[x0, x1, x2, v3] t (0, 0)) := heap_setCell_same _ b 3 _ t v3 h
theorem box4_set2' {w : World} {b : Nat} {x0 x1 x2 x3 : Value} {t : TypeId} (h : w.heap[b]? = some (.cells #[x0, x1, x2, x3] t (0, 0))) (v2 : Value) :
    (w.setCell ⟨b, 2, none⟩ v2).heap[b]? = some (.cells #[x0, x1, v2, x3] t (0, 0)) := heap_setCell_same _ b 2 _ t v2 h
theorem size_le10' (op : Int) : sizeS op ≤ 10 := by
  have h := wd_le op
  unfold sizeS
  by_cases h1 : known op = true
  · rw [if_pos h1]
    by_cases h2 : op = 1
    · rw [if_pos h2]; omega
    · rw [if_neg h2]; omega
  · rw [if_neg h1]; omega
set_option maxRecDepth 20000 in
set_option maxHeartbeats 8000000 in
theorem rdecode_any (ao : Option Addr) (n cap : Nat) (b : Bs) (hn : b.length = n) (w : World) (h : BL w ao cap b) :
    Calls Tryd.prog 16 #[.slice ao n cap] w fun e w' => ∃ v, e = .returned (.tuple #[v, ci (decS b).1]) ∧ IW w' w.heap.size 26 v (decS b).2 ∧ Fr (fun _ => False) w w' := by
  obtain ⟨R, hR⟩ : ∃ R, R = decS b := ⟨_, rfl⟩
  rw [← hR]
  have hRH : Hidden (R = decGo (b.length + 1) [] b) := hR
  have hH : Hidden (BL w ao cap b) := h
  have hnH : Hidden (b.length = n) := hn
  clear hR h hn
  go_enter Tryd.func16, Tryd.ntmps16
  go_wp2_with fail
  go_loopg [0, 4] n (fun k bv lv wr => ∃ (rest : Bs) (acc : List In) (j : Nat) (ao' : Option Addr) (cap' : Nat), bv = .slice ao' k cap' ∧ rest.length = k ∧ BL w ao' cap' rest ∧ wr.ownsRow w.heap.size 26 4 lv acc.length (acc.flatMap inC) ∧ Ap w wr (.slice none 0 0) lv ∧ acc.length ≤ 4096 ∧ k < j ∧ R = decGo j acc rest)
  case atStart => exact ⟨b, [], b.length + 1, ao, cap, rfl, hnH, hH, own_nil _ _ _ _, Ap.refl _ _, by simp, by have : b.length = n := hnH; omega, hRH⟩
  case round =>
    obtain ⟨rest, acc, j, ao', cap', rfl, hrl, hbl, hO, hap, hacc, hj, hRj⟩ := hrel
    have hrlH : Hidden (rest.length = gk) := hrl
    have hblH : Hidden (BL w ao' cap' rest) := hbl
    have hOH : Hidden (wr.ownsRow w.heap.size 26 4 u4 acc.length (acc.flatMap inC)) := hO
    have hapH : Hidden (Ap w wr (.slice none 0 0) u4) := hap
    have hRjH : Hidden (R = decGo j acc rest) := hRj
    have fwr : Hidden (Fr (fun _ => False) w wr) := hap.none
    obtain ⟨aoo, capo, rfl, o1, o2, _⟩ := own_slice hO (by decide)
    have hlow : Hidden (∀ k, (Value.slice aoo acc.length capo).ownBlock = some k → w.heap.size ≤ k ∧ k < wr.heap.size) := own_block hO
    have hszr : Hidden (w.heap.size ≤ wr.heap.size) := hap.none.size
    obtain ⟨A, hA⟩ : ∃ A, acc.length = A := ⟨_, rfl⟩
    have hAH : Hidden (acc.length = A) := hA
    rw [hA] at hOH hapH o1 hacc hlow ⊢
    have o3 : capo ≤ 9223372036854775807 := by simpa [maxLen] using o2
    clear hO hap hRj o2 hA
    cases rest with
    | nil =>
      have hk0 : gk = 0 := by rw [← hrl]; rfl
      subst hk0
      clear hrl hbl
      go_wp2_with fail
      go_ret2
      have e : R = (0, acc) := by
        rw [show R = _ from hRjH]
        obtain ⟨j', rfl⟩ : ∃ k, j = k + 1 := ⟨j - 1, by omega⟩
        rfl
      refine ⟨_, by rw [e]; rfl, ?_, fwr⟩
      rw [e]
      unfold IW
      rw [show acc.length = A from hAH]
      exact hOH
    | cons c r =>
      have hcap' : gk ≤ cap' := by rw [← hrl]; exact hbl.1
      have hcm' : cap' ≤ 9223372036854775807 := by have := hbl.2.1; simpa [maxLen] using this
      obtain ⟨bb, off, rfl, hcell⟩ := hbl.2.2.2.resolve_left (by simp)
      have hgk : 0 < gk := by rw [← hrl]; simp
      have hgki : (0 : Int) < (gk : Int) := by omega
      have hgk1 : 1 ≤ gk := by omega
      have hstep : Hidden (R = _) := (show R = _ from hRjH).trans (decGo_step (by omega))
      have c0 : wr.cell? ⟨bb, off, none⟩ = some (.int .u8 (c.toNat : Int)) := (show Fr _ w wr from fwr).cellN (hcell 0 c rfl)
      have hblt : bb < w.heap.size := World.block_lt_of_cell? w _ (hcell 0 c rfl)
      have hcellH : Hidden (∀ i x, (c :: r)[i]? = some x → w.cell? ⟨bb, off + i, none⟩ = some (.int .u8 (x.toNat : Int))) := hcell
      have hc8 := c.toNat_lt
      have hw8 : IntKind.i64.wrap (c.toNat : Int) = (c.toNat : Int) := wrap_small _ (by omega) (by omega)
      obtain ⟨op, hop⟩ : ∃ op : Int, op = (c.toNat : Int) := ⟨_, rfl⟩
      have hopH : Hidden (op = (c.toNat : Int)) := hop
      have ks := fun W => rsize_any ⟨op, 0, 0, 0⟩ W
      simp only [] at ks
      rw [← hop] at c0 hw8
      clear hrl hbl hcell hRjH hop
      have X0 : (wr.alloc (.cells #[ci op, ci 0, ci 0, .int .u64 0] 26 (0, 0))).heap[wr.heap.size]? = some (.cells #[ci op, ci 0, ci 0, .int .u64 0] 26 (0, 0)) := alloc_new _ _
      have hnw : ∀ i x, (c :: r)[i]? = some x → (wr.alloc (.cells #[ci op, ci 0, ci 0, .int .u64 0] 26 (0, 0))).cell? ⟨bb, off + i, none⟩ = some (.int .u8 (x.toNat : Int)) := fun i x hx => ((show Fr _ w wr from fwr).same (Fr.alloc _ _ _)).cellN ((show ∀ i x, _ → _ from hcellH) i x hx)
      by_cases hbad : sizeS op = 0 ∨ (gk : Int) < sizeS op
      · have hO1 : fstO c r = false := by
          unfold fstO fstB
          rw [← (show op = _ from hopH), show (c :: r).length = gk from hrlH, decide_eq_true hbad]
          rfl
        have e : R = (51, []) := by rw [show R = _ from hstep, if_neg (by rw [hO1]; simp)]
        obtain ⟨S, hS⟩ : ∃ S, sizeS op = S := ⟨_, rfl⟩
        rw [hS] at ks hbad
        have hb1 : (S == 0) = true ∨ ((S == 0) = false ∧ decide ((gk : Int) < S) = true) := by
          rcases hbad with h | h
          · left; simp [h]
          · by_cases q : S = 0
            · left; simp [q]
            · right; exact ⟨by simp [q], by simpa using h⟩
        clear hO1 hS hbad hnw
        rcases hb1 with hb1 | ⟨hb1, hb2⟩
        all_goals
          go_wp2_with (first
            | (go_at_call 11; refine (ks _).mono ?_; rintro e' w1 ⟨rfl, f1⟩))
          go_ret2
          refine ⟨_, by rw [e]; rfl, by rw [e]; exact IW.nil _ _ _, ((show Fr _ w wr from fwr).same (Fr.alloc _ _ _)).same f1⟩
      · have hg : fstB c r = true := by
          unfold fstB
          rw [← (show op = _ from hopH), show (c :: r).length = gk from hrlH, decide_eq_false hbad]
          rfl
        obtain ⟨z, hz⟩ : ∃ z : Nat, sizeS op = (z : Int) := ⟨(sizeS op).toNat, by unfold sizeS at hbad ⊢; split at hbad <;> split <;> omega⟩
        rw [hz] at ks hbad
        have hz0 : ((z : Int) == 0) = false := by simp; omega
        have hz1 : 1 ≤ z := by omega
        have hz2 : z ≤ gk := by omega
        have hzb : decide ((gk : Int) < (z : Int)) = false := by simp; omega
        have hzb2 : decide (gk < z) = false := by simp; omega
        have hzH : Hidden (sizeS op = (z : Int)) := hz
        have hgH : Hidden (fstB c r = true) := hg
        have hz10 : z ≤ 10 := by have := size_le10' op; omega
        clear hbad hz hg
        go_wp2_with fail
        go_at_call 11
        refine (ks _).mono ?_
        rintro e' w1 ⟨rfl, f1⟩
        have X1 := f1.heap X0 (fun f => f)
        have fw1 : Fr (fun _ => False) wr w1 := (Fr.alloc _ _ _).same f1
        generalize hG : wr.heap.size = G at X1 ⊢
        have hGH : Hidden (wr.heap.size = G) := hG
        have hbG : bb ≠ G := by rw [← hG]; have h1 : w.heap.size ≤ wr.heap.size := hszr; omega
        obtain ⟨x0, x1, x2, x3⟩ := box4 X1
        have fx1 := fz_row X1 1
        have fx2 := fz_row X1 2
        have fx3 := fz_row X1 3
        have X1H : Hidden _ := X1
        have fw1H : Hidden (Fr (fun _ => False) wr w1) := fw1
        clear hG f1 X0 X1 hnw c0 ks
        obtain ⟨gL, rfl⟩ : ∃ gL, gL = gk := ⟨gk, rfl⟩
        obtain ⟨V, rfl⟩ : ∃ V, V = wr := ⟨wr, rfl⟩
        by_cases h1 : op = 1
        · obtain rfl : op = 1 := h1
          have hz10' : z = 10 := by have : sizeS 1 = (z : Int) := hzH; have h2 : sizeS 1 = 10 := rfl; omega
          subst hz10'
          obtain ⟨t1, ht1⟩ : ∃ t1, r[0]? = some t1 := ⟨_, List.getElem?_eq_getElem (by have : (c :: r).length = gL := hrlH; simp at this; omega)⟩
          obtain ⟨tt, htt⟩ : ∃ tt : Int, tt = (t1.toNat : Int) := ⟨_, rfl⟩
          have hc8t := t1.toNat_lt
          have hw8t : IntKind.i64.wrap tt = tt := by rw [htt]; exact wrap_small _ (by omega) (by omega)
          have d1 : w1.cell? ⟨bb, off + 1, none⟩ = some (.int .u8 tt) := by rw [htt]; exact fw1.cellN ((show Fr _ w V from fwr).cellN ((show ∀ i x, _ → _ from hcellH) 1 t1 (by simpa using ht1)))
          have i1 : 1 < gL := by omega
          have i2 : (1 : Int) < (gL : Int) := by omega
          have hraw : Hidden (rawI (c :: r) = ⟨1, 0, tt, (numGo 0 ((r.drop 1).take 8) : Int)⟩) := by
            show _ = _
            unfold rawI
            simp only []
            have hc1 : c.toNat = 1 := by have h3 : (1 : Int) = (c.toNat : Int) := hopH; omega
            rw [if_pos hc1, List.getD_eq_getElem?_getD, ht1, htt]
            rfl
          clear ht1 htt hc8t fw1
          go_wp2_with fail
          go_loopg [7] 8 (fun k kv wl => ∃ p q : Nat, kv = .int .i64 (p : Int) ∧ p = q + 2 ∧ q ≤ 8 ∧ k = 8 - q ∧ wl.heap[G]? = some (.cells #[ci 1, ci 0, ci tt, .int .u64 (numGo 0 ((r.drop 1).take q) : Int)] 26 (0, 0)) ∧ Fr (fun k => k = G) w1 wl)
          case atStart => exact ⟨2, 0, rfl, rfl, by omega, rfl, box4_set2' (show w1.heap[G]? = _ from X1H) _, Fr.setCell w1 ⟨G, 2, none⟩ _⟩
          case round =>
            obtain ⟨p, q, rfl, hpq, hq, hk, hg, hf⟩ := hrel
            have hkH : Hidden (gk = 8 - q) := hk
            have hgH' : Hidden _ := hg
            have hfH : Hidden (Fr (fun k => k = G) w1 wr) := hf
            clear hk
            obtain ⟨wl', rfl⟩ : ∃ wl', wl' = wr := ⟨wr, rfl⟩
            by_cases hq8 : q < 8
            · obtain ⟨x, hx⟩ : ∃ x, (r.drop 1)[q]? = some x := ⟨_, List.getElem?_eq_getElem (by have : (c :: r).length = gL := hrlH; simp at this; rw [List.length_drop]; omega)⟩
              have hx2 : (c :: r)[p]? = some x := by
                rw [hpq, List.getElem?_cons_succ]
                rw [List.getElem?_drop] at hx
                rw [show q + 1 = 1 + q by omega]
                exact hx
              have d : wl'.cell? ⟨bb, off + p, none⟩ = some (.int .u8 (x.toNat : Int)) := hf.cell ((show Fr (fun _ => False) V w1 from fw1H).cellN ((show Fr _ w V from fwr).cellN ((show ∀ i x, _ → _ from hcellH) p x hx2))) hbG
              obtain ⟨y0, y1, y2, y3⟩ := box4 hg
              have fy3 := fz_row hg 3
              have hA : Hidden (numGo 0 ((r.drop 1).take (q + 1)) = numGo 0 ((r.drop 1).take q) * 256 + x.toNat) := by
                show _ = _
                rw [List.take_add_one, hx]; exact numGo_snoc _ _ _
              have hlt : numGo 0 ((r.drop 1).take q) < 72057594037927936 := by
                have h1 := numGo_lt ((r.drop 1).take q) 0
                rw [List.length_take] at h1
                have h2 : 256 ^ (min q (r.drop 1).length) ≤ 256 ^ 7 := Nat.pow_le_pow_right (by decide) (by omega)
                omega
              obtain ⟨A1, hA1⟩ : ∃ A1, numGo 0 ((r.drop 1).take q) = A1 := ⟨_, rfl⟩
              rw [hA1] at hA hlt y3 hgH'
              have e_or := or_byte A1 x hlt
              have ip : p < gL := by have : (10 : Nat) ≤ gL := hz2; omega
              have ip2 : (p : Int) < (gL : Int) := by omega
              have ip3 : (p : Int) < 10 := by omega
              have hpqH : Hidden (p = q + 2) := hpq
              clear hx hx2 hA1 hg hf hpq
              go_wp2_with fail
              go_region_with (fail)
              all_goals
                go_wp2_with fail
                go_roundg (8 - (q + 1))
                case measure => have : gk = 8 - q := hkH; omega
                case rel =>
                  refine ⟨p + 1, q + 1, by go_num, by have : p = q + 2 := hpqH; omega, by omega, rfl, ?_, ?_⟩
                  · rw [(show numGo 0 ((r.drop 1).take (q + 1)) = A1 * 256 + x.toNat from hA), ← e_or]
                    first
                      | exact box4_set3 hgH' _
                      | exact (Fr.drew (fun _ => False) _).heap (box4_set3 hgH' _) (fun f => f)
                  · first
                      | exact (show Fr (fun k => k = G) w1 wl' from hfH).same (Fr.setCell wl' ⟨G, 3, none⟩ _)
                      | exact ((show Fr (fun k => k = G) w1 wl' from hfH).same (Fr.setCell wl' ⟨G, 3, none⟩ _)).same (Fr.drew _ _)
            · obtain rfl : q = 8 := by omega
              obtain rfl : p = 10 := by omega
              clear hq8
              obtain ⟨N, hN⟩ : ∃ N, numGo 0 ((r.drop 1).take 8) = N := ⟨_, rfl⟩
              rw [hN] at hg hraw
              have hub : U64 (N : Int) := by
                have h1 := numGo_lt ((r.drop 1).take 8) 0
                rw [hN, List.length_take] at h1
                have h2 : 256 ^ (min 8 (r.drop 1).length) ≤ 256 ^ 8 := Nat.pow_le_pow_right (by decide) (by omega)
                exact ⟨by omega, by omega⟩
              clear hN hgH' hkH
              obtain ⟨y0, y1, y2, y3⟩ := box4 hg
              have hIr : fstI c r = (⟨1, 0, tt, (N : Int)⟩ : In) := by unfold fstI; rw [(show fstB c r = true from hgH), if_pos rfl]; exact hraw
              have hOr : fstO c r = rightS (⟨1, 0, tt, (N : Int)⟩ : In) := by
                unfold fstO
                rw [(show fstB c r = true from hgH), Bool.true_and, show rawI (c :: r) = _ from hraw]
              have hst2 : Hidden (R = if rightS (⟨1, 0, tt, (N : Int)⟩ : In) = true then (if acc.length = 4096 then (3, []) else decGo (j - 1) (acc ++ [(⟨1, 0, tt, (N : Int)⟩ : In)]) ((c :: r).drop 10)) else (51, [])) := by
                show _ = _
                rw [show R = _ from hstep, hOr, hIr, ← (show _ = (c.toNat : Int) from hopH), show sizeS _ = ((10 : Nat) : Int) from hzH]
                rfl
              have kr := fun W => rright_any (⟨1, 0, tt, (N : Int)⟩ : In) hub W
              have fVt : Fr (fun _ => False) V wl' := (show Fr (fun _ => False) V w1 from fw1H).over hf (fun k e => by rw [e]; exact Nat.le_of_eq hGH)
              have fVtH : Hidden (Fr (fun _ => False) V wl') := fVt
              have hgtH : Hidden (wl'.heap[G]? = some (.cells #[ci (1), ci (0), ci (tt), .int .u64 ((N : Int))] 26 (0, 0))) := hg
              clear hIr hOr hf hg hraw hstep
              by_cases hri : rightS (⟨1, 0, tt, (N : Int)⟩ : In) = true
              · rw [hri] at kr
                rw [if_pos hri] at hst2
                clear hri
                by_cases hA4 : A = 4096
                · subst hA4
                  have e : R = (3, []) := by rw [show R = _ from hst2, if_pos (show acc.length = 4096 from hAH)]
                  go_wp2_with fail
                  go_at_call 9
                  refine (kr _).mono ?_
                  rintro e' w2 ⟨rfl, f2⟩
                  go_wp2_with fail
                  go_ret2
                  refine ⟨_, by first | rfl | (rw [e]; rfl), by first | exact IW.nil _ _ _ | (rw [e]; exact IW.nil _ _ _), ((show Fr _ w V from fwr).same fVt).same f2⟩
                · have hA4b : ((A : Int) == 4096) = false := by simp; omega
                  have hA5 : A < 4096 := by omega
                  go_wp2_with fail
                  go_at_call 9
                  refine (kr _).mono ?_
                  rintro e' w2 ⟨rfl, f2⟩
                  replace y0 := f2.cellN y0
                  replace y1 := f2.cellN y1
                  replace y2 := f2.cellN y2
                  replace y3 := f2.cellN y3
                  have fV2 : Hidden (Fr (fun _ => False) V w2) := fVt.same f2
                  have hO2 : Hidden (w2.ownsRow w.heap.size 26 4 (.slice aoo A capo) A (acc.flatMap inC)) := own_keep (show V.ownsRow _ _ 4 _ A _ from hOH) fV2 (fun _ _ f => f)
                  have hsz2 : w.heap.size ≤ w2.heap.size := Nat.le_trans hszr (show Fr _ V w2 from fV2).size
                  have nbXH : Hidden (¬ (Value.slice aoo A capo).ownBlock = some G) := fun e => by
                    have h1 := ((show ∀ k, _ → w.heap.size ≤ k ∧ k < V.heap.size from hlow) _ e).2
                    have h2 : V.heap.size = G := hGH
                    omega
                  clear fVt f2
                  go_wp2_with (first
                    | (at_builtin
                       refine wpl_append rfl _ _ 40 26 (.agg #[.int .i64 0, .int .i64 0, .int .i64 0, .int .u64 0]) 4 32 Tryd.underlying40 info_rin rfl (by decide) rfl w.heap.size (.slice aoo A capo) A (acc.flatMap inC) ⟨w2.heap.size, 0, none⟩ 1 1 [ci (1), ci (0), ci (tt), .int .u64 ((N : Int))] rfl ?c0 rfl rfl ?c1 ?c2 ?c3 ?c4 ?c5 ?_
                       case c0 => exact own_keep (show w2.ownsRow _ _ 4 _ A _ from hO2) (Fr.alloc (fun _ => False) _ _) (fun _ _ f => f)
                       case c1 =>
                         intro i u hu
                         rw [Addr.add_lit, Nat.zero_add]
                         refine (cell_of_row _ _ _ _ _ _ (alloc_new w2 _)).trans ?_
                         rcases i with _ | _ | _ | _ | i
                         · simp at hu; subst hu; rfl
                         · simp at hu; subst hu; rfl
                         · simp at hu; subst hu; rfl
                         · simp at hu; subst hu; rfl
                         · simp at hu
                       case c2 => intro u hu; simp at hu; rcases hu with rfl | rfl | rfl | rfl <;> rfl
                       case c3 => simp [maxLen]; omega
                       case c4 => omega
                       case c5 => simp; omega
                       intro v2 w3 r2 f2 o2
                       have a2H : Hidden (Ap w2 w3 (.slice aoo A capo) v2) := Ap.after (Fr.alloc _ _ _) (Ap.of f2 o2)
                       have r2H : Hidden _ := r2
                       clear f2 o2 r2))
                  all_goals
                    go_roundg (gL - 10)
                    case measure => omega
                    case rel =>
                      have hrl : (c :: r).length = gL := hrlH
                      have hbl : BL w _ cap' (c :: r) := hblH
                      refine ⟨(c :: r).drop 10, acc ++ [(⟨1, 0, tt, (N : Int)⟩ : In)], j - 1, _, _, rfl, by rw [List.length_drop, hrl], ?_, ?_, ?_, ?_, by omega, ?_⟩
                      · first
                          | exact hbl.off 10 (by rw [hrl]; exact hz2)
                          | (have e1 : 10 = cap' := by omega
                             rw [e1]
                             exact hbl.end')
                      · rw [flat_snoc, List.length_append, show acc.length = A from hAH]
                        exact r2H
                      · exact (show Ap w V _ _ from hapH).trans (Ap.after (show Fr (fun _ => False) V w2 from fV2) a2H)
                      · rw [List.length_append, show acc.length = A from hAH]; simp; omega
                      · rw [show R = _ from hst2, if_neg (by rw [show acc.length = A from hAH]; exact hA4)]
              · have hrf : rightS (⟨1, 0, tt, (N : Int)⟩ : In) = false := by simpa using hri
                have e : R = (51, []) := by rw [show R = _ from hst2, if_neg hri]
                rw [hrf] at kr
                clear hri hrf hst2
                go_wp2_with fail
                go_at_call 9
                refine (kr _).mono ?_
                rintro e' w2 ⟨rfl, f2⟩
                go_wp2_with fail
                go_ret2
                refine ⟨_, by first | rfl | (rw [e]; rfl), by first | exact IW.nil _ _ _ | (rw [e]; exact IW.nil _ _ _), ((show Fr _ w V from fwr).same fVt).same f2⟩
        · have heb : (op == 1) = false := by simpa using h1
          have hraw0 : rawI (c :: r) = ⟨op, (numGo 0 (r.take (wd op)) : Int), 0, 0⟩ := by
            unfold rawI
            simp only []
            have h3 : op = (c.toNat : Int) := hopH
            rw [if_neg (by omega), ← h3]
          have hwz : wd op = z - 1 ∧ z ≤ 3 := by
            have h2 := hzH
            rcases size_cases op with h | ⟨h, _⟩ | ⟨_, ⟨a, b⟩ | ⟨a, b⟩ | ⟨a, b⟩⟩
            · have : sizeS op = (z : Int) := h2; omega
            · exact absurd h h1
            · have : sizeS op = (z : Int) := h2; omega
            · have : sizeS op = (z : Int) := h2; omega
            · have : sizeS op = (z : Int) := h2; omega
          rw [hwz.1] at hraw0
          have hz3 := hwz.2
          have hraw0H : Hidden (rawI (c :: r) = ⟨op, (numGo 0 (r.take (z - 1)) : Int), 0, 0⟩) := hraw0
          have x1H : Hidden _ := x1
          clear h1 hraw0 hwz fw1
          go_wp2_with fail
          go_loopg [8] (z - 1) (fun k kv wl => ∃ p q : Nat, kv = .int .i64 (p : Int) ∧ p = q + 1 ∧ q + 1 ≤ z ∧ k = z - 1 - q ∧ wl.heap[G]? = some (.cells #[ci op, ci (numGo 0 (r.take q) : Int), ci 0, .int .u64 0] 26 (0, 0)) ∧ Fr (fun k => k = G) w1 wl)
          case atStart => exact ⟨1, 0, rfl, rfl, by omega, rfl, X1H, Fr.refl _ _⟩
          case round =>
            obtain ⟨p, q, rfl, hpq, hq, hk, hg, hf⟩ := hrel
            have hkH : Hidden (gk = z - 1 - q) := hk
            have hgH' : Hidden _ := hg
            have hfH : Hidden (Fr (fun k => k = G) w1 wr) := hf
            clear hk
            obtain ⟨wl', rfl⟩ : ∃ wl', wl' = wr := ⟨wr, rfl⟩
            by_cases hq8 : p < z
            · have hpi : (p : Int) < (z : Int) := by omega
              obtain ⟨x, hx⟩ : ∃ x, r[q]? = some x := ⟨_, List.getElem?_eq_getElem (by have : (c :: r).length = gL := hrlH; simp at this; omega)⟩
              have hx2 : (c :: r)[p]? = some x := by
                rw [hpq, List.getElem?_cons_succ]
                exact hx
              have d : wl'.cell? ⟨bb, off + p, none⟩ = some (.int .u8 (x.toNat : Int)) := hf.cell ((show Fr (fun _ => False) V w1 from fw1H).cellN ((show Fr _ w V from fwr).cellN ((show ∀ i x, _ → _ from hcellH) p x hx2))) hbG
              obtain ⟨y0, y1, y2, y3⟩ := box4 hg
              have fy1 := fz_row hg 1
              have hA : Hidden (numGo 0 (r.take (q + 1)) = numGo 0 (r.take q) * 256 + x.toNat) := by
                show _ = _
                rw [List.take_add_one, hx]; exact numGo_snoc _ _ _
              have hlt : numGo 0 (r.take q) < 65536 := by
                have h1 := numGo_lt (r.take q) 0
                rw [List.length_take] at h1
                have h2 : 256 ^ (min q r.length) ≤ 256 ^ 2 := Nat.pow_le_pow_right (by decide) (by omega)
                omega
              obtain ⟨A1, hA1⟩ : ∃ A1, numGo 0 (r.take q) = A1 := ⟨_, rfl⟩
              rw [hA1] at hA hlt y1 hgH'
              have hx8 := x.toNat_lt
              have hwx : IntKind.i64.wrap (x.toNat : Int) = (x.toNat : Int) := wrap_small _ (by omega) (by omega)
              have e_or := or_byte_i A1 x (by omega)
              have e_or2 : bits .or .i64 ((A1 : Int) * 256) (IntKind.i64.wrap (x.toNat : Int)) = ((A1 * 256 + x.toNat : Nat) : Int) := by rw [hwx]; exact e_or
              have hw64 : wrap64 ((A1 : Int) * 256) = (A1 : Int) * 256 := by unfold wrap64; omega
              have hwA : IntKind.i64.wrap ((A1 : Int) * 256) = (A1 : Int) * 256 := wrap_small _ (by omega) (by omega)
              have ip : p < gL := by omega
              have ip2 : (p : Int) < (gL : Int) := by omega
              have hpqH : Hidden (p = q + 1) := hpq
              clear hx hx2 hA1 hg hf hpq
              go_wp2_with fail
              go_region_with (fail)
              all_goals
                go_wp2_with fail
                go_roundg (z - 1 - (q + 1))
                case measure => have : gk = z - 1 - q := hkH; have : p = q + 1 := hpqH; omega
                case rel =>
                  refine ⟨p + 1, q + 1, by go_num, by have : p = q + 1 := hpqH; omega, by have : p = q + 1 := hpqH; omega, rfl, ?_, ?_⟩
                  · rw [(show numGo 0 (r.take (q + 1)) = A1 * 256 + x.toNat from hA)]
                    first
                      | exact box4_set1 hgH' _
                      | exact (Fr.drew (fun _ => False) _).heap (box4_set1 hgH' _) (fun f => f)
                      | (rw [← e_or]; exact box4_set1 hgH' _)
                      | (rw [← e_or]; exact (Fr.drew (fun _ => False) _).heap (box4_set1 hgH' _) (fun f => f))
                  · first
                      | exact (show Fr (fun k => k = G) w1 wl' from hfH).same (Fr.setCell wl' ⟨G, 1, none⟩ _)
                      | exact ((show Fr (fun k => k = G) w1 wl' from hfH).same (Fr.setCell wl' ⟨G, 1, none⟩ _)).same (Fr.drew _ _)
            · obtain rfl : p = z := by omega
              have hqz : q = p - 1 := by omega
              rw [hqz] at hg
              clear hq8
              obtain ⟨N, hN⟩ : ∃ N, numGo 0 (r.take (p - 1)) = N := ⟨_, rfl⟩
              have hraw := hraw0H
              rw [hN] at hg hraw
              have hub : U64 0 := ⟨by decide, by decide⟩
              clear hN hgH' hkH hpq hqz
              obtain ⟨y0, y1, y2, y3⟩ := box4 hg
              have hIr : fstI c r = (⟨op, (N : Int), 0, 0⟩ : In) := by unfold fstI; rw [(show fstB c r = true from hgH), if_pos rfl]; exact hraw
              have hOr : fstO c r = rightS (⟨op, (N : Int), 0, 0⟩ : In) := by
                unfold fstO
                rw [(show fstB c r = true from hgH), Bool.true_and, show rawI (c :: r) = _ from hraw]
              have hst2 : Hidden (R = if rightS (⟨op, (N : Int), 0, 0⟩ : In) = true then (if acc.length = 4096 then (3, []) else decGo (j - 1) (acc ++ [(⟨op, (N : Int), 0, 0⟩ : In)]) ((c :: r).drop p)) else (51, [])) := by
                show _ = _
                rw [show R = _ from hstep, hOr, hIr, ← (show _ = (c.toNat : Int) from hopH), show sizeS _ = ((p : Nat) : Int) from hzH]
                rfl
              have kr := fun W => rright_any (⟨op, (N : Int), 0, 0⟩ : In) hub W
              have fVt : Fr (fun _ => False) V wl' := (show Fr (fun _ => False) V w1 from fw1H).over hf (fun k e => by rw [e]; exact Nat.le_of_eq hGH)
              have fVtH : Hidden (Fr (fun _ => False) V wl') := fVt
              have hgtH : Hidden (wl'.heap[G]? = some (.cells #[ci (op), ci ((N : Int)), ci (0), .int .u64 (0)] 26 (0, 0))) := hg
              clear hIr hOr hf hg hraw hstep
              by_cases hri : rightS (⟨op, (N : Int), 0, 0⟩ : In) = true
              · rw [hri] at kr
                rw [if_pos hri] at hst2
                clear hri
                by_cases hA4 : A = 4096
                · subst hA4
                  have e : R = (3, []) := by rw [show R = _ from hst2, if_pos (show acc.length = 4096 from hAH)]
                  go_wp2_with fail
                  go_at_call 9
                  refine (kr _).mono ?_
                  rintro e' w2 ⟨rfl, f2⟩
                  go_wp2_with fail
                  go_ret2
                  refine ⟨_, by first | rfl | (rw [e]; rfl), by first | exact IW.nil _ _ _ | (rw [e]; exact IW.nil _ _ _), ((show Fr _ w V from fwr).same fVt).same f2⟩
                · have hA4b : ((A : Int) == 4096) = false := by simp; omega
                  have hA5 : A < 4096 := by omega
                  go_wp2_with fail
                  go_at_call 9
                  refine (kr _).mono ?_
                  rintro e' w2 ⟨rfl, f2⟩
                  replace y0 := f2.cellN y0
                  replace y1 := f2.cellN y1
                  replace y2 := f2.cellN y2
                  replace y3 := f2.cellN y3
                  have fV2 : Hidden (Fr (fun _ => False) V w2) := fVt.same f2
                  have hO2 : Hidden (w2.ownsRow w.heap.size 26 4 (.slice aoo A capo) A (acc.flatMap inC)) := own_keep (show V.ownsRow _ _ 4 _ A _ from hOH) fV2 (fun _ _ f => f)
                  have hsz2 : w.heap.size ≤ w2.heap.size := Nat.le_trans hszr (show Fr _ V w2 from fV2).size
                  have nbXH : Hidden (¬ (Value.slice aoo A capo).ownBlock = some G) := fun e => by
                    have h1 := ((show ∀ k, _ → w.heap.size ≤ k ∧ k < V.heap.size from hlow) _ e).2
                    have h2 : V.heap.size = G := hGH
                    omega
                  clear fVt f2
                  go_wp2_with (first
                    | (at_builtin
                       refine wpl_append rfl _ _ 40 26 (.agg #[.int .i64 0, .int .i64 0, .int .i64 0, .int .u64 0]) 4 32 Tryd.underlying40 info_rin rfl (by decide) rfl w.heap.size (.slice aoo A capo) A (acc.flatMap inC) ⟨w2.heap.size, 0, none⟩ 1 1 [ci (op), ci ((N : Int)), ci (0), .int .u64 (0)] rfl ?c0 rfl rfl ?c1 ?c2 ?c3 ?c4 ?c5 ?_
                       case c0 => exact own_keep (show w2.ownsRow _ _ 4 _ A _ from hO2) (Fr.alloc (fun _ => False) _ _) (fun _ _ f => f)
                       case c1 =>
                         intro i u hu
                         rw [Addr.add_lit, Nat.zero_add]
                         refine (cell_of_row _ _ _ _ _ _ (alloc_new w2 _)).trans ?_
                         rcases i with _ | _ | _ | _ | i
                         · simp at hu; subst hu; rfl
                         · simp at hu; subst hu; rfl
                         · simp at hu; subst hu; rfl
                         · simp at hu; subst hu; rfl
                         · simp at hu
                       case c2 => intro u hu; simp at hu; rcases hu with rfl | rfl | rfl | rfl <;> rfl
                       case c3 => simp [maxLen]; omega
                       case c4 => omega
                       case c5 => simp; omega
                       intro v2 w3 r2 f2 o2
                       have a2H : Hidden (Ap w2 w3 (.slice aoo A capo) v2) := Ap.after (Fr.alloc _ _ _) (Ap.of f2 o2)
                       have r2H : Hidden _ := r2
                       clear f2 o2 r2))
                  all_goals
                    go_roundg (gL - p)
                    case measure => omega
                    case rel =>
                      have hrl : (c :: r).length = gL := hrlH
                      have hbl : BL w _ cap' (c :: r) := hblH
                      refine ⟨(c :: r).drop p, acc ++ [(⟨op, (N : Int), 0, 0⟩ : In)], j - 1, _, _, rfl, by rw [List.length_drop, hrl], ?_, ?_, ?_, ?_, by omega, ?_⟩
                      · first
                          | exact hbl.off p (by rw [hrl]; exact hz2)
                          | (have e1 : p = cap' := by omega
                             rw [e1]
                             exact hbl.end')
                      · rw [flat_snoc, List.length_append, show acc.length = A from hAH]
                        exact r2H
                      · exact (show Ap w V _ _ from hapH).trans (Ap.after (show Fr (fun _ => False) V w2 from fV2) a2H)
                      · rw [List.length_append, show acc.length = A from hAH]; simp; omega
                      · rw [show R = _ from hst2, if_neg (by rw [show acc.length = A from hAH]; exact hA4)]
              · have hrf : rightS (⟨op, (N : Int), 0, 0⟩ : In) = false := by simpa using hri
                have e : R = (51, []) := by rw [show R = _ from hst2, if_neg hri]
                rw [hrf] at kr
                clear hri hrf hst2
                go_wp2_with fail
                go_at_call 9
                refine (kr _).mono ?_
                rintro e' w2 ⟨rfl, f2⟩
                go_wp2_with fail
                go_ret2
                refine ⟨_, by first | rfl | (rw [e]; rfl), by first | exact IW.nil _ _ _ | (rw [e]; exact IW.nil _ _ _), ((show Fr _ w V from fwr).same fVt).same f2⟩
end Go.Proofs.YticpiaonkgomfaaDoor.Cd
