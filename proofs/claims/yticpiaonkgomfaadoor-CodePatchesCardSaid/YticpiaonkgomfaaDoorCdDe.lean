/- The program's Decode. -/
import Derived.Test.YticpiaonkgomfaaDoorCdFi
import Derived.Test.YticpiaonkgomfaaDoorCdO
import Derived.Test.YticpiaonkgomfaaDoorCdU
namespace Go.Proofs.YticpiaonkgomfaaDoor.Cd
open Go.RowKit Ty
set_option linter.unusedSimpArgs false
set_option linter.unusedVariables false

theorem fst_facts {c : UInt8} {r : Bs} (h : fstO c r = true) : (fstI c r).op = (c.toNat : Int) ∧ rightS (fstI c r) = true ∧ U64 (fstI c r).b ∧ ∃ z : Nat, (z : Int) = sizeS (c.toNat : Int) ∧ 1 ≤ z ∧ z ≤ (c :: r).length := by
  unfold fstO at h
  rw [Bool.and_eq_true] at h
  have hI : fstI c r = rawI (c :: r) := by unfold fstI; rw [h.1, if_pos rfl]
  have hB := h.1
  unfold fstB at hB
  simp only [Bool.not_eq_true', decide_eq_false_iff_not, not_or] at hB
  have h0 : 0 ≤ sizeS (c.toNat : Int) := by unfold sizeS; repeat' split; all_goals omega
  refine ⟨?_, by rw [hI]; exact h.2, ?_, (sizeS (c.toNat : Int)).toNat, by omega, by omega, by omega⟩
  · rw [hI]
    unfold rawI
    simp only []
    split
    · rename_i h1; rw [h1]; rfl
    · rfl
  · rw [hI]
    unfold rawI
    simp only []
    split
    · have := numGo_lt ((r.drop 1).take 8) 0
      rw [List.length_take] at this
      have h2 : 256 ^ (min 8 (r.drop 1).length) ≤ 256 ^ 8 := Nat.pow_le_pow_right (by decide) (by omega)
      constructor <;> (show _; simp only []; omega)
    · exact ⟨Int.le_refl 0, by show (0 : Int) < 18446744073709551616; decide⟩
theorem BL.off {w : World} {b off cap : Nat} {l : Bs} (k : Nat) (h : BL w (some ⟨b, off, none⟩) cap l) (hk : k ≤ l.length) : BL w (some ⟨b, off + k, none⟩) (cap - k) (l.drop k) := by
  obtain ⟨h1, h2, h3, h4⟩ := h
  refine ⟨by rw [List.length_drop]; omega, by omega, (fun e => by cases e), ?_⟩
  rcases h4 with rfl | ⟨b', off', e, h4⟩
  · left; simp
  · right
    cases e
    refine ⟨b, off + k, rfl, fun i c hc => ?_⟩
    rw [List.getElem?_drop] at hc
    have := h4 _ _ hc
    rw [show off + k + i = off + (k + i) by omega]
    exact this
theorem BL.end' {w : World} {b off cap : Nat} {l : Bs} (h : BL w (some ⟨b, off, none⟩) cap l) : BL w (some ⟨b, off, none⟩) 0 (l.drop cap) := by
  have hl : l.drop cap = [] := List.drop_eq_nil_of_le h.1
  rw [hl]
  exact ⟨Nat.zero_le _, Nat.zero_le _, (fun e => by cases e), Or.inl rfl⟩
theorem info_inz : (Tryd.prog.info? 27).map (fun i => (i.zero, i.size, i.bytes)) = some (some (.agg #[.int .i64 0, .int .i64 0, .int .i64 0, .int .u64 0]), 4, 32) := info_in
theorem decGo_step {j : Nat} {acc : List In} {c : UInt8} {r : Bs} (hj : 0 < j) : decGo j acc (c :: r) = if fstO c r then (if acc.length = 4096 then (3, []) else decGo (j - 1) (acc ++ [fstI c r]) ((c :: r).drop (sizeS (c.toNat : Int)).toNat)) else (51, []) := by
  obtain ⟨j, rfl⟩ : ∃ k, j = k + 1 := ⟨j - 1, by omega⟩
  rw [decGo, firstS_eq]
  by_cases h : fstO c r = true
  · rw [if_pos h, if_pos h]; rfl
  · rw [if_neg h, if_neg h]
set_option maxRecDepth 20000 in
set_option maxHeartbeats 4000000 in
theorem decode_any (ao : Option Addr) (n cap : Nat) (b : Bs) (hn : b.length = n) (w : World) (h : BL w ao cap b) :
    Calls Tryd.prog 15 #[.slice ao n cap] w fun e w' => ∃ v, e = .returned (.tuple #[v, ci (decS b).1]) ∧ IW w' w.heap.size 27 v (decS b).2 ∧ Fr (fun _ => False) w w' := by
  obtain ⟨R, hR⟩ : ∃ R, R = decS b := ⟨_, rfl⟩
  rw [← hR]
  have hRH : Hidden (R = decGo (b.length + 1) [] b) := hR
  have hH : Hidden (BL w ao cap b) := h
  have hnH : Hidden (b.length = n) := hn
  clear hR h hn
  go_enter Tryd.func15, Tryd.ntmps15
  go_wp2_with fail
  go_loopg [0, 4] n (fun k bv lv wr => ∃ (rest : Bs) (acc : List In) (j : Nat) (ao' : Option Addr) (cap' : Nat), bv = .slice ao' k cap' ∧ rest.length = k ∧ BL w ao' cap' rest ∧ wr.ownsRow w.heap.size 27 4 lv acc.length (acc.flatMap inC) ∧ Ap w wr (.slice none 0 0) lv ∧ acc.length ≤ 4096 ∧ k < j ∧ R = decGo j acc rest)
  case atStart => exact ⟨b, [], b.length + 1, ao, cap, rfl, hnH, hH, own_nil _ _ _ _, Ap.refl _ _, by simp, by have : b.length = n := hnH; omega, hRH⟩
  case round =>
    obtain ⟨rest, acc, j, ao', cap', rfl, hrl, hbl, hO, hap, hacc, hj, hRj⟩ := hrel
    have hrlH : Hidden (rest.length = gk) := hrl
    have hblH : Hidden (BL w ao' cap' rest) := hbl
    have hOH : Hidden (wr.ownsRow w.heap.size 27 4 u4 acc.length (acc.flatMap inC)) := hO
    have hapH : Hidden (Ap w wr (.slice none 0 0) u4) := hap
    have hRjH : Hidden (R = decGo j acc rest) := hRj
    have fwr : Hidden (Fr (fun _ => False) w wr) := hap.none
    obtain ⟨aoo, capo, rfl, o1, o2, _⟩ := own_slice hO (by decide)
    have hlow : Hidden (∀ k, (Value.slice aoo acc.length capo).ownBlock = some k → w.heap.size ≤ k ∧ k < wr.heap.size) := own_block hO
    have hszr : Hidden (w.heap.size ≤ wr.heap.size) := hap.none.size
    obtain ⟨A, hA⟩ : ∃ A, acc.length = A := ⟨_, rfl⟩
    have hAH : Hidden (acc.length = A) := hA
    rw [hA] at hOH hapH o1 hacc hlow ⊢
    have o3 : capo ≤ 9223372036854775807 := by simpa [maxLen] using o2
    clear hO hap hRj o2 hA
    cases rest with
    | nil =>
      have hk0 : gk = 0 := by rw [← hrl]; rfl
      subst hk0
      clear hrl hbl
      go_wp2_with fail
      go_ret2
      have e : R = (0, acc) := by
        rw [show R = _ from hRjH]
        obtain ⟨j', rfl⟩ : ∃ k, j = k + 1 := ⟨j - 1, by omega⟩
        rfl
      refine ⟨_, by rw [e]; rfl, ?_, fwr⟩
      rw [e]
      unfold IW
      rw [show acc.length = A from hAH]
      exact hOH
    | cons c r =>
      have hcap' : gk ≤ cap' := by rw [← hrl]; exact hbl.1
      have hcm' : cap' ≤ 9223372036854775807 := by have := hbl.2.1; simpa [maxLen] using this
      obtain ⟨bb, off, rfl, _⟩ := hbl.2.2.2.resolve_left (by simp)
      have hgk : 0 < gk := by rw [← hrl]; simp
      have hgki : (0 : Int) < (gk : Int) := by omega
      have kf := first_any bb off cap' gk c r hrl wr (hbl.keep (show Fr _ w wr from fwr))
      have hstep : Hidden (R = _) := (show R = _ from hRjH).trans (decGo_step (by omega))
      clear hrl hbl
      by_cases hO1 : fstO c r = true
      · obtain ⟨hop, hri, hub, z, hz, hz1, hz2⟩ := fst_facts hO1
        rw [show (c :: r).length = gk from hrlH] at hz2
        have hst2 : Hidden (R = if acc.length = 4096 then (3, []) else decGo (j - 1) (acc ++ [fstI c r]) ((c :: r).drop z)) := by
          show _ = _
          rw [show R = _ from hstep, if_pos hO1, ← hz]
          rfl
        rw [hO1] at kf
        obtain ⟨i, hi⟩ : ∃ i, fstI c r = i := ⟨_, rfl⟩
        rw [hi] at kf hop hub hst2
        have ks := fun W => size_any i W
        rw [hop, ← hz] at ks
        clear hO1 hi hri hop hz hstep hRjH
        obtain ⟨op, nn, t, bv⟩ := i
        simp only [] at hub
        by_cases hA4 : A = 4096
        · subst hA4
          have e : R = (3, []) := by rw [show R = _ from hst2, if_pos (show acc.length = 4096 from hAH)]
          go_wp2_with fail
          go_at_call 32
          refine kf.mono ?_
          rintro e' w1 ⟨rfl, f1⟩
          go_wp2_with fail
          go_ret2
          refine ⟨_, by rw [e]; rfl, by rw [e]; exact IW.nil _ _ _, ((show Fr _ w wr from fwr).same f1).same (Fr.alloc _ _ _)⟩
        · have hA4b : ((A : Int) == 4096) = false := by simp; omega
          have hA5 : A < 4096 := by omega
          go_wp2_with fail
          go_at_call 32
          refine kf.mono ?_
          rintro e' w1 ⟨rfl, f1⟩
          obtain ⟨V, hV⟩ : ∃ V, V = w1.alloc (.cells #[ci op, ci nn, ci t, .int .u64 bv] 27 (0, 0)) := ⟨_, rfl⟩
          have fV : Fr (fun _ => False) wr V := by rw [hV]; exact f1.same (Fr.alloc _ _ _)
          have XV : V.heap[w1.heap.size]? = some (.cells #[ci op, ci nn, ci t, .int .u64 bv] 27 (0, 0)) := by rw [hV]; exact alloc_new _ _
          have hOV : V.ownsRow w.heap.size 27 4 (.slice aoo A capo) A (acc.flatMap inC) := own_keep (show wr.ownsRow _ _ 4 _ A _ from hOH) fV (fun _ _ f => f)
          obtain ⟨x0, x1, x2, x3⟩ := box4 XV
          have hszV : w.heap.size ≤ V.heap.size := Nat.le_trans hszr fV.size
          have nbX : ¬ (Value.slice aoo A capo).ownBlock = some w1.heap.size := fun e => by
            have h1 := ((show ∀ k, _ → w.heap.size ≤ k ∧ k < wr.heap.size from hlow) _ e).2
            have h2 := f1.size
            omega
          have fVH : Hidden (Fr (fun _ => False) wr V) := fV
          have hOVH : Hidden (V.ownsRow w.heap.size 27 4 (.slice aoo A capo) A (acc.flatMap inC)) := hOV
          have nbXH : Hidden (¬ (Value.slice aoo A capo).ownBlock = some w1.heap.size) := nbX
          have hVH : Hidden (V = _) := hV
          clear fV XV hOV nbX hV f1 kf
          go_upto_region 8 with fail
          rw [← (show V = _ from hVH)]
          clear hVH
          generalize w1.heap.size = G at x0 x1 x2 x3 nbXH ⊢
          go_wp2_with (first
            | (at_builtin
               refine wpl_append rfl _ _ 36 27 (.agg #[.int .i64 0, .int .i64 0, .int .i64 0, .int .u64 0]) 4 32 Tryd.underlying36 info_inz rfl (by decide) rfl w.heap.size (.slice aoo A capo) A (acc.flatMap inC) ⟨V.heap.size, 0, none⟩ 1 1 [ci op, ci nn, ci t, .int .u64 bv] rfl ?c0 rfl rfl ?c1 ?c2 ?c3 ?c4 ?c5 ?_
               case c0 => exact own_keep (show V.ownsRow _ _ 4 _ A _ from hOVH) (Fr.alloc (fun _ => False) _ _) (fun _ _ f => f)
               case c1 =>
                 intro i u hu
                 rw [Addr.add_lit, Nat.zero_add]
                 refine (cell_of_row _ _ _ _ _ _ (alloc_new V _)).trans ?_
                 rcases i with _ | _ | _ | _ | i
                 · simp at hu; subst hu; rfl
                 · simp at hu; subst hu; rfl
                 · simp at hu; subst hu; rfl
                 · simp at hu; subst hu; rfl
                 · simp at hu
               case c2 => intro u hu; simp at hu; rcases hu with rfl | rfl | rfl | rfl <;> rfl
               case c3 => simp [maxLen]; omega
               case c4 => omega
               case c5 => simp; omega
               intro v2 w2 r2 f2 o2
               have f2' := (Fr.alloc (fun b => (Value.slice aoo A capo).ownBlock = some b) V (.cells #[ci op, ci nn, ci t, .int .u64 bv] 27 (0, 0))).same f2
               have y0 := f2'.cell x0 nbXH
               have y1 := f2'.cell x1 nbXH
               have y2 := f2'.cell x2 nbXH
               have y3 := f2'.cell x3 nbXH
               have a2 : Ap V w2 (.slice aoo A capo) v2 := Ap.after (Fr.alloc _ _ _) (Ap.of f2 o2)
               have a2H : Hidden (Ap V w2 (.slice aoo A capo) v2) := a2
               have r2H : Hidden _ := r2
               clear a2 f2 f2' o2 r2)
            | (go_at_call 10; refine (ks _).mono ?_; rintro e' w3 ⟨rfl, f3⟩))
          all_goals
            go_roundg (gk - z)
            case measure => omega
            case rel =>
              have hrl : (c :: r).length = gk := hrlH
              have hbl : BL w _ cap' (c :: r) := hblH
              refine ⟨(c :: r).drop z, acc ++ [⟨op, nn, t, bv⟩], j - 1, _, _, rfl, by rw [List.length_drop, hrl], ?_, ?_, ?_, ?_, by omega, ?_⟩
              · first
                  | exact hbl.off z (by rw [hrl]; exact hz2)
                  | (have e1 : z = cap' := by omega
                     rw [e1]
                     exact hbl.end')
              · have r3 := own_keep (show w2.ownsRow _ _ 4 _ (A + 1) _ from r2H) f3 (fun _ _ f => f)
                rw [flat_snoc, List.length_append, show acc.length = A from hAH]
                exact r3
              · exact (show Ap w wr _ _ from hapH).trans ((Ap.after (show Fr (fun _ => False) wr V from fVH) a2H).then f3)
              · rw [List.length_append, show acc.length = A from hAH]; simp; omega
              · rw [show R = _ from hst2, if_neg (by rw [show acc.length = A from hAH]; exact hA4)]
      · have hO0 : fstO c r = false := by simpa using hO1
        have e : R = (51, []) := by rw [show R = _ from hstep, if_neg hO1]
        rw [hO0] at kf
        clear hO1 hO0 hstep
        obtain ⟨i, hi⟩ : ∃ i, fstI c r = i := ⟨_, rfl⟩
        rw [hi] at kf
        obtain ⟨op, nn, t, bv⟩ := i
        clear hi
        go_wp2_with fail
        go_at_call 32
        refine kf.mono ?_
        rintro e' w1 ⟨rfl, f1⟩
        go_wp2_with fail
        go_ret2
        refine ⟨_, by rw [e]; rfl, by rw [e]; exact IW.nil _ _ _, ((show Fr _ w wr from fwr).same f1).same (Fr.alloc _ _ _)⟩
end Go.Proofs.YticpiaonkgomfaaDoor.Cd
