/- Texts of ours, in one. -/
import Derived.Test.YtoiglopilpoafaaGreatDoorCdFi
import Derived.Test.YtoiglopilpoafaaGreatDoorPk35
import Derived.Test.YtoiglopilpoafaaGreatDoorPk29
import Derived.Test.YtoiglopilpoafaaGreatDoorPk41
import Derived.Test.YtoiglopilpoafaaGreatDoorPk42
namespace Go.Proofs.YtoiglopilpoafaaGreatDoor.Cd
open Go.RowKit Ty
set_option linter.unusedSimpArgs false
set_option linter.unusedVariables false

theorem fst_facts {c : UInt8} {r : Bs} (h : fstO c r = true) : (fstI c r).op = (c.toNat : Int) ∧ rightS (fstI c r) = true ∧ U64 (fstI c r).b ∧ ∃ z : Nat, (z : Int) = sizeS (c.toNat : Int) ∧ 1 ≤ z ∧ z ≤ (c :: r).length := by
  unfold fstO at h
  rw [Bool.and_eq_true] at h
  have hI : fstI c r = rawI (c :: r) := by unfold fstI; rw [h.1, if_pos rfl]
  have hB := h.1
  unfold fstB at hB
  simp only [Bool.not_eq_true', decide_eq_false_iff_not, not_or] at hB
  have h0 : 0 ≤ sizeS (c.toNat : Int) := by unfold sizeS; repeat' split; all_goals omega
  refine ⟨?_, by rw [hI]; exact h.2, ?_, (sizeS (c.toNat : Int)).toNat, by omega, by omega, by omega⟩
  · rw [hI]
    unfold rawI
    simp only []
    split
    · rename_i h1; rw [h1]; rfl
    · rfl
  · rw [hI]
    unfold rawI
    simp only []
    split
    · have := numGo_lt ((r.drop 1).take 8) 0
      rw [List.length_take] at this
      have h2 : 256 ^ (min 8 (r.drop 1).length) ≤ 256 ^ 8 := Nat.pow_le_pow_right (by decide) (by omega)
      constructor <;> (show _; simp only []; omega)
    · exact ⟨Int.le_refl 0, by show (0 : Int) < 18446744073709551616; decide⟩
theorem BL.off {w : World} {b off cap : Nat} {l : Bs} (k : Nat) (h : BL w (some ⟨b, off, none⟩) cap l) (hk : k ≤ l.length) : BL w (some ⟨b, off + k, none⟩) (cap - k) (l.drop k) := by
  obtain ⟨h1, h2, h3, h4⟩ := h
  refine ⟨by rw [List.length_drop]; omega, by omega, (fun e => by cases e), ?_⟩
  rcases h4 with rfl | ⟨b', off', e, h4⟩
  · left; simp
  · right
    cases e
    refine ⟨b, off + k, rfl, fun i c hc => ?_⟩
    rw [List.getElem?_drop] at hc
    have := h4 _ _ hc
    rw [show off + k + i = off + (k + i) by omega]
    exact this
theorem BL.end' {w : World} {b off cap : Nat} {l : Bs} (h : BL w (some ⟨b, off, none⟩) cap l) : BL w (some ⟨b, off, none⟩) 0 (l.drop cap) := by
  have hl : l.drop cap = [] := List.drop_eq_nil_of_le h.1
  rw [hl]
  exact ⟨Nat.zero_le _, Nat.zero_le _, (fun e => by cases e), Or.inl rfl⟩
theorem info_inz : (Tryz.prog.info? 69).map (fun i => (i.zero, i.size, i.bytes)) = some (some (.agg #[.int .i64 0, .int .i64 0, .int .i64 0, .int .u64 0]), 4, 32) := info_in
theorem decGo_step {j : Nat} {acc : List In} {c : UInt8} {r : Bs} (hj : 0 < j) : decGo j acc (c :: r) = if fstO c r then (if acc.length = 4096 then (3, []) else decGo (j - 1) (acc ++ [fstI c r]) ((c :: r).drop (sizeS (c.toNat : Int)).toNat)) else (51, []) := by
  obtain ⟨j, rfl⟩ : ∃ k, j = k + 1 := ⟨j - 1, by omega⟩
  rw [decGo, firstS_eq]
  by_cases h : fstO c r = true
  · rw [if_pos h, if_pos h]; rfl
  · rw [if_neg h, if_neg h]
set_option maxRecDepth 20000 in
set_option maxHeartbeats 4000000 in
theorem decode_any (ao : Option Addr) (n cap : Nat) (b : Bs) (hn : b.length = n) (w : World) (h : BL w ao cap b) :
    Calls Tryz.prog 64 #[.slice ao n cap] w fun e w' => ∃ v, e = .returned (.tuple #[v, ci (decS b).1]) ∧ IW w' w.heap.size 69 v (decS b).2 ∧ Fr (fun _ => False) w w' := by
  obtain ⟨R, hR⟩ : ∃ R, R = decS b := ⟨_, rfl⟩
  rw [← hR]
  have hRH : Hidden (R = decGo (b.length + 1) [] b) := hR
  have hH : Hidden (BL w ao cap b) := h
  have hnH : Hidden (b.length = n) := hn
  clear hR h hn
  go_enter Tryz.func64, Tryz.ntmps64
  go_wp2_with fail
  go_loopg [0, 4] n (fun k bv lv wr => ∃ (rest : Bs) (acc : List In) (j : Nat) (ao' : Option Addr) (cap' : Nat), bv = .slice ao' k cap' ∧ rest.length = k ∧ BL w ao' cap' rest ∧ wr.ownsRow w.heap.size 69 4 lv acc.length (acc.flatMap inC) ∧ Ap w wr (.slice none 0 0) lv ∧ acc.length ≤ 4096 ∧ k < j ∧ R = decGo j acc rest)
  case atStart => exact ⟨b, [], b.length + 1, ao, cap, rfl, hnH, hH, own_nil _ _ _ _, Ap.refl _ _, by simp, by have : b.length = n := hnH; omega, hRH⟩
  case round =>
    obtain ⟨rest, acc, j, ao', cap', rfl, hrl, hbl, hO, hap, hacc, hj, hRj⟩ := hrel
    have hrlH : Hidden (rest.length = gk) := hrl
    have hblH : Hidden (BL w ao' cap' rest) := hbl
    have hOH : Hidden (wr.ownsRow w.heap.size 69 4 u4 acc.length (acc.flatMap inC)) := hO
    have hapH : Hidden (Ap w wr (.slice none 0 0) u4) := hap
    have hRjH : Hidden (R = decGo j acc rest) := hRj
    have fwr : Hidden (Fr (fun _ => False) w wr) := hap.none
    obtain ⟨aoo, capo, rfl, o1, o2, _⟩ := own_slice hO (by decide)
    have hlow : Hidden (∀ k, (Value.slice aoo acc.length capo).ownBlock = some k → w.heap.size ≤ k ∧ k < wr.heap.size) := own_block hO
    have hszr : Hidden (w.heap.size ≤ wr.heap.size) := hap.none.size
    obtain ⟨A, hA⟩ : ∃ A, acc.length = A := ⟨_, rfl⟩
    have hAH : Hidden (acc.length = A) := hA
    rw [hA] at hOH hapH o1 hacc hlow ⊢
    have o3 : capo ≤ 9223372036854775807 := by simpa [maxLen] using o2
    clear hO hap hRj o2 hA
    cases rest with
    | nil =>
      have hk0 : gk = 0 := by rw [← hrl]; rfl
      subst hk0
      clear hrl hbl
      go_wp2_with fail
      go_ret2
      have e : R = (0, acc) := by
        rw [show R = _ from hRjH]
        obtain ⟨j', rfl⟩ : ∃ k, j = k + 1 := ⟨j - 1, by omega⟩
        rfl
      refine ⟨_, by rw [e]; rfl, ?_, fwr⟩
      rw [e]
      unfold IW
      rw [show acc.length = A from hAH]
      exact hOH
    | cons c r =>
      have hcap' : gk ≤ cap' := by rw [← hrl]; exact hbl.1
      have hcm' : cap' ≤ 9223372036854775807 := by have := hbl.2.1; simpa [maxLen] using this
      obtain ⟨bb, off, rfl, _⟩ := hbl.2.2.2.resolve_left (by simp)
      have hgk : 0 < gk := by rw [← hrl]; simp
      have hgki : (0 : Int) < (gk : Int) := by omega
      have kf := first_any bb off cap' gk c r hrl wr (hbl.keep (show Fr _ w wr from fwr))
      have hstep : Hidden (R = _) := (show R = _ from hRjH).trans (decGo_step (by omega))
      clear hrl hbl
      by_cases hO1 : fstO c r = true
      · obtain ⟨hop, hri, hub, z, hz, hz1, hz2⟩ := fst_facts hO1
        rw [show (c :: r).length = gk from hrlH] at hz2
        have hst2 : Hidden (R = if acc.length = 4096 then (3, []) else decGo (j - 1) (acc ++ [fstI c r]) ((c :: r).drop z)) := by
          show _ = _
          rw [show R = _ from hstep, if_pos hO1, ← hz]
          rfl
        rw [hO1] at kf
        obtain ⟨i, hi⟩ : ∃ i, fstI c r = i := ⟨_, rfl⟩
        rw [hi] at kf hop hub hst2
        have ks := fun W => size_any i W
        rw [hop, ← hz] at ks
        clear hO1 hi hri hop hz hstep hRjH
        obtain ⟨op, nn, t, bv⟩ := i
        simp only [] at hub
        by_cases hA4 : A = 4096
        · subst hA4
          have e : R = (3, []) := by rw [show R = _ from hst2, if_pos (show acc.length = 4096 from hAH)]
          go_wp2_with fail
          go_at_call 82
          refine kf.mono ?_
          rintro e' w1 ⟨rfl, f1⟩
          go_wp2_with fail
          go_ret2
          refine ⟨_, by rw [e]; rfl, by rw [e]; exact IW.nil _ _ _, ((show Fr _ w wr from fwr).same f1).same (Fr.alloc _ _ _)⟩
        · have hA4b : ((A : Int) == 4096) = false := by simp; omega
          have hA5 : A < 4096 := by omega
          go_wp2_with fail
          go_at_call 82
          refine kf.mono ?_
          rintro e' w1 ⟨rfl, f1⟩
          obtain ⟨V, hV⟩ : ∃ V, V = w1.alloc (.cells #[ci op, ci nn, ci t, .int .u64 bv] 69 (0, 0)) := ⟨_, rfl⟩
          have fV : Fr (fun _ => False) wr V := by rw [hV]; exact f1.same (Fr.alloc _ _ _)
          have XV : V.heap[w1.heap.size]? = some (.cells #[ci op, ci nn, ci t, .int .u64 bv] 69 (0, 0)) := by rw [hV]; exact alloc_new _ _
          have hOV : V.ownsRow w.heap.size 69 4 (.slice aoo A capo) A (acc.flatMap inC) := own_keep (show wr.ownsRow _ _ 4 _ A _ from hOH) fV (fun _ _ f => f)
          obtain ⟨x0, x1, x2, x3⟩ := box4 XV
          have hszV : w.heap.size ≤ V.heap.size := Nat.le_trans hszr fV.size
          have nbX : ¬ (Value.slice aoo A capo).ownBlock = some w1.heap.size := fun e => by
            have h1 := ((show ∀ k, _ → w.heap.size ≤ k ∧ k < wr.heap.size from hlow) _ e).2
            have h2 := f1.size
            omega
          have fVH : Hidden (Fr (fun _ => False) wr V) := fV
          have hOVH : Hidden (V.ownsRow w.heap.size 69 4 (.slice aoo A capo) A (acc.flatMap inC)) := hOV
          have nbXH : Hidden (¬ (Value.slice aoo A capo).ownBlock = some w1.heap.size) := nbX
          have hVH : Hidden (V = _) := hV
          clear fV XV hOV nbX hV f1 kf
          go_upto_region 8 with fail
          rw [← (show V = _ from hVH)]
          clear hVH
          generalize w1.heap.size = G at x0 x1 x2 x3 nbXH ⊢
          go_wp2_with (first
            | (at_builtin
               refine wpl_append rfl _ _ 44 69 (.agg #[.int .i64 0, .int .i64 0, .int .i64 0, .int .u64 0]) 4 32 Tryz.underlying44 info_inz rfl (by decide) rfl w.heap.size (.slice aoo A capo) A (acc.flatMap inC) ⟨V.heap.size, 0, none⟩ 1 1 [ci op, ci nn, ci t, .int .u64 bv] rfl ?c0 rfl rfl ?c1 ?c2 ?c3 ?c4 ?c5 ?_
               case c0 => exact own_keep (show V.ownsRow _ _ 4 _ A _ from hOVH) (Fr.alloc (fun _ => False) _ _) (fun _ _ f => f)
               case c1 =>
                 intro i u hu
                 rw [Addr.add_lit, Nat.zero_add]
                 refine (cell_of_row _ _ _ _ _ _ (alloc_new V _)).trans ?_
                 rcases i with _ | _ | _ | _ | i
                 · simp at hu; subst hu; rfl
                 · simp at hu; subst hu; rfl
                 · simp at hu; subst hu; rfl
                 · simp at hu; subst hu; rfl
                 · simp at hu
               case c2 => intro u hu; simp at hu; rcases hu with rfl | rfl | rfl | rfl <;> rfl
               case c3 => simp [maxLen]; omega
               case c4 => omega
               case c5 => simp; omega
               intro v2 w2 r2 f2 o2
               have f2' := (Fr.alloc (fun b => (Value.slice aoo A capo).ownBlock = some b) V (.cells #[ci op, ci nn, ci t, .int .u64 bv] 69 (0, 0))).same f2
               have y0 := f2'.cell x0 nbXH
               have y1 := f2'.cell x1 nbXH
               have y2 := f2'.cell x2 nbXH
               have y3 := f2'.cell x3 nbXH
               have a2 : Ap V w2 (.slice aoo A capo) v2 := Ap.after (Fr.alloc _ _ _) (Ap.of f2 o2)
               have a2H : Hidden (Ap V w2 (.slice aoo A capo) v2) := a2
               have r2H : Hidden _ := r2
               clear a2 f2 f2' o2 r2)
            | (go_at_call 83; refine (ks _).mono ?_; rintro e' w3 ⟨rfl, f3⟩))
          all_goals
            go_roundg (gk - z)
            case measure => omega
            case rel =>
              have hrl : (c :: r).length = gk := hrlH
              have hbl : BL w _ cap' (c :: r) := hblH
              refine ⟨(c :: r).drop z, acc ++ [⟨op, nn, t, bv⟩], j - 1, _, _, rfl, by rw [List.length_drop, hrl], ?_, ?_, ?_, ?_, by omega, ?_⟩
              · first
                  | exact hbl.off z (by rw [hrl]; exact hz2)
                  | (have e1 : z = cap' := by omega
                     rw [e1]
                     exact hbl.end')
              · have r3 := own_keep (show w2.ownsRow _ _ 4 _ (A + 1) _ from r2H) f3 (fun _ _ f => f)
                rw [flat_snoc, List.length_append, show acc.length = A from hAH]
                exact r3
              · exact (show Ap w wr _ _ from hapH).trans ((Ap.after (show Fr (fun _ => False) wr V from fVH) a2H).then f3)
              · rw [List.length_append, show acc.length = A from hAH]; simp; omega
              · rw [show R = _ from hst2, if_neg (by rw [show acc.length = A from hAH]; exact hA4)]
      · have hO0 : fstO c r = false := by simpa using hO1
        have e : R = (51, []) := by rw [show R = _ from hstep, if_neg hO1]
        rw [hO0] at kf
        clear hO1 hO0 hstep
        obtain ⟨i, hi⟩ : ∃ i, fstI c r = i := ⟨_, rfl⟩
        rw [hi] at kf
        obtain ⟨op, nn, t, bv⟩ := i
        clear hi
        go_wp2_with fail
        go_at_call 82
        refine kf.mono ?_
        rintro e' w1 ⟨rfl, f1⟩
        go_wp2_with fail
        go_ret2
        refine ⟨_, by rw [e]; rfl, by rw [e]; exact IW.nil _ _ _, ((show Fr _ w wr from fwr).same f1).same (Fr.alloc _ _ _)⟩
end Go.Proofs.YtoiglopilpoafaaGreatDoor.Cd

namespace Go.Proofs.YtoiglopilpoafaaGreatDoor.Im
open Go.RowKit Ty Cd
set_option linter.unusedSimpArgs false
set_option linter.unusedVariables false

/-- Where takeFn stands: its boxes, the function that it fills, the reader. -/
structure Fs (w X : World) (q G : Nat) (s : Lf) (cs : Array Value) : Prop where
  hG : w.heap.size = G
  hq : q < G
  xb : X.heap[G]? = some (.cells #[Wi.rp q] 98 (0, 0))
  xr : X.heap[G + 1]? = some (.cells #[.slice none 0 0, .int .i64 0, .slice none 0 0, .slice none 0 0] 46 (0, 0))
  xf : X.heap[G + 1 + 1]? = some (.cells cs 46 (0, 0))
  fr : Fr (fun k => k = q) w X
  rs : Rs X q s
theorem Fs.step {w X X1 : World} {q G : Nat} {s s' : Lf} {cs : Array Value} (h : Fs w X q G s cs) (hf : Fr (fun k => k = q) X X1) (hr : Rs X1 q s') (i : Nat) (v : Value) : Fs w (X1.setCell ⟨G + 1 + 1, i, none⟩ v) q G s' (cs.setIfInBounds i v) := by
  have hq := h.hq
  have f2 : Fr (fun k => k = G + 1 + 1) X1 (X1.setCell ⟨G + 1 + 1, i, none⟩ v) := Fr.setCell _ ⟨G + 1 + 1, i, none⟩ _
  refine ⟨h.hG, hq, ?_, ?_, ?_, ?_, ?_⟩
  · exact f2.heap (hf.heap h.xb (fun e => by have e : G = q := e; omega)) (fun e => by have e : G = G + 1 + 1 := e; omega)
  · exact f2.heap (hf.heap h.xr (fun e => by have e : G + 1 = q := e; omega)) (fun e => by have e : G + 1 = G + 1 + 1 := e; omega)
  · exact heap_setCell_same X1 _ i _ _ _ (hf.heap h.xf (fun e => by have e : G + 1 + 1 = q := e; omega))
  · exact (h.fr.same hf).trans f2 (fun k hk e => by have e : k = G + 1 + 1 := e; have := h.hG; omega)
  · exact hr.aside f2 (fun k e => by have e : k = G + 1 + 1 := e; omega)
theorem Fs.cell {w X : World} {q G : Nat} {s : Lf} {cs : Array Value} (h : Fs w X q G s cs) : X.cell? ⟨G, 0, none⟩ = some (Wi.rp q) := by rw [cell_of_row _ _ _ _ _ _ h.xb]; rfl
theorem Fs.fz {w X X1 : World} {q G : Nat} {s : Lf} {cs : Array Value} (h : Fs w X q G s cs) (hf : Fr (fun k => k = q) X X1) (i : Nat) : X1.frozen? ⟨G + 1 + 1, i, none⟩ = false := fz_row (hf.heap h.xf (fun e => by have := h.hq; have e : G + 1 + 1 = q := e; omega)) i
theorem Fs.at {w X X1 : World} {q G : Nat} {s : Lf} {x0 x1 x2 x3 : Value} (h : Fs w X q G s #[x0, x1, x2, x3]) (hf : Fr (fun k => k = q) X X1) :
    X1.cell? ⟨G + 1 + 1, 0, none⟩ = some x0 ∧ X1.cell? ⟨G + 1 + 1, 1, none⟩ = some x1 ∧ X1.cell? ⟨G + 1 + 1, 2, none⟩ = some x2 ∧ X1.cell? ⟨G + 1 + 1, 3, none⟩ = some x3 :=
  Cd.box4 (hf.heap h.xf (fun e => by have := h.hq; have e : G + 1 + 1 = q := e; omega))
theorem Fs.low {w X : World} {q G : Nat} {s : Lf} {cs : Array Value} (h : Fs w X q G s cs) : G + 1 + 1 + 1 ≤ X.heap.size := by have := Wi.lt_of_heap h.xf; omega
theorem Fs.old {w X X1 : World} {q G : Nat} {s : Lf} {cs : Array Value} (h : Fs w X q G s cs) {e : TypeId} {size : Nat} {v : Value} {n : Nat} {cells : List Value} (ho : X.ownsRow (G + 1 + 1 + 1) e size v n cells) (hf : Fr (fun k => k = q) X X1) (i : Nat) (u : Value) : (X1.setCell ⟨G + 1 + 1, i, none⟩ u).ownsRow (G + 1 + 1 + 1) e size v n cells := by
  have hq := h.hq
  refine own_keep (own_keep ho hf (fun k hk e => ?_)) (Fr.setCell _ ⟨G + 1 + 1, i, none⟩ _) (fun k hk e => ?_)
  · have := (own_block ho k hk).1
    have e : k = q := e
    omega
  · have := (own_block ho k hk).1
    have e : k = G + 1 + 1 := e
    omega
theorem own_put {X : World} {G : Nat} {e : TypeId} {size : Nat} {v : Value} {n : Nat} {cells : List Value} (ho : X.ownsRow (G + 1 + 1 + 1) e size v n cells) (i : Nat) (u : Value) : (X.setCell ⟨G + 1 + 1, i, none⟩ u).ownsRow (G + 1 + 1 + 1) e size v n cells := by
  refine own_keep ho (Fr.setCell _ ⟨G + 1 + 1, i, none⟩ _) (fun k hk e => ?_)
  have := (own_block ho k hk).1
  have e : k = G + 1 + 1 := e
  omega
set_option maxRecDepth 20000 in
set_option maxHeartbeats 4000000 in
theorem fn_rs (q : Nat) (s : Lf) (w : World) (h : Rs w q s) (hs : szL s ≤ 65537) :
    Calls Tryz.prog 41 #[.agg #[Wi.rp q]] w fun e w' => ∃ b0 b2 b3 d0 d2 d3, e = .returned (.agg #[.slice b0 (rdF s).1.sg.ps.length d0, ci (rdF s).1.sg.res, .slice b2 (rdF s).1.loc.length d2, .slice b3 (rdF s).1.cd.length d3]) ∧
      OwI w' w.heap.size (.slice b0 (rdF s).1.sg.ps.length d0) (rdF s).1.sg.ps ∧ OwI w' w.heap.size (.slice b2 (rdF s).1.loc.length d2) (rdF s).1.loc ∧ IW w' w.heap.size 69 (.slice b3 (rdF s).1.cd.length d3) (rdF s).1.cd ∧ Rs w' q (rdF s).2 ∧ Fr (fun k => k = q) w w' := by
  obtain ⟨V, hV⟩ : ∃ V, V = ((w.alloc (.cells #[Wi.rp q] 98 (0, 0))).alloc (.cells #[.slice none 0 0, .int .i64 0, .slice none 0 0, .slice none 0 0] 46 (0, 0))).alloc (.cells #[.slice none 0 0, .int .i64 0, .slice none 0 0, .slice none 0 0] 46 (0, 0)) := ⟨_, rfl⟩
  have fV : Fr (fun _ => False) w V := by rw [hV]; exact ((Fr.alloc _ _ _).same (Fr.alloc _ _ _)).same (Fr.alloc _ _ _)
  have h0 : Fs w V q w.heap.size s #[.slice none 0 0, .int .i64 0, .slice none 0 0, .slice none 0 0] := by
    refine ⟨rfl, h.lt, ?_, ?_, ?_, fq_no fV, h.later fV⟩
    · rw [hV]; exact (Fr.alloc (fun _ => False) _ _).heap (heap_alloc2_old _ _ _) (fun f => f)
    · rw [hV]; exact (Fr.alloc (fun _ => False) _ _).heap (heap_alloc2_new _ _ _) (fun f => f)
    · rw [hV]
      have := alloc_new ((w.alloc (.cells #[Wi.rp q] 98 (0, 0))).alloc (.cells #[.slice none 0 0, .int .i64 0, .slice none 0 0, .slice none 0 0] 46 (0, 0))) (.cells #[.slice none 0 0, .int .i64 0, .slice none 0 0, .slice none 0 0] 46 (0, 0))
      simpa using this
  have k1 := fun W (hW : Rs W q s) => types_rs q s W hW hs
  have l1 : szL (rdT s).2 ≤ 65537 := Nat.le_trans (rdT_le s) hs
  have k2 := fun W (hW : Rs W q (rdT s).2) => type_rs q (rdT s).2 W hW
  have l2 : szL (rdY (rdT s).2).2 ≤ 65537 := Nat.le_trans (rdY_le _) l1
  have k3 := fun W (hW : Rs W q (rdY (rdT s).2).2) => types_rs q _ W hW l2
  have k4 := fun W (hW : Rs W q (rdT (rdY (rdT s).2).2).2) => raw_rs q _ W hW
  unfold rdF
  simp only []
  generalize hp1 : rdT s = p1 at *
  generalize hp2 : rdY p1.2 = p2 at *
  generalize hp3 : rdT p2.2 = p3 at *
  generalize hp4 : rdR 65536 p3.2 = p4 at *
  obtain ⟨ps, s1⟩ := p1
  obtain ⟨res, s2⟩ := p2
  obtain ⟨loc, s3⟩ := p3
  obtain ⟨raw, s4⟩ := p4
  simp only [] at *
  have k5 := fun (ao : Option Addr) (cap : Nat) W (hW : BL W ao cap raw) => decode_any ao raw.length cap raw rfl W hW
  generalize decS raw = D at *
  obtain ⟨de, cd⟩ := D
  simp only [] at k5 ⊢
  have hVH : Hidden (V = _) := hV
  have h0H : Hidden (Fs w V q w.heap.size s #[.slice none 0 0, .int .i64 0, .slice none 0 0, .slice none 0 0]) := h0
  clear hV fV h hs l1 l2 hp1 hp2 hp3 hp4
  have c0 := h0.cell
  clear h0
  go_enter Tryz.func41, Tryz.ntmps41
  go_upto_region 2 with fail
  rw [← (show V = _ from hVH)]
  clear hVH
  generalize hG : w.heap.size = G at *
  have hGH : Hidden (w.heap.size = G) := hG
  clear hG
  go_upto_region 3 with (first
    | (go_at_call 63
       refine (k1 _ (show Fs w V q G s _ from h0H).rs).mono ?_
       rintro e w1 ⟨b0, d0, rfl, i1, r1, f1⟩
       have z1 := (show Fs w V q G s _ from h0H).fz f1 0
       have cc := (show Fs w V q G s #[.slice none 0 0, .int .i64 0, .slice none 0 0, .slice none 0 0] from h0H).at f1
       obtain ⟨g0, g1, g2, g3⟩ := cc
       have e1 := (show Fs w V q G s _ from h0H).step f1 r1 0 (.slice b0 ps.length d0)
       have o1 := own_put ((Row.owi (i1.lower (show Fs w V q G s _ from h0H).low))) 0 (.slice b0 ps.length d0)
       have c1 := e1.cell
       have e1H : Hidden (Fs w (w1.setCell ⟨G + 1 + 1, 0, none⟩ (.slice b0 ps.length d0)) q G s1 _) := e1
       have o1H : Hidden _ := o1
       clear i1 r1 f1 e1 o1 k1))
  clear g0 g1 g2 g3 z1
  generalize hX1 : w1.setCell ⟨G + 1 + 1, 0, none⟩ (.slice b0 ps.length d0) = X1 at *
  clear hX1
  go_upto_region 4 with (first
    | (go_at_call 61
       refine (k2 _ (show Fs w X1 q G s1 _ from e1H).rs).mono ?_
       rintro e w2 ⟨rfl, r2, f2⟩
       have z2 := (show Fs w X1 q G s1 _ from e1H).fz f2 1
       have cc := (show Fs w X1 q G s1 #[.slice b0 ps.length d0, .int .i64 0, .slice none 0 0, .slice none 0 0] from e1H).at f2
       obtain ⟨g0, g1, g2, g3⟩ := cc
       have e2 := (show Fs w X1 q G s1 _ from e1H).step f2 r2 1 (ci res)
       have o1' := (show Fs w X1 q G s1 _ from e1H).old o1H f2 1 (ci res)
       have c2 := e2.cell
       have e2H : Hidden (Fs w (w2.setCell ⟨G + 1 + 1, 1, none⟩ (ci res)) q G s2 _) := e2
       have o1H2 : Hidden _ := o1'
       clear r2 f2 e2 o1' o1H e1H c1 k2))
  clear g0 g1 g2 g3 z2
  generalize hX2 : w2.setCell ⟨G + 1 + 1, 1, none⟩ (ci res) = X2 at *
  clear hX2
  go_upto_region 5 with (first
    | (go_at_call 63
       refine (k3 _ (show Fs w X2 q G s2 _ from e2H).rs).mono ?_
       rintro e w3 ⟨b2, d2, rfl, i3, r3, f3⟩
       have z3 := (show Fs w X2 q G s2 _ from e2H).fz f3 2
       have cc := (show Fs w X2 q G s2 #[.slice b0 ps.length d0, ci res, .slice none 0 0, .slice none 0 0] from e2H).at f3
       obtain ⟨g0, g1, g2, g3⟩ := cc
       have e3 := (show Fs w X2 q G s2 _ from e2H).step f3 r3 2 (.slice b2 loc.length d2)
       have o1' := (show Fs w X2 q G s2 _ from e2H).old o1H2 f3 2 (.slice b2 loc.length d2)
       have o2 := own_put ((Row.owi (i3.lower (show Fs w X2 q G s2 _ from e2H).low))) 2 (.slice b2 loc.length d2)
       have c3 := e3.cell
       have e3H : Hidden (Fs w (w3.setCell ⟨G + 1 + 1, 2, none⟩ (.slice b2 loc.length d2)) q G s3 _) := e3
       have o1H3 : Hidden _ := o1'
       have o2H3 : Hidden _ := o2
       clear i3 r3 f3 e3 o1' o1H2 e2H c2 k3 o2))
  clear g0 g1 g2 g3 z3
  generalize hX3 : w3.setCell ⟨G + 1 + 1, 2, none⟩ (.slice b2 loc.length d2) = X3 at *
  clear hX3
  go_upto_region 6 with (first
    | (go_at_call 65
       refine (k4 _ (show Fs w X3 q G s3 _ from e3H).rs).mono ?_
       rintro e w4 ⟨ar, cr, rfl, br, r4, f4⟩)
    | (go_at_call 64
       refine (k5 _ _ _ br).mono ?_
       rintro e w5 ⟨v, rfl, i5, f5⟩
       obtain ⟨b3, d3, rfl, _⟩ := i5.il
       have f45 := f4.same (fq_no f5)
       have r5 := r4.later f5
       have z4 := (show Fs w X3 q G s3 _ from e3H).fz f45 3
       have cc := (show Fs w X3 q G s3 #[.slice b0 ps.length d0, ci res, .slice b2 loc.length d2, .slice none 0 0] from e3H).at f45
       obtain ⟨g0, g1, g2, g3⟩ := cc
       have e4 := (show Fs w X3 q G s3 _ from e3H).step f45 r5 3 (.slice b3 cd.length d3)
       have o1' := (show Fs w X3 q G s3 _ from e3H).old o1H3 f45 3 (.slice b3 cd.length d3)
       have o2' := (show Fs w X3 q G s3 _ from e3H).old o2H3 f45 3 (.slice b3 cd.length d3)
       have o3 := own_put (own_lower i5 (Nat.le_trans (show Fs w X3 q G s3 _ from e3H).low f4.size)) 3 (.slice b3 cd.length d3)
       have e4H : Hidden (Fs w (w5.setCell ⟨G + 1 + 1, 3, none⟩ (.slice b3 cd.length d3)) q G s4 _) := e4
       have o1H4 : Hidden _ := o1'
       have o2H4 : Hidden _ := o2'
       have o3H4 : Hidden _ := o3
       clear r4 f4 br r5 f5 f45 i5 e4 o1' o2' o3 o1H3 o2H3 e3H c3 k4 k5))
  clear g0 g1 g2 g3 z4
  generalize hX4 : w5.setCell ⟨G + 1 + 1, 3, none⟩ (.slice b3 cd.length d3) = X4 at *
  clear hX4
  obtain ⟨t0, t1, t2, t3⟩ := Cd.box4 (show X4.heap[G + 1 + 1]? = some (.cells #[.slice b0 ps.length d0, ci res, .slice b2 loc.length d2, .slice b3 cd.length d3] 46 (0, 0)) from (show Fs w X4 q G s4 _ from e4H).xf)
  obtain ⟨t4, t5, t6, t7⟩ := Cd.box4 (show Fs w X4 q G s4 _ from e4H).xr
  have y0 := fz_row (show Fs w X4 q G s4 _ from e4H).xr 0
  have y1 := fz_row (show Fs w X4 q G s4 _ from e4H).xr 1
  have y2 := fz_row (show Fs w X4 q G s4 _ from e4H).xr 2
  have y3 := fz_row (show Fs w X4 q G s4 _ from e4H).xr 3
  go_wp2_with fail
  have f4 := four_fr X4 (G + 1) (.slice b0 ps.length d0) (ci res) (.slice b2 loc.length d2) (.slice b3 cd.length d3)
  have hq := (show Fs w X4 q G s4 _ from e4H).hq
  have hw : w.heap.size = G := hGH
  have kp : ∀ {e : TypeId} {size : Nat} {v : Value} {n : Nat} {cells : List Value}, X4.ownsRow (G + 1 + 1 + 1) e size v n cells → ((((X4.setCell ⟨G + 1, 0, none⟩ (.slice b0 ps.length d0)).setCell ⟨G + 1, 1, none⟩ (ci res)).setCell ⟨G + 1, 2, none⟩ (.slice b2 loc.length d2)).setCell ⟨G + 1, 3, none⟩ (.slice b3 cd.length d3)).ownsRow G e size v n cells := by
    intro e size v n cells h
    exact own_lower (own_keep h f4 (fun k e2 e3 => by have := (own_block h k e2).1; have e3 : k = G + 1 := e3; omega)) (by omega)
  refine post_one rfl rfl _ #[.slice b0 ps.length d0, ci res, .slice b2 loc.length d2, .slice b3 cd.length d3] 46 _ rfl (four_put (show Fs w X4 q G s4 _ from e4H).xr _ _ _ _) Tryz.underlying46 rfl (by kernel_rfl) ⟨b0, b2, b3, d0, d2, d3, rfl, (by rw [hw]; exact kp o1H4), (by rw [hw]; exact kp o2H4), (by rw [hw]; exact kp o3H4), (show Fs w X4 q G s4 _ from e4H).rs.aside f4 (fun k e => by have e : k = G + 1 := e; omega), (show Fs w X4 q G s4 _ from e4H).fr.trans f4 (fun k hk e => by have e : k = G + 1 := e; omega)⟩
end Go.Proofs.YtoiglopilpoafaaGreatDoor.Im
