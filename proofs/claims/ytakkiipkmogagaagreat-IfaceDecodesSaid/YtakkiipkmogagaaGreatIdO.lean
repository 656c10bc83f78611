/- The document's Decode, of any bytes. -/
import Derived.Test.YtakkiipkmogagaaGreatIdN
namespace Go.Proofs.YtakkiipkmogagaaGreat.Fo.Ic
open Go.RowKit Te
set_option linter.unusedSimpArgs false
set_option linter.unusedVariables false
set_option maxRecDepth 20000

theorem mn_le (m : Nat) (s : Option (List UInt8)) : (mnS m s).1 ≤ m := by
  unfold mnS
  split
  · exact Nat.zero_le _
  · omega
theorem rw_len (m : Nat) (s : Option (List UInt8)) : (rwS m s).1.length ≤ m := by
  have h := mn_le m s
  unfold rwS
  generalize (mnS m s).1 = n at h ⊢
  cases (mnS m s).2 with
  | none => simp [cutS]
  | some t =>
    show (if n ≤ t.length then (t.take n, some (t.drop n)) else ([], none)).1.length ≤ m
    split
    · rw [List.length_take]; omega
    · simp
theorem lp_len : ∀ (n : Nat) (s : Option (List UInt8)), (lpS n s).1.length ≤ n ∧ ∀ x ∈ (lpS n s).1, x < 2147483648
  | 0, s => by simp [lpS]
  | n + 1, none => by simp [lpS]
  | n + 1, some t => by
    obtain ⟨h1, h2⟩ := lp_len n (inS (some t)).2
    refine ⟨by simp only [lpS, List.length_cons]; omega, fun x hx => ?_⟩
    simp only [lpS] at hx
    rcases List.mem_cons.1 hx with rfl | hx
    · exact inS_lt _
    · exact h2 x hx
theorem it_len (s : Option (List UInt8)) : (itS s).1.length ≤ 8 ∧ ∀ x ∈ (itS s).1, x < 2147483648 := by
  have h := mn_le 8 s
  have h1 := lp_len (mnS 8 s).1 (mnS 8 s).2
  unfold itS
  revert h1
  generalize lpS (mnS 8 s).1 (mnS 8 s).2 = z
  intro h1
  obtain ⟨a, o⟩ := z
  cases o with
  | none => simp [keepS]
  | some t => exact ⟨by have := h1.1; simp only [keepS] at *; omega, h1.2⟩
theorem decI_rdd (s : Option (List UInt8)) : Rdd (decI s).1 := by
  refine ⟨⟨_, rfl⟩, rw_len _ _, ⟨_, rfl⟩, ⟨_, Nat.lt_of_lt_of_le (tkS_lt 8 _) (by decide), rfl⟩, ?_, ?_⟩
  · show (List.map _ _).length ≤ 8
    rw [List.length_map]
    exact (it_len _).1
  · intro x hx
    obtain ⟨y, hy, rfl⟩ := List.mem_map.1 hx
    have := (it_len _).2 y hy
    constructor <;> omega
/-- What stands while items are read. -/
def LQ (w W : World) (q g : Nat) (nm : List UInt8) (bo : Option Addr) (bk : Nat) (b : List UInt8) (s : Option (List UInt8)) (lv : Value) (acc : List IV) (wr : World) : Prop :=
  Rr wr q bo bk b s ∧ wr.heap[g]? = some (.cells #[ct nm, lv] 25 (0, 0)) ∧ Fr (fun k => k = q ∨ k = g) W wr ∧ Rw.Row RP 47 5 wr W.heap.size lv acc ∧ (∀ x ∈ acc, PmW wr W.heap.size lv x)
set_option maxHeartbeats 4000000 in
theorem rdecode_any (bo : Option Addr) (bk : Nat) (b : List UInt8) (w : World) (hb : b.length ≤ 140737488351232) (hs : Wi.Sl w (.slice bo b.length bk) (Wi.bc b)) (hk : ∀ k, (Value.slice bo b.length bk).ownBlock = some k → k < w.heap.size) :
    Calls Tryz.prog 5 #[.slice bo b.length bk] w fun e w' => ∃ (fo : Option Addr) (fc : Nat), e = .returned (.tuple #[.agg #[ct (docS b).1.name, .slice fo (docS b).1.items.length fc], ci (docS b).2]) ∧ Ty.ItL w' fo fc (docS b).1.items ∧ Fr FN w w' := by
  obtain ⟨D, hD⟩ : ∃ D, docS b = D := ⟨_, rfl⟩
  rw [hD]
  have hDH : Hidden (docS b = D) := hD
  clear hD
  obtain ⟨V, hV⟩ : ∃ V, V = w.alloc zIf := ⟨_, rfl⟩
  have fwV : Fr FN w V := by rw [hV]; exact Fr.alloc _ _ _
  have hsV : V.heap.size = w.heap.size + 1 := by rw [hV]; simp
  have hVz : V.heap[w.heap.size]? = some zIf := by rw [hV]; exact alloc_new _ _
  have kR := rread_any bo bk b V (hs.keep (to_wi fwV) (fun _ _ f => f)) (fun k h => by have := hk k h; omega)
  have hVH : Hidden (V = w.alloc zIf) := hV
  have hbH : Hidden (b.length ≤ 140737488351232) := hb
  have h0H : Hidden (V.heap[w.heap.size]? = some zIf ∧ Fr FN w V ∧ V.heap.size = w.heap.size + 1 ∧ ∀ k, (Value.slice bo b.length bk).ownBlock = some k → k < w.heap.size) := ⟨hVz, fwV, hsV, hk⟩
  obtain ⟨q, hq⟩ : ∃ q, V.heap.size = q := ⟨_, rfl⟩
  rw [hq] at kR
  have hqH : Hidden (V.heap.size = q) := hq
  clear hV hs hb hk hVz fwV hsV hq
  go_enter Tryz.func5, Tryz.ntmps5
  go_wp2_with fail
  rw [← (show V = _ from hVH)]
  go_at_call 15
  refine Calls.mono kR ?_
  rintro e w1 ⟨rfl, r1, f1⟩
  have kT := rtext_any q bo bk b (some b) hbH w1 r1
  obtain ⟨nm, hnm⟩ : ∃ x, (rwS 32 (some b)).1 = x := ⟨_, rfl⟩
  obtain ⟨S1, hS1⟩ : ∃ x, (rwS 32 (some b)).2 = x := ⟨_, rfl⟩
  rw [hnm, hS1] at kT
  have e1H : Hidden ((rwS 32 (some b)).1 = nm ∧ (rwS 32 (some b)).2 = S1) := ⟨hnm, hS1⟩
  have f1H : Hidden (Fr FN V w1) := f1
  clear kR r1 hnm hS1 f1
  go_wp2_with fail
  go_at_call 16
  refine Calls.mono kT ?_
  rintro e w2 ⟨rfl, r2, f2⟩
  have hk2 : ∀ k, (Value.slice bo b.length bk).ownBlock = some k → k < w2.heap.size := fun k h => by
    have h1 := (show _ ∧ _ ∧ _ ∧ _ from h0H).2.2.2 k h
    have h2 := (show _ ∧ _ ∧ _ ∧ _ from h0H).2.2.1
    have h3 := (show Fr FN V w1 from f1H).size
    have h4 := f2.size
    omega
  have o4 : RQ w2 w2.heap.size q 25 bo bk b S1 #[ct nm, .slice none 0 0] (w2.alloc (.cells #[ct nm, .slice none 0 0] 25)) := ⟨r2.later (Fr.alloc FN _ _), alloc_new _ _, Fr.alloc _ _ _, r2.lt, Nat.le_refl _, hk2⟩
  have o4H : Hidden (RQ w2 w2.heap.size q 25 bo bk b S1 #[ct nm, .slice none 0 0] (w2.alloc (.cells #[ct nm, .slice none 0 0] 25))) := o4
  have f2H : Hidden (Fr (fun k => k = q) w1 w2) := f2
  have kI := rint_any q bo bk b S1 hbH _ o4.1
  obtain ⟨N, hN⟩ : ∃ x, (inS S1).1 = x := ⟨_, rfl⟩
  obtain ⟨S2, hS2⟩ : ∃ x, (inS S1).2 = x := ⟨_, rfl⟩
  have hNl : N < 2147483648 := by rw [← hN]; exact inS_lt S1
  rw [hN, hS2] at kI
  have e2H : Hidden ((inS S1).1 = N ∧ (inS S1).2 = S2) := ⟨hN, hS2⟩
  clear kT r2 o4 hN hS2 hk2 f2
  go_wp2_with fail
  go_at_call 17
  refine Calls.mono kI ?_
  rintro e w3 ⟨rfl, r3, f3⟩
  clear kI
  have h3H : Hidden (RQ w2 w2.heap.size q 25 bo bk b S2 #[ct nm, .slice none 0 0] w3) := (show RQ w2 w2.heap.size q 25 bo bk b S1 _ _ from o4H).next r3 f3
  have hz3 : w3.heap[w.heap.size]? = some zIf := by
    obtain ⟨g1, g2, g3, g4⟩ := (show V.heap[w.heap.size]? = some zIf ∧ Fr FN w V ∧ V.heap.size = w.heap.size + 1 ∧ _ from h0H)
    have hq : V.heap.size = q := hqH
    exact (show RQ w2 w2.heap.size q _ bo bk b S2 _ w3 from h3H).2.2.1.heap ((show Fr (fun k => k = q) w1 w2 from f2H).heap ((show Fr FN V w1 from f1H).heap g1 (fun f => f)) (fun e => by have e : w.heap.size = q := e; omega)) (fun e => by have e : w.heap.size = q := e; omega)
  have fw3 : Fr FN w w3 := by
    obtain ⟨g1, g2, g3, g4⟩ := (show V.heap[w.heap.size]? = some zIf ∧ Fr FN w V ∧ V.heap.size = w.heap.size + 1 ∧ _ from h0H)
    have hq : V.heap.size = q := hqH
    exact ((g2.same (show Fr FN V w1 from f1H)).over (show Fr (fun k => k = q) w1 w2 from f2H) (fun k e => by have e : k = q := e; omega)).over (show RQ w2 w2.heap.size q _ bo bk b S2 _ w3 from h3H).2.2.1 (fun k e => by have e : k = q := e; omega)
  have t3H : Hidden (w3.heap[w.heap.size]? = some zIf ∧ Fr FN w w3) := ⟨hz3, fw3⟩
  have hdn : docN b = N := by unfold docN; rw [(show _ ∧ _ from e1H).2]; exact (show _ ∧ _ from e2H).1
  by_cases hbig : 64 < N
  · have t1 : decide ((64 : Int) < (N : Int)) = true := by simp; omega
    have hd : docS b = (⟨[], []⟩, 50) := by unfold docS; rw [hdn, if_pos hbig]
    have hD : D = (⟨[], []⟩, 50) := (show docS b = D from hDH).symm.trans hd
    subst hD
    have z0 := Ty.frozen_row hz3 0
    have z1 := Ty.frozen_row hz3 1
    obtain ⟨y0, y1⟩ := Ty.box2 hz3
    clear hdn hd hbig r3 f3 hz3 fw3
    go_wp2_with fail
    obtain ⟨hz3, fw3⟩ := (show _ ∧ _ from t3H)
    exact post_cell2 rfl rfl _ _ rfl (run_loadVar_row _ _ _ _ _ _ _ (two_put hz3 _ _) Tryz.underlying25 rfl size_iface) ⟨none, 0, rfl, ⟨by simp, by simp [maxLen], fun _ => rfl, Or.inl rfl⟩, fw3.over (two_at _ _ _ _) (fun k e => by have e : k = w.heap.size := e; omega)⟩
  · have t1 : decide ((64 : Int) < (N : Int)) = false := by simp; omega
    have hlH : Hidden (N ≤ 64) := by show N ≤ 64; omega
    have hn1 : N ≤ 9223372036854775807 := by omega
    have hwq : Hidden (w.heap.size < q ∧ q < w2.heap.size ∧ w2.heap.size < w3.heap.size ∧ ∀ k, (Value.slice bo b.length bk).ownBlock = some k → k < w2.heap.size) := by
      have h1 : V.heap.size = q := hqH
      have h2 := (show _ ∧ _ ∧ _ ∧ _ from h0H).2.2.1
      have h3 := (show RQ w2 w2.heap.size q _ bo bk b S2 _ w3 from h3H)
      exact ⟨by omega, h3.2.2.2.1, lt_of_heap h3.2.1, h3.2.2.2.2.2⟩
    obtain ⟨RES, hRES⟩ : ∃ r, decL N S2 = r := ⟨_, rfl⟩
    have hRH : Hidden (decL N S2 = RES) := hRES
    have hdoc : Hidden (D = if dnS RES.2 = true ∧ Ty.rightF ⟨nm, RES.1⟩ = 0 then (⟨nm, RES.1⟩, 0) else (⟨[], []⟩, 50)) := by
      show D = _
      rw [← (show docS b = D from hDH)]
      have e1 := (show _ ∧ _ from e1H)
      have e2 := (show _ ∧ _ from e2H)
      unfold docS docF
      rw [hdn, if_neg hbig, e1.1, e1.2, e2.1, e2.2, hRES]
    obtain ⟨g, hg⟩ : ∃ g, w2.heap.size = g := ⟨_, rfl⟩
    rw [hg] at h3H hwq
    clear hdn hbig r3 f3 hz3 fw3 hRES
    go_wp2_with fail
    clear hg
    go_loopg [7] N (fun m iv wr => ∃ (j : Nat) (acc : List IV) (s' : Option (List UInt8)) (lv : Value), iv = ci (j : Int) ∧ j ≤ N ∧ m = N - j ∧ acc.length = j ∧ (∀ x ∈ acc, Rdd x.1) ∧ (acc.map (·.1) ++ (decL (N - j) s').1, (decL (N - j) s').2) = RES ∧ LQ w w3 q g nm bo bk b s' lv acc wr)
    case atStart => exact ⟨0, [], S2, .slice none 0 0, rfl, by omega, rfl, rfl, by simp, by rw [Nat.sub_zero, (show decL N S2 = RES from hRH)]; rfl, (show RQ _ g q _ bo bk b S2 _ w3 from h3H).1, (show RQ _ g q _ bo bk b S2 _ w3 from h3H).2.1, Fr.refl _ _, ⟨[], ⟨by simp, Or.inl ⟨rfl, rfl⟩⟩, rfl⟩, by simp⟩
    case round =>
      obtain ⟨j, acc, s', lv, rfl, hj, hgk, hal, hrdd, hres, hlq⟩ := hrel
      obtain ⟨hrr, hbx, hfr, hrow, hpm⟩ := id hlq
      obtain ⟨ao2, cap2, hv, _⟩ := hrow.slice
      subst hv
      have hgkH : Hidden (gk = N - j) := hgk
      have hlqH : Hidden (LQ w w3 q g nm bo bk b s' (.slice ao2 acc.length cap2) acc wr) := hlq
      have hrddH : Hidden (∀ x ∈ acc, Rdd x.1) := hrdd
      have halH : Hidden (acc.length = j) := hal
      clear hgk hrow hpm hfr hal hrdd hlq
      by_cases hjl : j < N
      · have kB := rbyte_any q bo bk b s' hbH wr hrr
        have hswH : Hidden (w3.heap.size ≤ wr.heap.size) := (show LQ w w3 q g nm bo bk b s' _ acc wr from hlqH).2.2.1.size
        have hwB : ∀ k, (Value.slice bo b.length bk).ownBlock = some k → k < wr.heap.size := fun k h => by
          have h1 := (show _ ∧ _ ∧ _ ∧ _ from hwq).2.2.2 k h
          have h2 := (show _ ∧ _ ∧ _ ∧ _ from hwq).2.2.1
          have h3 : w3.heap.size ≤ wr.heap.size := hswH
          omega
        have hwBH : Hidden (∀ k, (Value.slice bo b.length bk).ownBlock = some k → k < wr.heap.size) := hwB
        have hqwr : Hidden (q < wr.heap.size) := hrr.lt
        have hbxH : Hidden (wr.heap[g]? = some (.cells #[ct nm, .slice ao2 acc.length cap2] 25 (0, 0))) := hbx
        have hresH : Hidden ((acc.map (·.1) ++ [(decI s').1] ++ (decL (N - (j + 1)) (decI s').2).1, (decL (N - (j + 1)) (decI s').2).2) = RES) := by
          show _ = _
          obtain ⟨n', hn'⟩ : ∃ n', N - j = n' + 1 := ⟨N - j - 1, by omega⟩
          rw [hn'] at hres
          rw [← hres, show N - (j + 1) = n' by omega]
          show _ = (acc.map (·.1) ++ ((decI s').1 :: (decL n' (decI s').2).1), _)
          rw [List.append_assoc]; rfl
        clear hrr hbx hwB hres
        obtain ⟨zk, hzk⟩ : ∃ x, (byS s').1 = x := ⟨_, rfl⟩
        obtain ⟨s1, hs1⟩ : ∃ x, (byS s').2 = x := ⟨_, rfl⟩
        obtain ⟨n1, hn1'⟩ : ∃ x, (rwS 32 s1).1 = x := ⟨_, rfl⟩
        obtain ⟨s2, hs2⟩ : ∃ x, (rwS 32 s1).2 = x := ⟨_, rfl⟩
        obtain ⟨zt, hzt⟩ : ∃ x, (byS s2).1 = x := ⟨_, rfl⟩
        obtain ⟨s3, hs3⟩ : ∃ x, (byS s2).2 = x := ⟨_, rfl⟩
        obtain ⟨B, hB⟩ : ∃ x, (tkS 8 s3).1 = x := ⟨_, rfl⟩
        obtain ⟨s4, hs4⟩ : ∃ x, (tkS 8 s3).2 = x := ⟨_, rfl⟩
        obtain ⟨ps, hps⟩ : ∃ x, (itS s4).1.map (fun x : Nat => (x : Int)) = x := ⟨_, rfl⟩
        obtain ⟨s5, hs5⟩ : ∃ x, (itS s4).2 = x := ⟨_, rfl⟩
        have hdec : Hidden (decI s' = (⟨(zk.toNat : Int), n1, (zt.toNat : Int), (B : Int), ps⟩, s5)) := by
          show decI s' = _
          unfold decI
          rw [hzk, hs1, hn1', hs2, hzt, hs3, hB, hs4, hps, hs5]
        rw [hzk, hs1] at kB
        have kT := fun u h => rtext_any q bo bk b s1 hbH u h
        have kC := fun u h => rbyte_any q bo bk b s2 hbH u h
        have kL := fun u h => rlong_any q bo bk b s3 hbH u h
        have kP := fun u h => rints_any q bo bk b s4 hbH u h
        rw [hn1', hs2] at kT
        rw [hzt, hs3] at kC
        rw [hB, hs4] at kL
        rw [hps, hs5] at kP
        clear hzk hs1 hn1' hs2 hzt hs3 hB hs4 hps hs5
        have ek := i64_u8 zk
        have et := i64_u8 zt
        go_wp2_with fail
        go_at_call 18
        refine Calls.mono kB ?_
        rintro e w4 ⟨rfl, r4, f4⟩
        have o5 : RQ w4 w4.heap.size q 47 bo bk b s1 #[ci (zk.toNat : Int), .string ⟨#[]⟩, ci 0, .int .u64 0, .slice none 0 0] (w4.alloc (.cells #[ci (zk.toNat : Int), .string ⟨#[]⟩, ci 0, .int .u64 0, .slice none 0 0] 47)) := ⟨r4.later (Fr.alloc FN _ _), alloc_new _ _, Fr.alloc _ _ _, r4.lt, Nat.le_refl _, fun k h => Nat.lt_of_lt_of_le ((show ∀ k, _ → _ from hwBH) k h) f4.size⟩
        have f4H : Hidden (Fr (fun k => k = q) wr w4) := f4
        clear kB f4 r4
        go_wp2_with fail
        go_at_call 16
        refine Calls.mono (kT _ o5.1) ?_
        rintro e w5 ⟨rfl, r5, f5⟩
        have h5 := o5.next r5 f5
        clear kT r5 f5 o5
        have z1 := Ty.frozen_row h5.2.1 1
        obtain ⟨a0, a1, a2, a3, a4⟩ := Ty.box5 h5.2.1
        go_wp2_with fail
        have h5' : RQ w4 w4.heap.size q 47 bo bk b s2 #[ci (zk.toNat : Int), ct n1, ci 0, .int .u64 0, .slice none 0 0] (w5.setCell ⟨w4.heap.size, 1, none⟩ (ct n1)) := h5.put 1 (ct n1)
        go_at_call 18
        refine Calls.mono (kC _ h5'.1) ?_
        rintro e w6 ⟨rfl, r6, f6⟩
        have h6 := h5'.next r6 f6
        clear kC r6 f6 h5 h5' z1 a0 a1 a2 a3 a4
        have z2 := Ty.frozen_row h6.2.1 2
        obtain ⟨a0, a1, a2, a3, a4⟩ := Ty.box5 h6.2.1
        go_wp2_with fail
        have h6' : RQ w4 w4.heap.size q 47 bo bk b s3 #[ci (zk.toNat : Int), ct n1, ci (zt.toNat : Int), .int .u64 0, .slice none 0 0] (w6.setCell ⟨w4.heap.size, 2, none⟩ (ci (zt.toNat : Int))) := h6.put 2 _
        go_at_call 19
        refine Calls.mono (kL _ h6'.1) ?_
        rintro e w7 ⟨rfl, r7, f7⟩
        have h7 := h6'.next r7 f7
        clear kL r7 f7 h6 h6' z2 a0 a1 a2 a3 a4
        have z3 := Ty.frozen_row h7.2.1 3
        obtain ⟨a0, a1, a2, a3, a4⟩ := Ty.box5 h7.2.1
        go_wp2_with fail
        have h7' : RQ w4 w4.heap.size q 47 bo bk b s4 #[ci (zk.toNat : Int), ct n1, ci (zt.toNat : Int), .int .u64 (B : Int), .slice none 0 0] (w7.setCell ⟨w4.heap.size, 3, none⟩ (.int .u64 (B : Int))) := h7.put 3 _
        go_at_call 20
        refine Calls.mono (kP _ h7'.1) ?_
        rintro e w8 ⟨po, pc, rfl, hin8, ho8, r8, f8⟩
        have h8 := h7'.next r8 f8
        have f8lt : Hidden (w4.heap.size < w7.heap.size) := lt_of_heap h7.2.1
        have f8s : Hidden (w4.heap.size ≤ w7.heap.size) := by
          have := lt_of_heap h7.2.1
          show w4.heap.size ≤ w7.heap.size
          omega
        clear kP r8 h7 h7' z3 a0 a1 a2 a3 a4
        have h8' : RQ w4 w4.heap.size q 47 bo bk b s5 #[ci (zk.toNat : Int), ct n1, ci (zt.toNat : Int), .int .u64 (B : Int), .slice po ps.length pc] (w8.setCell ⟨w4.heap.size, 4, none⟩ (.slice po ps.length pc)) := h8.put 4 _
        have z4 := Ty.frozen_row h8.2.1 4
        obtain ⟨a0, a1, a2, a3, a4⟩ := Ty.box5 h8.2.1
        obtain ⟨d0, d1, d2, d3, d4⟩ := Ty.box5 h8'.2.1
        have hgq : g ≠ q ∧ g < w4.heap.size := by
          have h1 := (show _ ∧ _ ∧ _ ∧ _ from hwq)
          have h2 : w3.heap.size ≤ wr.heap.size := hswH
          have h3 := (show Fr (fun k => k = q) wr w4 from f4H).size
          exact ⟨by omega, by omega⟩
        have bg8 : w8.heap[g]? = some (.cells #[ct nm, .slice ao2 acc.length cap2] 25 (0, 0)) := h8.2.2.1.heap ((show Fr (fun k => k = q) wr w4 from f4H).heap hbxH hgq.1) hgq.1
        have bg9 : (w8.setCell ⟨w4.heap.size, 4, none⟩ (.slice po ps.length pc)).heap[g]? = some (.cells #[ct nm, .slice ao2 acc.length cap2] 25 (0, 0)) := h8'.2.2.1.heap ((show Fr (fun k => k = q) wr w4 from f4H).heap hbxH hgq.1) hgq.1
        obtain ⟨k0, k1⟩ := Ty.box2 bg8
        obtain ⟨l0, l1⟩ := Ty.box2 bg9
        obtain ⟨U8, hU8⟩ : ∃ U, U = w8.setCell ⟨w4.heap.size, 4, none⟩ (.slice po ps.length pc) := ⟨_, rfl⟩
        have fU : Fr (fun k => k = q) wr U8 := by rw [hU8]; exact (show Fr (fun k => k = q) wr w4 from f4H).same h8'.2.2.1
        have hUs : U8.heap.size = w8.heap.size := by rw [hU8]; simp
        have rowU : Hidden (Rw.Row RP 47 5 U8 w3.heap.size (.slice ao2 acc.length cap2) acc) := (show LQ w w3 q g nm bo bk b s' _ acc wr from hlqH).2.2.2.1.keep fU (fun k hk e => by
          have h1 := (Rw.Row.low (show LQ w w3 q g nm bo bk b s' _ acc wr from hlqH).2.2.2.1 k hk).1
          have h2 := (show _ ∧ _ ∧ _ ∧ _ from hwq)
          have e : k = q := e
          omega)
        have hUH : Hidden (U8 = w8.setCell ⟨w4.heap.size, 4, none⟩ (.slice po ps.length pc)) := hU8
        clear hU8
        have rowA : Hidden (Rw.Row RP 47 5 (U8.alloc (.cells (encI ((⟨(zk.toNat : Int), n1, (zt.toNat : Int), (B : Int), ps⟩ : Ty.It), po, pc)).toArray 47 (0, 0))) w3.heap.size (.slice ao2 acc.length cap2) acc) := (show Rw.Row RP _ 5 U8 _ _ _ from rowU).keep (Fr.alloc FN _ _) (fun _ _ f => f)
        have bgU : Hidden (U8.heap[g]? = some (.cells #[ct nm, .slice ao2 acc.length cap2] 25 (0, 0))) := by rw [(show U8 = _ from hUH)]; exact bg9
        have hsz : Hidden (w3.heap.size ≤ U8.heap.size ∧ U8.heap.size = w8.heap.size) := ⟨by have h1 : w3.heap.size ≤ wr.heap.size := hswH; have := fU.size; omega, hUs⟩
        have hne1 : ¬ g = w4.heap.size := by have := hgq.2; omega
        have hne2 : ¬ w4.heap.size = g := by have := hgq.2; omega
        have hne3 : (g == w4.heap.size) = false := by simpa using hne1
        have hne4 : (w4.heap.size == g) = false := by simpa using hne2
        clear bg8 bg9 hUs
        go_wp2_with (at_builtin; rw [← (show U8 = _ from hUH)]; have rowA' := rowA; refine wpl_one (R := RP) rfl _ _ 23 47 _ 5 64 Tryz.underlying23 info_it rfl (by decide) rfl w3.heap.size (.slice ao2 acc.length cap2) acc ((⟨(zk.toNat : Int), n1, (zt.toNat : Int), (B : Int), ps⟩ : Ty.It), po, pc) (encI ((⟨(zk.toNat : Int), n1, (zt.toNat : Int), (B : Int), ps⟩ : Ty.It), po, pc)) w8.heap.size 47 rfl rowA' rfl rfl rfl (alloc_at _ _ _ (show _ ∧ _ from hsz).2.symm) (it_one _) ?_ ?_ ?_ ?_; (focus (simp only [maxLen]; have : N ≤ 64 := hlH; have : acc.length = j := halH; omega)); (focus (have : N ≤ 64 := hlH; have : acc.length = j := halH; omega)); (focus (have h1 := (show _ ∧ _ from hsz).1; simp; omega)); intro v9 w9 hr9 f9 ho9; obtain ⟨ao9, cap9, hv9, hc9, hm9, _⟩ := hr9.slice; rw [List.length_append] at hv9; have hv9' : v9 = .slice ao9 (acc.length + 1) cap9 := hv9; clear hv9; subst hv9'; have hr9H : Hidden _ := hr9; have f9H : Hidden _ := f9; have ho9H : Hidden _ := ho9; have bW : w9.heap[g]? = some (.cells #[ct nm, .slice ao2 acc.length cap2] 25 (0, 0)) := f9.heap ((Fr.alloc FN U8 _).heap bgU (fun f => f)) (fun e => by have h1 := (Rw.Row.low (show LQ w w3 q g nm bo bk b s' _ acc wr from hlqH).2.2.2.1 g e).1; have h2 := (show _ ∧ _ ∧ _ ∧ _ from hwq); omega); have zW := Ty.frozen_row bW 1; have bWH : Hidden _ := bW; obtain ⟨m0, m1⟩ := Ty.box2 bW; clear bW hr9 f9 ho9)
        go_roundg (N - (j + 1))
        case measure => have : gk = N - j := hgkH; omega
        case rel =>
          have low := Rw.Row.low (show LQ w w3 q g nm bo bk b s' _ acc wr from hlqH).2.2.2.1
          have low9 := Rw.Row.low (show Rw.Row RP _ 5 w9 w3.heap.size _ _ from hr9H)
          obtain ⟨q1, q2, q3, q4⟩ := (show _ ∧ _ ∧ _ ∧ _ from hwq)
          have hsw : w3.heap.size ≤ wr.heap.size := hswH
          have f4 : Fr (fun k => k = q) wr w4 := f4H
          have h48 : w4.heap.size ≤ w7.heap.size := f8s
          have f9 : Fr (fun k => (Value.slice ao2 acc.length cap2).ownBlock = some k) (U8.alloc _) w9 := f9H
          have fa := Fr.alloc FN U8 (.cells #[ci (zk.toNat : Int), ct n1, ci (zt.toNat : Int), .int .u64 (B : Int), .slice po ps.length pc] 47 (0, 0))
          have fg := Fr.setCell w9 ⟨g, 1, none⟩ (.slice ao9 (acc.length + 1) cap9)
          have hU : U8 = w8.setCell ⟨w4.heap.size, 4, none⟩ (.slice po ps.length pc) := hUH
          have f84 := Fr.setCell w8 ⟨w4.heap.size, 4, none⟩ (.slice po ps.length pc)
          rw [← hU] at f84
          have hd := hdec
          refine ⟨j + 1, acc ++ [((⟨(zk.toNat : Int), n1, (zt.toNat : Int), (B : Int), ps⟩ : Ty.It), po, pc)], s5, _, by go_num, by omega, rfl, by rw [List.length_append, (show acc.length = j from halH)]; rfl, ?_, ?_, ?_, heap_setCell_same w9 g 1 _ _ _ bWH, ?_, ?_, ?_⟩
          · intro y hy
            rcases List.mem_append.1 hy with hy | hy
            · exact (show ∀ x ∈ acc, Rdd x.1 from hrddH) y hy
            · rw [List.mem_singleton.1 hy]
              have := decI_rdd s'
              rw [show decI s' = _ from hd] at this
              exact this
          · have h1 : _ = RES := hresH
            rw [show decI s' = _ from hd] at h1
            rw [← h1]
            simp
          · refine Rr.aside (Rr.aside (Rr.later (w := U8) ?_ fa) f9 (fun e => by have := (low q e).1; omega) (fun k hk e => by have h1 := q4 k hk; have := (low k e).1; omega)) fg (fun e => by have e : q = g := e; omega) (fun k hk e => by have h1 := q4 k hk; have e : k = g := e; omega)
            rw [hU]
            exact h8'.1
          · refine (((((show LQ w w3 q g nm bo bk b s' _ acc wr from hlqH).2.2.1.same (fU.mono fun _ _ e => Or.inl e)).same (fa.mono fun _ _ f => f.elim)).trans f9 (fun k hk e => ?_))).same (fg.mono fun _ _ e => Or.inr e)
            have := (low k e).1
            omega
          · exact (show Rw.Row RP _ 5 w9 w3.heap.size _ _ from hr9H).keep fg (fun k hk e => by have h1 := (low9 k hk).1; have e : k = g := e; omega)
          · intro y hy
            refine PmW.keep ?_ fg (fun k hk _ _ e => by have e : k = g := e; omega)
            refine PmW.grow ?_ f9 ho9H
            rcases List.mem_append.1 hy with hy | hy
            · exact (((show LQ w w3 q g nm bo bk b s' _ acc wr from hlqH).2.2.2.2 y hy).keep fU (fun k hk _ _ e => by have e : k = q := e; omega)).keep fa (fun _ _ _ _ f => f)
            · rw [List.mem_singleton.1 hy]
              refine PmW.keep (w := U8) ?_ fa (fun _ _ _ _ f => f)
              have h47 : w4.heap.size < w7.heap.size := f8lt
              have hin : Ty.InL w8 po pc ps := hin8
              refine ⟨InL_keepS hin f84 (fun k hk e => ?_), Or.inr fun k hk => ⟨?_, ?_, fun e => ?_⟩⟩
              · have h1 := (ho8 k hk).1
                simp only [World.size_setCell] at h1
                have e : k = w4.heap.size := e
                omega
              · have h1 := (ho8 k hk).1
                simp only [World.size_setCell] at h1
                have := f4.size
                omega
              · have h1 := (ho8 k hk).2
                have := f84.size
                omega
              · have h1 := (ho8 k hk).1
                simp only [World.size_setCell] at h1
                have h2 := (low k e).2
                have := f4.size
                omega
      · obtain rfl : j = N := by omega
        have hlq := hlqH
        obtain ⟨hrr0, hbx0, hfr0, hrow0, hpm0⟩ := (show LQ w w3 q g nm bo bk b s' _ acc wr from hlq)
        obtain ⟨q1, q2, q3, q4⟩ := (show _ ∧ _ ∧ _ ∧ _ from hwq)
        have hRESe : RES = (acc.map (·.1), s') := by
          rw [← hres, Nat.sub_self]
          simp [decL]
        have hz : wr.heap[w.heap.size]? = some zIf := hfr0.heap (show _ ∧ _ from t3H).1 (fun e => by rcases e with e | e <;> (have e : w.heap.size = _ := e; omega))
        have fwr : Fr FN w wr := (show _ ∧ _ from t3H).2.over hfr0 (fun k e => by rcases e with e | e <;> (rw [e]; omega))
        have hD2 : D = if dnS s' = true ∧ Ty.rightF ⟨nm, acc.map (·.1)⟩ = 0 then (⟨nm, acc.map (·.1)⟩, 0) else (⟨[], []⟩, 50) := by
          rw [show D = _ from hdoc, hRESe]
        have kD := rdone_any q bo bk b s' hbH wr hrr0
        have hnm32 : nm.length ≤ 32 := by rw [← (show _ ∧ _ from e1H).1]; exact rw_len 32 _
        have hrdd : ∀ i ∈ acc.map (·.1), Ty.OkI i := fun i hi => by
          obtain ⟨x, hx, rfl⟩ := List.mem_map.1 hi
          exact ((show ∀ x ∈ acc, Rdd x.1 from hrddH) x hx).ok
        have hfin : ∀ u, Fr (fun k => k = w.heap.size) wr u → Ty.ItL u ao2 cap2 (acc.map (·.1)) := fun u hu => by
          obtain ⟨ao3, cap3, e3, h3⟩ := row_itw (hrow0.keep hu (fun k hk e => by have := (Rw.Row.low hrow0 k hk).1; have e : k = w.heap.size := e; omega)) (fun x hx => ((hpm0 x hx).keep hu (fun k hk _ _ e => by have e : k = w.heap.size := e; omega)).1)
          simp only [Value.slice.injEq] at e3
          obtain ⟨rfl, _, rfl⟩ := e3
          exact h3
        have kF : ∀ u, Fr FN wr u → Calls Tryz.prog 22 #[.agg #[ct nm, .slice ao2 acc.length cap2]] u fun e w' => e = .returned (ci (Ty.rightF ⟨nm, acc.map (·.1)⟩)) ∧ Fr FN u w' := fun u hu =>
          rrightIface_any ⟨nm, acc.map (·.1)⟩ _ u ⟨ao2, cap2, by rw [List.length_map], hfin u (hu.mono fun _ _ f => f.elim)⟩ (by unfold Ty.OkN; simp only; omega) hrdd
        obtain ⟨r, hr⟩ : ∃ r, Ty.rightF ⟨nm, acc.map (·.1)⟩ = r := ⟨_, rfl⟩
        rw [hr] at kF hD2
        have hfinH : Hidden (∀ u, Fr (fun k => k = w.heap.size) wr u → Ty.ItL u ao2 cap2 (acc.map (·.1))) := hfin
        have hbx0H : Hidden _ := hbx0
        have hzH : Hidden (wr.heap[w.heap.size]? = some zIf) := hz
        have fwrH : Hidden (Fr FN w wr) := fwr
        have hqgH : Hidden (w.heap.size < g) := by show _ < _; omega
        clear hlq hrr0 hbx0 hfr0 hrow0 hpm0 q1 q2 q3 q4 hRESe hz fwr hres hnm32 hrdd hfin hr hjl hlqH hdoc
        cases hdn : dnS s' with
        | false =>
          have hDf : D = (⟨[], []⟩, 50) := by rw [hD2, hdn]; simp
          subst hDf
          clear hD2 kF
          go_wp2_with fail
          go_at_call 21
          refine Calls.mono kD ?_
          rintro e w4 ⟨c, rfl, hc, f4⟩
          have hcb : (c != 0) = true := by rw [hdn] at hc; simpa using hc
          have hz4 := f4.heap (show wr.heap[w.heap.size]? = some zIf from hzH) (fun f => f)
          have z0 := Ty.frozen_row hz4 0
          have z1 := Ty.frozen_row hz4 1
          obtain ⟨y0, y1⟩ := Ty.box2 hz4
          have hz4H : Hidden _ := hz4
          have fw4 : Hidden (Fr FN w w4) := (show Fr FN w wr from fwrH).same f4
          clear kD hc hz4 f4 hdn
          go_wp2_with fail
          exact post_cell2 rfl rfl _ _ rfl (run_loadVar_row _ _ _ _ _ _ _ (two_put (show w4.heap[w.heap.size]? = some zIf from hz4H) _ _) Tryz.underlying25 rfl size_iface) ⟨none, 0, rfl, ⟨by simp, by simp [maxLen], fun _ => rfl, Or.inl rfl⟩, (show Fr FN w w4 from fw4).over (two_at _ _ _ _) (fun k e => by have e : k = w.heap.size := e; omega)⟩
        | true =>
          go_wp2_with fail
          go_at_call 21
          refine Calls.mono kD ?_
          rintro e w4 ⟨c, rfl, hc, f4⟩
          have hcb : (c != 0) = false := by rw [hdn] at hc; simpa using hc
          have b4 := f4.heap hbx0H (fun f => f)
          obtain ⟨d0, d1⟩ := Ty.box2 b4
          have kF4 := kF w4 f4
          have f4H : Hidden (Fr FN wr w4) := f4
          have b4H : Hidden _ := b4
          clear kD hc kF f4 b4
          by_cases hr0 : r = 0
          · subst hr0
            have hDf : D = (⟨nm, acc.map (·.1)⟩, 0) := by rw [hD2, hdn]; simp
            subst hDf
            clear hD2 hdn
            go_wp2_with fail
            go_at_call 22
            refine Calls.mono kF4 ?_
            rintro e w5 ⟨rfl, f5⟩
            have hz5 := ((show Fr FN wr w4 from f4H).same f5).heap (show wr.heap[w.heap.size]? = some zIf from hzH) (fun f => f)
            have z0 := Ty.frozen_row hz5 0
            have z1 := Ty.frozen_row hz5 1
            obtain ⟨y0, y1⟩ := Ty.box2 hz5
            replace d0 := f5.cellN d0
            replace d1 := f5.cellN d1
            have hne : g ≠ w.heap.size := by have h1 : w.heap.size < g := hqgH; omega
            have hz5H : Hidden _ := hz5
            have f5H : Hidden (Fr FN wr w5) := (show Fr FN wr w4 from f4H).same f5
            clear kF4 f5 hz5
            go_wp2_with fail
            exact post_cell2 rfl rfl _ _ rfl (run_loadVar_row _ _ _ _ _ _ _ (two_put (show w5.heap[w.heap.size]? = some zIf from hz5H) _ _) Tryz.underlying25 rfl size_iface) ⟨ao2, cap2, by simp only [List.length_map]; rfl, (show ∀ u, _ → _ from hfinH) _ (((show Fr FN wr w5 from f5H).mono fun _ _ f => f.elim).same (two_at _ _ _ _)), ((show Fr FN w wr from fwrH).same (show Fr FN wr w5 from f5H)).over (two_at _ _ _ _) (fun k e => by have e : k = w.heap.size := e; omega)⟩
          · have hDf : D = (⟨[], []⟩, 50) := by rw [hD2, hdn]; simp [hr0]
            subst hDf
            have hrb : (r != 0) = true := by simpa using hr0
            clear hD2 hdn hr0
            go_wp2_with fail
            go_at_call 22
            refine Calls.mono kF4 ?_
            rintro e w5 ⟨rfl, f5⟩
            have hz5 := ((show Fr FN wr w4 from f4H).same f5).heap (show wr.heap[w.heap.size]? = some zIf from hzH) (fun f => f)
            have z0 := Ty.frozen_row hz5 0
            have z1 := Ty.frozen_row hz5 1
            obtain ⟨y0, y1⟩ := Ty.box2 hz5
            have hz5H : Hidden _ := hz5
            have f5H : Hidden (Fr FN wr w5) := (show Fr FN wr w4 from f4H).same f5
            clear kF4 f5 hz5
            go_wp2_with fail
            exact post_cell2 rfl rfl _ _ rfl (run_loadVar_row _ _ _ _ _ _ _ (two_put (show w5.heap[w.heap.size]? = some zIf from hz5H) _ _) Tryz.underlying25 rfl size_iface) ⟨none, 0, rfl, ⟨by simp, by simp [maxLen], fun _ => rfl, Or.inl rfl⟩, ((show Fr FN w wr from fwrH).same (show Fr FN wr w5 from f5H)).over (two_at _ _ _ _) (fun k e => by have e : k = w.heap.size := e; omega)⟩
end Go.Proofs.YtakkiipkmogagaaGreat.Fo.Ic
