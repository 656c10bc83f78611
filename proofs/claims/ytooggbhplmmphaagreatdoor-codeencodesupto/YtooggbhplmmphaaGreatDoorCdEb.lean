/- Instructions as bytes: the document's. -/
import Derived.Test.YtooggbhplmmphaaGreatDoorCdO
import Derived.Test.YtooggbhplmmphaaGreatDoorCdRr
import Derived.Test.YtooggbhplmmphaaGreatDoorCdMn
namespace Go.Proofs.YtooggbhplmmphaaGreatDoor.Cd
open Go.RowKit Ty
set_option linter.unusedSimpArgs false
set_option linter.unusedVariables false

theorem bw_one {w : World} (B : Nat) (c : UInt8) (z : Int) (hz : (c.toNat : Int) = z) (hB : B ≤ w.heap.size) : Bw (w.alloc (.cells #[.int .u8 z] 5 (0, 0))) B (.slice (some ⟨w.heap.size, 0, none⟩) 1 1) [c] := by
  subst hz
  exact ⟨by simp [byC], Or.inr ⟨w.heap.size, 1, _, rfl, hB, alloc_new _ _, Nat.le_refl _, by decide, by simp, by simp [byC]⟩⟩
theorem own_weak {w : World} {B B' : Nat} {e : TypeId} {size : Nat} {v : Value} {n : Nat} {cells : List Value} (h : w.ownsRow B e size v n cells) (hB : B' ≤ B) : w.ownsRow B' e size v n cells := by
  refine ⟨h.1, ?_⟩
  rcases h.2 with h0 | ⟨g, cap, cur, rfl, hb, rest⟩
  · exact Or.inl h0
  · exact Or.inr ⟨g, cap, cur, rfl, Nat.le_trans hB hb, rest⟩
theorem ap_low {w w' : World} {B : Nat} {v v' : Value} {l : Bs} (h : Bw w B v l) (a : Ap w w' v v') : Fr (fun k => B ≤ k) w w' := a.fr.mono (fun k _ e => (own_block h k e).1)
set_option maxRecDepth 20000 in
set_option maxHeartbeats 2000000 in
theorem rbytes_any (i : In) (hi : rightS i = true) (hb : U64 i.b) (w : World) :
    Calls Tryz.prog 15 #[inV i] w fun e w' => ∃ v, e = .returned v ∧ Bw w' w.heap.size v (encI i) ∧ Fr (fun _ => False) w w' := by
  have hk := (right_parts hi).1
  have hop : 1 ≤ i.op ∧ i.op ≤ 17 := by simpa [known] using hk
  have enc : Hidden (encI i = UInt8.ofNat i.op.toNat :: (if i.op = 1 then UInt8.ofNat i.t.toNat :: be 8 i.b.toNat else be (wd i.op) i.n.toNat)) := rfl
  have ho8 : Hidden (((UInt8.ofNat i.op.toNat).toNat : Int) = i.op) := by show _ = _; rw [u8_of _ (by omega)]; omega
  have hvs : Hidden (i.op = 1 → 0 ≤ i.t ∧ i.t < 256) := fun e => val_small hi e
  have hns : Hidden (i.op ≠ 1 → i.n.toNat < 256 ^ wd i.op ∧ 0 ≤ i.n) := fun e => hi_lt hi e
  generalize encI i = E at enc ⊢
  clear hi hk
  obtain ⟨op, n, t, b⟩ := i
  simp only [] at *
  have hm : op % 256 = op := by omega
  obtain ⟨c, hc⟩ : ∃ c : UInt8, c = UInt8.ofNat op.toNat := ⟨_, rfl⟩
  rw [← hc] at enc ho8
  clear hc
  obtain ⟨V, hV⟩ : ∃ V, V = w.alloc (.cells #[ci op, ci n, ci t, .int .u64 b] 40 (0, 0)) := ⟨_, rfl⟩
  have fV : Fr (fun _ => False) w V := by rw [hV]; exact Fr.alloc _ _ _
  have XV : V.heap[w.heap.size]? = some (.cells #[ci op, ci n, ci t, .int .u64 b] 40 (0, 0)) := by rw [hV]; exact alloc_new _ _
  have hVH : Hidden (V = _) := hV
  obtain ⟨V1, hV1⟩ : ∃ V1, V1 = V.alloc (.cells #[.int .u8 op] 5 (0, 0)) := ⟨_, rfl⟩
  have hb1 : Hidden (Bw V1 V.heap.size (.slice (some ⟨V.heap.size, 0, none⟩) 1 1) [c]) := by rw [hV1]; exact bw_one _ c op ho8 (Nat.le_refl _)
  have hBV : Hidden (V.heap.size ≤ V1.heap.size) := by show _ ≤ _; rw [hV1]; simp
  have fV1 : Hidden (Fr (fun _ => False) w V1) := by show Fr _ _ _; rw [hV1]; exact fV.same (Fr.alloc _ _ _)
  have X1 : V1.heap[w.heap.size]? = some (.cells #[ci op, ci n, ci t, .int .u64 b] 40 (0, 0)) := by rw [hV1]; exact (Fr.alloc (fun _ => False) _ _).heap XV (fun f => f)
  have hV1H : Hidden (V1 = _) := hV1
  have hGV : w.heap.size ≠ V.heap.size := by have := lt_of_heap XV; omega
  have hgvH : Hidden (w.heap.size < V.heap.size) := lt_of_heap XV
  obtain ⟨a0, a1, a2, a3⟩ := box4 XV
  obtain ⟨b0, b1, b2, b3⟩ := box4 X1
  have X1H : Hidden _ := X1
  clear hV hV1 XV fV X1
  go_enter Tryz.func15, Tryz.ntmps15
  go_upto_region 1 with fail
  rw [← (show V = _ from hVH)]
  clear hVH
  go_upto_region 2 with fail
  rw [← (show V1 = _ from hV1H)]
  clear hV1H a0 a1 a2 a3
  generalize hB : V.heap.size = B at hb1 hBV hgvH hGV ⊢
  generalize hG : w.heap.size = G at X1H hgvH hGV b0 b1 b2 b3 ⊢
  have hGH : Hidden (w.heap.size = G) := hG
  have fin : ∀ (v : Value) (l : Bs) (w' : World), Bw w' B v l → Fr (fun k => B ≤ k) V1 w' → Bw w' w.heap.size v l ∧ Fr (fun _ => False) w w' := fun v l w' h f => by
    have h1 : G < B := hgvH
    exact ⟨own_weak h (by omega), (show Fr (fun _ => False) w V1 from fV1).over f (fun k e => by omega)⟩
  have finH : Hidden _ := fin
  clear hB hG fin
  by_cases h1 : op = 1
  · subst h1
    have hv := (show (1 : Int) = 1 → 0 ≤ t ∧ t < 256 from hvs) rfl
    have hm2 : t % 256 = t := by omega
    obtain ⟨ct', hct⟩ : ∃ x : UInt8, x = UInt8.ofNat t.toNat := ⟨_, rfl⟩
    have hctz : Hidden ((ct'.toNat : Int) = t) := by show _ = _; rw [hct, u8_of _ (by omega)]; omega
    obtain ⟨N, hN⟩ : ∃ N : Nat, b = (N : Int) := ⟨b.toNat, by have := hb.1; omega⟩
    have hE : Hidden (E = c :: ct' :: be 8 N) := by
      show _ = _
      rw [show E = _ from enc, if_pos rfl, ← hct, hN, Int.toNat_natCast]
    have hNl : N < 18446744073709551616 := by have := hb.2; omega
    subst hN
    clear hv hct enc hns hvs hb ho8
    go_upto_region 3 with fail
    go_upto_region 4 with (at_builtin
                           refine wpl_byte rfl _ _ rfl B (.slice (some ⟨B, 0, none⟩) 1 1) [c] ct' V1.heap.size t rfl ?k01 rfl ?k02 hctz ?k04 ?k05 ?_
                           case k01 => exact Bw.keepN (show Bw V1 B _ [c] from hb1) (Fr.alloc (fun _ => False) _ _)
                           case k02 => exact cell_of_row _ _ 0 _ _ _ (alloc_new _ _)
                           case k04 => simp
                           case k05 => have h1 : B ≤ V1.heap.size := hBV; simp; omega
                           intro v2 w2 r2 a2
                           have f12 : Hidden (Fr (fun k => B ≤ k) V1 w2) := (Fr.alloc (fun k => B ≤ k) V1 _).same (ap_low (Bw.keepN (show Bw V1 B _ [c] from hb1) (Fr.alloc (fun _ => False) V1 _)) a2)
                           have r2H : Hidden (Bw w2 B v2 ([c] ++ [ct'])) := r2
                           clear r2 a2)
    go_wp2_with fail
    go_loopg [3, 4] 8 (fun k v iv wr => ∃ z : Int, iv = .int .i64 z ∧ z = 8 * (k : Int) - 8 ∧ k ≤ 8 ∧ ∃ pre, Bw wr B v (c :: ct' :: pre) ∧ Fr (fun k => B ≤ k) V1 wr ∧ pre ++ be k N = be 8 N)
    case atStart => exact ⟨_, rfl, by omega, by omega, [], r2H, f12, rfl⟩
    case round =>
      obtain ⟨z, rfl, hz, hk, pre, hto, hf, hpre⟩ := hrel
      have hH : Hidden (Bw wr B u3 (c :: ct' :: pre) ∧ Fr (fun k => B ≤ k) V1 wr ∧ pre ++ be gk N = be 8 N) := ⟨hto, hf, hpre⟩
      cases gk with
      | zero =>
        obtain rfl : z = -8 := by omega
        clear hto hf hpre hz
        go_wp2_with fail
        go_ret
        obtain ⟨hto, hf, hpre⟩ := hH
        simp only [be, List.append_nil] at hpre
        subst hpre
        obtain ⟨q1, q2⟩ := finH _ _ _ hto hf
        exact ⟨_, rfl, by rw [show E = _ from hE]; exact q1, q2⟩
      | succ k =>
        obtain ⟨K, hK⟩ : ∃ K : Nat, z = (K : Int) := ⟨z.toNat, by omega⟩
        subst hK
        have hK8 : K = 8 * k := by omega
        have hK8H : Hidden (K = 8 * k) := hK8
        have hKlt : K < 64 := by omega
        have hpl : pre.length ≤ 8 := by
          have := congrArg List.length hpre
          rw [List.length_append, be_len, be_len] at this
          omega
        have hplH : Hidden (pre.length ≤ 8) := hpl
        have hXw := hf.heap X1H (fun e => by have h1 : G < B := hgvH; omega)
        obtain ⟨y0, y1, y2, y3⟩ := box4 hXw
        have hBw : Hidden (B ≤ wr.heap.size) := Nat.le_trans hBV hf.size
        have hbc : Hidden ((((UInt8.ofNat (N / 256 ^ k % 256)).toNat : Int)) = (N : Int) / 2 ^ K % 256) := by
          show _ = _
          have := be_cell N k
          simp only [Value.int.injEq, true_and] at this
          rw [hK8, this]
        clear hto hf hpre hz hpl hXw hK8
        obtain ⟨cb, hcb⟩ : ∃ cb : UInt8, cb = UInt8.ofNat (N / 256 ^ k % 256) := ⟨_, rfl⟩
        rw [← hcb] at hbc
        have hcbH : Hidden (cb = _) := hcb
        have hBw1 : Hidden (Bw wr B u3 (c :: ct' :: pre)) := hH.1
        clear hcb
        go_wp2_with
          (at_builtin
           refine wpl_byte rfl _ _ rfl B u3 (c :: ct' :: pre) cb wr.heap.size ((N : Int) / 2 ^ K % 256) rfl ?k11 rfl ?k12 hbc ?k14 ?k15 ?_
           case k11 => exact Bw.keepN (show Bw wr B _ (c :: ct' :: pre) from hBw1) (Fr.alloc (fun _ => False) _ _)
           case k12 => exact cell_of_row _ _ 0 _ _ _ (alloc_new _ _)
           case k14 => have h8 : pre.length ≤ 8 := hplH; simp; omega
           case k15 => have h1 : B ≤ wr.heap.size := hBw; simp; omega
           intro v2 w2 r2 a2
           have f12 : Hidden (Fr (fun k => B ≤ k) wr w2) := (Fr.alloc (fun k => B ≤ k) wr _).same (ap_low (Bw.keepN (show Bw wr B _ (c :: ct' :: pre) from hBw1) (Fr.alloc (fun _ => False) wr _)) a2)
           have r2H : Hidden (Bw w2 B v2 ((c :: ct' :: pre) ++ [cb])) := r2
           clear r2 a2)
        go_roundg k
        case measure => omega
        case rel =>
          obtain ⟨_, q2, q3⟩ := hH
          refine ⟨(K : Int) - 8, by go_num, by have h8 : K = 8 * k := hK8H; omega, by omega, pre ++ [cb], ?_, q2.same f12, ?_⟩
          · have h1 : Bw w2 B v2 ((c :: ct' :: pre) ++ [cb]) := r2H
            simpa using h1
          · rw [← q3, be, (show cb = _ from hcbH)]; simp
  · have h1b : (op == 1) = false := by simp [h1]
    have kw := fun W => (rwidth_any op W).mono (fun e w' (h : _ ∧ w' = W) => (⟨h.1, h.2.symm⟩ : _ ∧ W = w'))
    have hn := (show op ≠ 1 → _ from hns) h1
    have hE : Hidden (E = c :: be (wd op) n.toNat) := by
      show _ = _
      rw [show E = _ from enc, if_neg h1]
    obtain ⟨N, hN⟩ : ∃ N : Nat, n = (N : Int) := ⟨n.toNat, by have := hn.2; omega⟩
    subst hN
    rw [Int.toNat_natCast] at hn
    have hNl := hn.1
    have hE2 : Hidden (E = c :: be (wd op) N) := by
      show _ = _
      rw [show E = _ from hE, Int.toNat_natCast]
    have hBw : Hidden (B ≤ V1.heap.size) := hBV
    have hwd : wd op = 0 ∨ wd op = 1 ∨ wd op = 2 := by have := wd_le op; omega
    clear hE enc hns hvs hn h1 ho8
    rcases hwd with hw | hw | hw
    · rw [hw] at kw hE2
      clear hw hNl
      go_wp2_with (first
        | (go_at_call 29; refine (kw _).mono ?_; rintro e w2 ⟨rfl, rfl⟩))
      go_ret
      obtain ⟨q1, q2⟩ := finH _ _ _ hb1 (Fr.refl _ _)
      exact ⟨_, rfl, by rw [show E = _ from hE2]; exact q1, q2⟩
    · rw [hw] at kw hE2 hNl
      have hb0 : Hidden ((((UInt8.ofNat (N / 256 ^ 0 % 256)).toNat : Int)) = (N : Int) % 256) := by show _ = _; rw [u8_of _ (Nat.mod_lt _ (by decide)), Nat.pow_zero, Nat.div_one]; omega
      have hBw1 : Hidden (B ≤ V1.heap.size) := hBV
      have hX1 : Hidden _ := X1H
      clear hw hBw hBV hNl
      go_wp2_with (first
        | (go_at_call 29; refine (kw _).mono ?_; rintro e w9 ⟨rfl, rfl⟩)
        | (at_builtin
           refine wpl_byte rfl _ _ rfl B (.slice (some ⟨B, 0, none⟩) 1 1) [c] (UInt8.ofNat (N / 256 ^ 0 % 256)) V1.heap.size ((N : Int) % 256) rfl ?k21 rfl ?k22 hb0 ?k24 ?k25 ?_
           case k21 => exact Bw.keepN (show Bw V1 B _ [c] from hb1) (Fr.alloc (fun _ => False) _ _)
           case k22 => exact cell_of_row _ _ 0 _ _ _ (alloc_new _ _)
           case k24 => simp
           case k25 => have h1 : B ≤ V1.heap.size := hBw1; simp; omega
           intro v2 w2 r2 a2
           have f2H : Hidden (Fr (fun k => B ≤ k) V1 w2) := (Fr.alloc (fun k => B ≤ k) V1 _).same (ap_low (Bw.keepN (show Bw V1 B _ [c] from hb1) (Fr.alloc (fun _ => False) V1 _)) a2)
           have r2H : Hidden (Bw w2 B v2 ([c] ++ [(UInt8.ofNat (N / 256 ^ 0 % 256))])) := r2
           have hBw2 : Hidden (B ≤ w2.heap.size) := Nat.le_trans hBw1 (show Fr _ V1 w2 from f2H).size
           have hXw := (show Fr _ V1 w2 from f2H).heap hX1 (fun e => by have h1 : G < B := hgvH; omega)
           have hX2 : Hidden _ := hXw
           obtain ⟨y0, y1, y2, y3⟩ := box4 hXw
           clear r2 a2 hXw))
      go_ret
      have h2 : Bw w2 B v2 ([c] ++ [UInt8.ofNat (N / 256 ^ 0 % 256)]) := r2H
      obtain ⟨q1, q2⟩ := finH _ _ _ h2 f2H
      exact ⟨_, rfl, by rw [show E = _ from hE2]; exact q1, q2⟩
    · rw [hw] at kw hE2 hNl
      have hb0 : Hidden ((((UInt8.ofNat (N / 256 ^ 0 % 256)).toNat : Int)) = (N : Int) % 256) := by show _ = _; rw [u8_of _ (Nat.mod_lt _ (by decide)), Nat.pow_zero, Nat.div_one]; omega
      have hb1' : Hidden ((((UInt8.ofNat (N / 256 ^ 1 % 256)).toNat : Int)) = (N : Int) / 256 % 256) := by show _ = _; rw [u8_of _ (Nat.mod_lt _ (by decide)), Nat.pow_one]; omega
      have hBw1 : Hidden (B ≤ V1.heap.size) := hBV
      have hX1 : Hidden _ := X1H
      clear hw hBw hBV hNl
      go_upto_region 11 with (first
        | (go_at_call 29; refine (kw _).mono ?_; rintro e w9 ⟨rfl, rfl⟩)
        | (at_builtin
           refine wpl_byte rfl _ _ rfl B (.slice (some ⟨B, 0, none⟩) 1 1) [c] (UInt8.ofNat (N / 256 ^ 1 % 256)) V1.heap.size ((N : Int) / 256 % 256) rfl ?k31 rfl ?k32 hb1' ?k34 ?k35 ?_
           case k31 => exact Bw.keepN (show Bw V1 B _ [c] from hb1) (Fr.alloc (fun _ => False) _ _)
           case k32 => exact cell_of_row _ _ 0 _ _ _ (alloc_new _ _)
           case k34 => simp
           case k35 => have h1 : B ≤ V1.heap.size := hBw1; simp; omega
           intro v2 w2 r2 a2
           have f2H : Hidden (Fr (fun k => B ≤ k) V1 w2) := (Fr.alloc (fun k => B ≤ k) V1 _).same (ap_low (Bw.keepN (show Bw V1 B _ [c] from hb1) (Fr.alloc (fun _ => False) V1 _)) a2)
           have r2H : Hidden (Bw w2 B v2 ([c] ++ [(UInt8.ofNat (N / 256 ^ 1 % 256))])) := r2
           have hBw2 : Hidden (B ≤ w2.heap.size) := Nat.le_trans hBw1 (show Fr _ V1 w2 from f2H).size
           have hXw := (show Fr _ V1 w2 from f2H).heap hX1 (fun e => by have h1 : G < B := hgvH; omega)
           have hX2 : Hidden _ := hXw
           obtain ⟨y0, y1, y2, y3⟩ := box4 hXw
           clear r2 a2 hXw))
      go_wp2_with (first
        | (go_at_call 29; refine (kw _).mono ?_; rintro e w9 ⟨rfl, rfl⟩)
        | (at_builtin
           refine wpl_byte rfl _ _ rfl B v2 ([c] ++ [UInt8.ofNat (N / 256 ^ 1 % 256)]) (UInt8.ofNat (N / 256 ^ 0 % 256)) w2.heap.size ((N : Int) % 256) rfl ?k41 rfl ?k42 hb0 ?k44 ?k45 ?_
           case k41 => exact Bw.keepN (show Bw w2 B _ ([c] ++ [UInt8.ofNat (N / 256 ^ 1 % 256)]) from r2H) (Fr.alloc (fun _ => False) _ _)
           case k42 => exact cell_of_row _ _ 0 _ _ _ (alloc_new _ _)
           case k44 => simp
           case k45 => have h1 : B ≤ w2.heap.size := hBw2; simp; omega
           intro v3 w3 r3 a3
           have f3H : Hidden (Fr (fun k => B ≤ k) w2 w3) := (Fr.alloc (fun k => B ≤ k) w2 _).same (ap_low (Bw.keepN (show Bw w2 B _ ([c] ++ [UInt8.ofNat (N / 256 ^ 1 % 256)]) from r2H) (Fr.alloc (fun _ => False) w2 _)) a3)
           have r3H : Hidden (Bw w3 B v3 (([c] ++ [UInt8.ofNat (N / 256 ^ 1 % 256)]) ++ [(UInt8.ofNat (N / 256 ^ 0 % 256))])) := r3
           have hBw3 : Hidden (B ≤ w3.heap.size) := Nat.le_trans hBw2 (show Fr _ w2 w3 from f3H).size
           have hXw := (show Fr _ w2 w3 from f3H).heap hX2 (fun e => by have h1 : G < B := hgvH; omega)
           have hX3 : Hidden _ := hXw
           obtain ⟨y0, y1, y2, y3⟩ := box4 hXw
           clear r3 a3 hXw))
      go_ret
      have h2 : Bw w3 B v3 (([c] ++ [UInt8.ofNat (N / 256 ^ 1 % 256)]) ++ [UInt8.ofNat (N / 256 ^ 0 % 256)]) := r3H
      obtain ⟨q1, q2⟩ := finH _ _ _ h2 ((show Fr _ V1 w2 from f2H).same f3H)
      exact ⟨_, rfl, by rw [show E = _ from hE2]; exact q1, q2⟩
end Go.Proofs.YtooggbhplmmphaaGreatDoor.Cd
