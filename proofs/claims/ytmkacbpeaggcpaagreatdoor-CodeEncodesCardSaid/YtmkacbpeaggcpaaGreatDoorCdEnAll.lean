/- Texts of ours, in one. -/
import Derived.Test.YtmkacbpeaggcpaaGreatDoorCdNAll
import Derived.Test.YtmkacbpeaggcpaaGreatDoorCdRr
import Derived.Test.YtmkacbpeaggcpaaGreatDoorCdMn
import Derived.Test.YtmkacbpeaggcpaaGreatDoorCdAq
namespace Go.Proofs.YtmkacbpeaggcpaaGreatDoor.Cd
open Go.RowKit Ty
set_option linter.unusedSimpArgs false
set_option linter.unusedVariables false

theorem bw_one {w : World} (B : Nat) (c : UInt8) (z : Int) (hz : (c.toNat : Int) = z) (hB : B ≤ w.heap.size) : Bw (w.alloc (.cells #[.int .u8 z] 5 (0, 0))) B (.slice (some ⟨w.heap.size, 0, none⟩) 1 1) [c] := by
  subst hz
  exact ⟨by simp [byC], Or.inr ⟨w.heap.size, 1, _, rfl, hB, alloc_new _ _, Nat.le_refl _, by decide, by simp, by simp [byC]⟩⟩
theorem own_weak {w : World} {B B' : Nat} {e : TypeId} {size : Nat} {v : Value} {n : Nat} {cells : List Value} (h : w.ownsRow B e size v n cells) (hB : B' ≤ B) : w.ownsRow B' e size v n cells := by
  refine ⟨h.1, ?_⟩
  rcases h.2 with h0 | ⟨g, cap, cur, rfl, hb, rest⟩
  · exact Or.inl h0
  · exact Or.inr ⟨g, cap, cur, rfl, Nat.le_trans hB hb, rest⟩
theorem ap_low {w w' : World} {B : Nat} {v v' : Value} {l : Bs} (h : Bw w B v l) (a : Ap w w' v v') : Fr (fun k => B ≤ k) w w' := a.fr.mono (fun k _ e => (own_block h k e).1)
set_option maxRecDepth 20000 in
set_option maxHeartbeats 2000000 in
theorem rbytes_any (i : In) (hi : rightS i = true) (hb : U64 i.b) (w : World) :
    Calls Tryz.prog 24 #[inV i] w fun e w' => ∃ v, e = .returned v ∧ Bw w' w.heap.size v (encI i) ∧ Fr (fun _ => False) w w' := by
  have hk := (right_parts hi).1
  have hop : 1 ≤ i.op ∧ i.op ≤ 17 := by simpa [known] using hk
  have enc : Hidden (encI i = UInt8.ofNat i.op.toNat :: (if i.op = 1 then UInt8.ofNat i.t.toNat :: be 8 i.b.toNat else be (wd i.op) i.n.toNat)) := rfl
  have ho8 : Hidden (((UInt8.ofNat i.op.toNat).toNat : Int) = i.op) := by show _ = _; rw [u8_of _ (by omega)]; omega
  have hvs : Hidden (i.op = 1 → 0 ≤ i.t ∧ i.t < 256) := fun e => val_small hi e
  have hns : Hidden (i.op ≠ 1 → i.n.toNat < 256 ^ wd i.op ∧ 0 ≤ i.n) := fun e => hi_lt hi e
  generalize encI i = E at enc ⊢
  clear hi hk
  obtain ⟨op, n, t, b⟩ := i
  simp only [] at *
  have hm : op % 256 = op := by omega
  obtain ⟨c, hc⟩ : ∃ c : UInt8, c = UInt8.ofNat op.toNat := ⟨_, rfl⟩
  rw [← hc] at enc ho8
  clear hc
  obtain ⟨V, hV⟩ : ∃ V, V = w.alloc (.cells #[ci op, ci n, ci t, .int .u64 b] 65 (0, 0)) := ⟨_, rfl⟩
  have fV : Fr (fun _ => False) w V := by rw [hV]; exact Fr.alloc _ _ _
  have XV : V.heap[w.heap.size]? = some (.cells #[ci op, ci n, ci t, .int .u64 b] 65 (0, 0)) := by rw [hV]; exact alloc_new _ _
  have hVH : Hidden (V = _) := hV
  obtain ⟨V1, hV1⟩ : ∃ V1, V1 = V.alloc (.cells #[.int .u8 op] 5 (0, 0)) := ⟨_, rfl⟩
  have hb1 : Hidden (Bw V1 V.heap.size (.slice (some ⟨V.heap.size, 0, none⟩) 1 1) [c]) := by rw [hV1]; exact bw_one _ c op ho8 (Nat.le_refl _)
  have hBV : Hidden (V.heap.size ≤ V1.heap.size) := by show _ ≤ _; rw [hV1]; simp
  have fV1 : Hidden (Fr (fun _ => False) w V1) := by show Fr _ _ _; rw [hV1]; exact fV.same (Fr.alloc _ _ _)
  have X1 : V1.heap[w.heap.size]? = some (.cells #[ci op, ci n, ci t, .int .u64 b] 65 (0, 0)) := by rw [hV1]; exact (Fr.alloc (fun _ => False) _ _).heap XV (fun f => f)
  have hV1H : Hidden (V1 = _) := hV1
  have hGV : w.heap.size ≠ V.heap.size := by have := lt_of_heap XV; omega
  have hgvH : Hidden (w.heap.size < V.heap.size) := lt_of_heap XV
  obtain ⟨a0, a1, a2, a3⟩ := box4 XV
  obtain ⟨b0, b1, b2, b3⟩ := box4 X1
  have X1H : Hidden _ := X1
  clear hV hV1 XV fV X1
  go_enter Tryz.func24, Tryz.ntmps24
  go_upto_region 1 with fail
  rw [← (show V = _ from hVH)]
  clear hVH
  go_upto_region 2 with fail
  rw [← (show V1 = _ from hV1H)]
  clear hV1H a0 a1 a2 a3
  generalize hB : V.heap.size = B at hb1 hBV hgvH hGV ⊢
  generalize hG : w.heap.size = G at X1H hgvH hGV b0 b1 b2 b3 ⊢
  have hGH : Hidden (w.heap.size = G) := hG
  have fin : ∀ (v : Value) (l : Bs) (w' : World), Bw w' B v l → Fr (fun k => B ≤ k) V1 w' → Bw w' w.heap.size v l ∧ Fr (fun _ => False) w w' := fun v l w' h f => by
    have h1 : G < B := hgvH
    exact ⟨own_weak h (by omega), (show Fr (fun _ => False) w V1 from fV1).over f (fun k e => by omega)⟩
  have finH : Hidden _ := fin
  clear hB hG fin
  by_cases h1 : op = 1
  · subst h1
    have hv := (show (1 : Int) = 1 → 0 ≤ t ∧ t < 256 from hvs) rfl
    have hm2 : t % 256 = t := by omega
    obtain ⟨ct', hct⟩ : ∃ x : UInt8, x = UInt8.ofNat t.toNat := ⟨_, rfl⟩
    have hctz : Hidden ((ct'.toNat : Int) = t) := by show _ = _; rw [hct, u8_of _ (by omega)]; omega
    obtain ⟨N, hN⟩ : ∃ N : Nat, b = (N : Int) := ⟨b.toNat, by have := hb.1; omega⟩
    have hE : Hidden (E = c :: ct' :: be 8 N) := by
      show _ = _
      rw [show E = _ from enc, if_pos rfl, ← hct, hN, Int.toNat_natCast]
    have hNl : N < 18446744073709551616 := by have := hb.2; omega
    subst hN
    clear hv hct enc hns hvs hb ho8
    go_upto_region 3 with fail
    go_upto_region 4 with (at_builtin
                           refine wpl_byte rfl _ _ rfl B (.slice (some ⟨B, 0, none⟩) 1 1) [c] ct' V1.heap.size t rfl ?k01 rfl ?k02 hctz ?k04 ?k05 ?_
                           case k01 => exact Bw.keepN (show Bw V1 B _ [c] from hb1) (Fr.alloc (fun _ => False) _ _)
                           case k02 => exact cell_of_row _ _ 0 _ _ _ (alloc_new _ _)
                           case k04 => simp
                           case k05 => have h1 : B ≤ V1.heap.size := hBV; simp; omega
                           intro v2 w2 r2 a2
                           have f12 : Hidden (Fr (fun k => B ≤ k) V1 w2) := (Fr.alloc (fun k => B ≤ k) V1 _).same (ap_low (Bw.keepN (show Bw V1 B _ [c] from hb1) (Fr.alloc (fun _ => False) V1 _)) a2)
                           have r2H : Hidden (Bw w2 B v2 ([c] ++ [ct'])) := r2
                           clear r2 a2)
    go_wp2_with fail
    go_loopg [3, 4] 8 (fun k v iv wr => ∃ z : Int, iv = .int .i64 z ∧ z = 8 * (k : Int) - 8 ∧ k ≤ 8 ∧ ∃ pre, Bw wr B v (c :: ct' :: pre) ∧ Fr (fun k => B ≤ k) V1 wr ∧ pre ++ be k N = be 8 N)
    case atStart => exact ⟨_, rfl, by omega, by omega, [], r2H, f12, rfl⟩
    case round =>
      obtain ⟨z, rfl, hz, hk, pre, hto, hf, hpre⟩ := hrel
      have hH : Hidden (Bw wr B u3 (c :: ct' :: pre) ∧ Fr (fun k => B ≤ k) V1 wr ∧ pre ++ be gk N = be 8 N) := ⟨hto, hf, hpre⟩
      cases gk with
      | zero =>
        obtain rfl : z = -8 := by omega
        clear hto hf hpre hz
        go_wp2_with fail
        go_ret
        obtain ⟨hto, hf, hpre⟩ := hH
        simp only [be, List.append_nil] at hpre
        subst hpre
        obtain ⟨q1, q2⟩ := finH _ _ _ hto hf
        exact ⟨_, rfl, by rw [show E = _ from hE]; exact q1, q2⟩
      | succ k =>
        obtain ⟨K, hK⟩ : ∃ K : Nat, z = (K : Int) := ⟨z.toNat, by omega⟩
        subst hK
        have hK8 : K = 8 * k := by omega
        have hK8H : Hidden (K = 8 * k) := hK8
        have hKlt : K < 64 := by omega
        have hpl : pre.length ≤ 8 := by
          have := congrArg List.length hpre
          rw [List.length_append, be_len, be_len] at this
          omega
        have hplH : Hidden (pre.length ≤ 8) := hpl
        have hXw := hf.heap X1H (fun e => by have h1 : G < B := hgvH; omega)
        obtain ⟨y0, y1, y2, y3⟩ := box4 hXw
        have hBw : Hidden (B ≤ wr.heap.size) := Nat.le_trans hBV hf.size
        have hbc : Hidden ((((UInt8.ofNat (N / 256 ^ k % 256)).toNat : Int)) = (N : Int) / 2 ^ K % 256) := by
          show _ = _
          have := be_cell N k
          simp only [Value.int.injEq, true_and] at this
          rw [hK8, this]
        clear hto hf hpre hz hpl hXw hK8
        obtain ⟨cb, hcb⟩ : ∃ cb : UInt8, cb = UInt8.ofNat (N / 256 ^ k % 256) := ⟨_, rfl⟩
        rw [← hcb] at hbc
        have hcbH : Hidden (cb = _) := hcb
        have hBw1 : Hidden (Bw wr B u3 (c :: ct' :: pre)) := hH.1
        clear hcb
        go_wp2_with
          (at_builtin
           refine wpl_byte rfl _ _ rfl B u3 (c :: ct' :: pre) cb wr.heap.size ((N : Int) / 2 ^ K % 256) rfl ?k11 rfl ?k12 hbc ?k14 ?k15 ?_
           case k11 => exact Bw.keepN (show Bw wr B _ (c :: ct' :: pre) from hBw1) (Fr.alloc (fun _ => False) _ _)
           case k12 => exact cell_of_row _ _ 0 _ _ _ (alloc_new _ _)
           case k14 => have h8 : pre.length ≤ 8 := hplH; simp; omega
           case k15 => have h1 : B ≤ wr.heap.size := hBw; simp; omega
           intro v2 w2 r2 a2
           have f12 : Hidden (Fr (fun k => B ≤ k) wr w2) := (Fr.alloc (fun k => B ≤ k) wr _).same (ap_low (Bw.keepN (show Bw wr B _ (c :: ct' :: pre) from hBw1) (Fr.alloc (fun _ => False) wr _)) a2)
           have r2H : Hidden (Bw w2 B v2 ((c :: ct' :: pre) ++ [cb])) := r2
           clear r2 a2)
        go_roundg k
        case measure => omega
        case rel =>
          obtain ⟨_, q2, q3⟩ := hH
          refine ⟨(K : Int) - 8, by go_num, by have h8 : K = 8 * k := hK8H; omega, by omega, pre ++ [cb], ?_, q2.same f12, ?_⟩
          · have h1 : Bw w2 B v2 ((c :: ct' :: pre) ++ [cb]) := r2H
            simpa using h1
          · rw [← q3, be, (show cb = _ from hcbH)]; simp
  · have h1b : (op == 1) = false := by simp [h1]
    have kw := fun W => (rwidth_any op W).mono (fun e w' (h : _ ∧ w' = W) => (⟨h.1, h.2.symm⟩ : _ ∧ W = w'))
    have hn := (show op ≠ 1 → _ from hns) h1
    have hE : Hidden (E = c :: be (wd op) n.toNat) := by
      show _ = _
      rw [show E = _ from enc, if_neg h1]
    obtain ⟨N, hN⟩ : ∃ N : Nat, n = (N : Int) := ⟨n.toNat, by have := hn.2; omega⟩
    subst hN
    rw [Int.toNat_natCast] at hn
    have hNl := hn.1
    have hE2 : Hidden (E = c :: be (wd op) N) := by
      show _ = _
      rw [show E = _ from hE, Int.toNat_natCast]
    have hBw : Hidden (B ≤ V1.heap.size) := hBV
    have hwd : wd op = 0 ∨ wd op = 1 ∨ wd op = 2 := by have := wd_le op; omega
    clear hE enc hns hvs hn h1 ho8
    rcases hwd with hw | hw | hw
    · rw [hw] at kw hE2
      clear hw hNl
      go_wp2_with (first
        | (go_at_call 41; refine (kw _).mono ?_; rintro e w2 ⟨rfl, rfl⟩))
      go_ret
      obtain ⟨q1, q2⟩ := finH _ _ _ hb1 (Fr.refl _ _)
      exact ⟨_, rfl, by rw [show E = _ from hE2]; exact q1, q2⟩
    · rw [hw] at kw hE2 hNl
      have hb0 : Hidden ((((UInt8.ofNat (N / 256 ^ 0 % 256)).toNat : Int)) = (N : Int) % 256) := by show _ = _; rw [u8_of _ (Nat.mod_lt _ (by decide)), Nat.pow_zero, Nat.div_one]; omega
      have hBw1 : Hidden (B ≤ V1.heap.size) := hBV
      have hX1 : Hidden _ := X1H
      clear hw hBw hBV hNl
      go_wp2_with (first
        | (go_at_call 41; refine (kw _).mono ?_; rintro e w9 ⟨rfl, rfl⟩)
        | (at_builtin
           refine wpl_byte rfl _ _ rfl B (.slice (some ⟨B, 0, none⟩) 1 1) [c] (UInt8.ofNat (N / 256 ^ 0 % 256)) V1.heap.size ((N : Int) % 256) rfl ?k21 rfl ?k22 hb0 ?k24 ?k25 ?_
           case k21 => exact Bw.keepN (show Bw V1 B _ [c] from hb1) (Fr.alloc (fun _ => False) _ _)
           case k22 => exact cell_of_row _ _ 0 _ _ _ (alloc_new _ _)
           case k24 => simp
           case k25 => have h1 : B ≤ V1.heap.size := hBw1; simp; omega
           intro v2 w2 r2 a2
           have f2H : Hidden (Fr (fun k => B ≤ k) V1 w2) := (Fr.alloc (fun k => B ≤ k) V1 _).same (ap_low (Bw.keepN (show Bw V1 B _ [c] from hb1) (Fr.alloc (fun _ => False) V1 _)) a2)
           have r2H : Hidden (Bw w2 B v2 ([c] ++ [(UInt8.ofNat (N / 256 ^ 0 % 256))])) := r2
           have hBw2 : Hidden (B ≤ w2.heap.size) := Nat.le_trans hBw1 (show Fr _ V1 w2 from f2H).size
           have hXw := (show Fr _ V1 w2 from f2H).heap hX1 (fun e => by have h1 : G < B := hgvH; omega)
           have hX2 : Hidden _ := hXw
           obtain ⟨y0, y1, y2, y3⟩ := box4 hXw
           clear r2 a2 hXw))
      go_ret
      have h2 : Bw w2 B v2 ([c] ++ [UInt8.ofNat (N / 256 ^ 0 % 256)]) := r2H
      obtain ⟨q1, q2⟩ := finH _ _ _ h2 f2H
      exact ⟨_, rfl, by rw [show E = _ from hE2]; exact q1, q2⟩
    · rw [hw] at kw hE2 hNl
      have hb0 : Hidden ((((UInt8.ofNat (N / 256 ^ 0 % 256)).toNat : Int)) = (N : Int) % 256) := by show _ = _; rw [u8_of _ (Nat.mod_lt _ (by decide)), Nat.pow_zero, Nat.div_one]; omega
      have hb1' : Hidden ((((UInt8.ofNat (N / 256 ^ 1 % 256)).toNat : Int)) = (N : Int) / 256 % 256) := by show _ = _; rw [u8_of _ (Nat.mod_lt _ (by decide)), Nat.pow_one]; omega
      have hBw1 : Hidden (B ≤ V1.heap.size) := hBV
      have hX1 : Hidden _ := X1H
      clear hw hBw hBV hNl
      go_upto_region 11 with (first
        | (go_at_call 41; refine (kw _).mono ?_; rintro e w9 ⟨rfl, rfl⟩)
        | (at_builtin
           refine wpl_byte rfl _ _ rfl B (.slice (some ⟨B, 0, none⟩) 1 1) [c] (UInt8.ofNat (N / 256 ^ 1 % 256)) V1.heap.size ((N : Int) / 256 % 256) rfl ?k31 rfl ?k32 hb1' ?k34 ?k35 ?_
           case k31 => exact Bw.keepN (show Bw V1 B _ [c] from hb1) (Fr.alloc (fun _ => False) _ _)
           case k32 => exact cell_of_row _ _ 0 _ _ _ (alloc_new _ _)
           case k34 => simp
           case k35 => have h1 : B ≤ V1.heap.size := hBw1; simp; omega
           intro v2 w2 r2 a2
           have f2H : Hidden (Fr (fun k => B ≤ k) V1 w2) := (Fr.alloc (fun k => B ≤ k) V1 _).same (ap_low (Bw.keepN (show Bw V1 B _ [c] from hb1) (Fr.alloc (fun _ => False) V1 _)) a2)
           have r2H : Hidden (Bw w2 B v2 ([c] ++ [(UInt8.ofNat (N / 256 ^ 1 % 256))])) := r2
           have hBw2 : Hidden (B ≤ w2.heap.size) := Nat.le_trans hBw1 (show Fr _ V1 w2 from f2H).size
           have hXw := (show Fr _ V1 w2 from f2H).heap hX1 (fun e => by have h1 : G < B := hgvH; omega)
           have hX2 : Hidden _ := hXw
           obtain ⟨y0, y1, y2, y3⟩ := box4 hXw
           clear r2 a2 hXw))
      go_wp2_with (first
        | (go_at_call 41; refine (kw _).mono ?_; rintro e w9 ⟨rfl, rfl⟩)
        | (at_builtin
           refine wpl_byte rfl _ _ rfl B v2 ([c] ++ [UInt8.ofNat (N / 256 ^ 1 % 256)]) (UInt8.ofNat (N / 256 ^ 0 % 256)) w2.heap.size ((N : Int) % 256) rfl ?k41 rfl ?k42 hb0 ?k44 ?k45 ?_
           case k41 => exact Bw.keepN (show Bw w2 B _ ([c] ++ [UInt8.ofNat (N / 256 ^ 1 % 256)]) from r2H) (Fr.alloc (fun _ => False) _ _)
           case k42 => exact cell_of_row _ _ 0 _ _ _ (alloc_new _ _)
           case k44 => simp
           case k45 => have h1 : B ≤ w2.heap.size := hBw2; simp; omega
           intro v3 w3 r3 a3
           have f3H : Hidden (Fr (fun k => B ≤ k) w2 w3) := (Fr.alloc (fun k => B ≤ k) w2 _).same (ap_low (Bw.keepN (show Bw w2 B _ ([c] ++ [UInt8.ofNat (N / 256 ^ 1 % 256)]) from r2H) (Fr.alloc (fun _ => False) w2 _)) a3)
           have r3H : Hidden (Bw w3 B v3 (([c] ++ [UInt8.ofNat (N / 256 ^ 1 % 256)]) ++ [(UInt8.ofNat (N / 256 ^ 0 % 256))])) := r3
           have hBw3 : Hidden (B ≤ w3.heap.size) := Nat.le_trans hBw2 (show Fr _ w2 w3 from f3H).size
           have hXw := (show Fr _ w2 w3 from f3H).heap hX2 (fun e => by have h1 : G < B := hgvH; omega)
           have hX3 : Hidden _ := hXw
           obtain ⟨y0, y1, y2, y3⟩ := box4 hXw
           clear r3 a3 hXw))
      go_ret
      have h2 : Bw w3 B v3 (([c] ++ [UInt8.ofNat (N / 256 ^ 1 % 256)]) ++ [UInt8.ofNat (N / 256 ^ 0 % 256)]) := r3H
      obtain ⟨q1, q2⟩ := finH _ _ _ h2 ((show Fr _ V1 w2 from f2H).same f3H)
      exact ⟨_, rfl, by rw [show E = _ from hE2]; exact q1, q2⟩
end Go.Proofs.YtmkacbpeaggcpaaGreatDoor.Cd

namespace Go.Proofs.YtmkacbpeaggcpaaGreatDoor.Cd
open Go.RowKit Ty
set_option linter.unusedSimpArgs false
set_option linter.unusedVariables false

set_option maxRecDepth 20000 in
set_option maxHeartbeats 4000000 in
theorem rencode_any (ao : Option Addr) (cap : Nat) (l : List In) (w : World) (h : IL w ao cap l) (hok : ∀ i ∈ l, U64 i.b) :
    Calls Tryz.prog 8 #[.slice ao l.length cap] w fun e w' => ∃ v, e = .returned (.tuple #[v, ci (encA l).1]) ∧ Bw w' w.heap.size v (encA l).2 ∧ Fr (fun _ => False) w w' := by
  obtain ⟨n, hn⟩ : ∃ n, n = l.length := ⟨_, rfl⟩
  obtain ⟨R, hR⟩ : ∃ R, R = encA l := ⟨_, rfl⟩
  rw [← hn, ← hR]
  have hil : Hidden (IL w ao cap l) := h
  have hcap : n ≤ cap := by rw [hn]; exact h.1
  have hcm : cap ≤ 9223372036854775807 := by have := h.2.1; simpa [maxLen] using this
  have hnH : Hidden (n = l.length) := hn
  have hRH : Hidden (R = encA l) := hR
  have hokH : Hidden (∀ i ∈ l, U64 i.b) := hok
  clear hn hR h hok
  by_cases h4 : 4096 < n
  · have h4b : decide (4096 < (n : Int)) = true := by simp; omega
    go_enter Tryz.func8, Tryz.ntmps8
    go_wp2_with fail
    go_ret2
    have e : R = (3, []) := by rw [show R = encA l from hRH]; unfold encA; rw [if_pos (by rw [← (show n = l.length from hnH)]; exact h4)]
    exact ⟨_, (by rw [e]; rfl), by rw [e]; exact Bw.nil _ _, Fr.refl _ _⟩
  · have h4b : decide (4096 < (n : Int)) = false := by simp; omega
    go_enter Tryz.func8, Tryz.ntmps8
    go_wp2_with fail
    go_loopg [4, 5] n (fun k v iv wr => ∃ j : Nat, iv = .int .i64 (j : Int) ∧ j ≤ n ∧ k = n - j ∧ (∀ i ∈ l.take j, rightS i = true) ∧ Bw wr w.heap.size v (encS (l.take j)) ∧ Ap w wr (.slice none 0 0) v)
    case atStart =>
      exact ⟨0, rfl, by omega, by omega, by simp, Bw.nil _ _, Ap.refl _ _⟩
    case round =>
      obtain ⟨j, rfl, hj, hk, hall, hbw, hap⟩ := hrel
      have hH : Hidden ((∀ i ∈ l.take j, rightS i = true) ∧ Bw wr w.heap.size u4 (encS (l.take j)) ∧ Ap w wr (.slice none 0 0) u4) := ⟨hall, hbw, hap⟩
      clear hall hbw hap
      by_cases hjn : j = n
      · subst hjn
        go_wp2_with fail
        go_ret2
        obtain ⟨hall, hbw, hap⟩ := hH
        have hnn : j = l.length := hnH
        have e : R = (0, encS l) := by
          rw [show R = encA l from hRH]
          unfold encA
          rw [if_neg (by omega), if_pos]
          rw [hnn, List.take_length] at hall
          exact List.all_eq_true.2 hall
        rw [hnn, List.take_length] at hbw
        exact ⟨_, (by rw [e]; rfl), by rw [e]; exact hbw, hap.none⟩
      · have hlt : j < n := by omega
        obtain ⟨x, hx⟩ : ∃ x, l[j]? = some x := ⟨_, List.getElem?_eq_getElem (by have : n = l.length := hnH; omega)⟩
        have hxm : x ∈ l := List.mem_of_getElem? hx
        have hxb := (show ∀ i ∈ l, U64 i.b from hokH) x hxm
        have hxH : Hidden (l[j]? = some x) := hx
        obtain ⟨bl, off, hao, hcells⟩ := (show IL w ao cap l from hil).2.2.2.resolve_left (by rintro rfl; simp at hx)
        have fwr : Fr (fun _ => False) w wr := hH.2.2.none
        obtain ⟨c0, c1, c2, c3⟩ := IL.at' (cap := cap) (fun i x hx j u hu => fwr.cellN (hcells i x hx j u hu)) hx
        subst hao
        obtain ⟨L, hL⟩ : ∃ L, L = encS (l.take j) := ⟨_, rfl⟩
        have hLl : L.length ≤ 100000 := by
          have := encS_len (l.take j)
          rw [← hL, List.length_take] at this
          omega
        have kr := fun w => rright_any x hxb w
        have hszr : w.heap.size ≤ wr.heap.size := fwr.size
        clear hx hlt hxm
        by_cases hrx : rightS x = true
        · have hrxH : Hidden (rightS x = true) := hrx
          rw [hrx] at kr
          have hbw : Hidden (Bw wr w.heap.size u4 L) := by rw [hL]; exact hH.2.1
          have hLH : Hidden (L = encS (l.take j)) := hL
          clear hL
          have kaW := fun W => rbytes_any x hrx hxb W
          have hszrH : Hidden (w.heap.size ≤ wr.heap.size) := hszr
          have hLl1 : Hidden (L.length ≤ 100000) := hLl
          have hlow : Hidden (∀ k, u4.ownBlock = some k → w.heap.size ≤ k ∧ k < wr.heap.size) := own_block (show Bw wr _ u4 L from hbw)
          have hbl : bl < w.heap.size := World.block_lt_of_cell? w _ (hcells j x (show l[j]? = _ from hxH) 0 _ rfl)
          have hblH : Hidden (bl < w.heap.size) := hbl
          clear hrx fwr hbl hLl
          obtain ⟨op, nn, t, b⟩ := x
          simp only [] at c0 c1 c2 c3
          go_wp2_with fail
          go_at_call 23
          refine (kr _).mono ?_
          rintro e W1 ⟨rfl, f1⟩
          have d0 := f1.cellN c0
          have d1 := f1.cellN c1
          have d2 := f1.cellN c2
          have d3 := f1.cellN c3
          have f1H : Hidden (Fr (fun _ => False) wr W1) := f1
          clear c0 c1 c2 c3 f1
          go_wp2_with fail
          go_at_call 24
          refine (kaW _).mono ?_
          rintro e W2 ⟨bv, rfl, hb2, f2⟩
          obtain ⟨bo, bc, rfl, hbl2⟩ := hb2.bl
          have hcs := hbl2.cells
          have hcsH : Hidden _ := hcs
          have hrow2 : Hidden (Bw W2 w.heap.size u4 L) := (show Bw wr _ u4 L from hbw).keepN ((show Fr (fun _ => False) wr W1 from f1H).same f2)
          have hsz2 : Hidden (w.heap.size ≤ W2.heap.size) := Nat.le_trans hszrH ((show Fr (fun _ => False) wr W1 from f1H).same f2).size
          have f12H : Hidden (Fr (fun _ => False) wr W2) := (show Fr (fun _ => False) wr W1 from f1H).same f2
          obtain ⟨EI, hEI⟩ : ∃ EI, encI ⟨op, nn, t, b⟩ = EI := ⟨_, rfl⟩
          have hEIH : Hidden (encI ⟨op, nn, t, b⟩ = EI) := hEI
          have hEl : EI.length ≤ 10 := by
            rw [← hEI]
            have := encS_len [(⟨op, nn, t, b⟩ : In)]
            simpa [encS] using this
          have hElH : Hidden (EI.length ≤ 10) := hEl
          rw [hEI] at hcsH ⊢
          clear f2 hb2 hbl2 hcs hEI hEl d0 d1 d2 d3
          go_wp2_with (at_builtin
                       refine wpl_app rfl _ _ 25 5 (.int .u8 0) 1 1 Tryz.underlying25 info_u8 rfl (by decide) rfl w.heap.size u4 L.length (byC L) bo EI.length bc (byC EI) rfl ?c0 rfl ?c1 ?c2 ?c3 ?c4 ?c5 ?c6 ?c7 ?_
                       case c0 => exact hrow2
                       case c1 => rw [byC_len, Nat.mul_one]
                       case c2 => exact hcsH.1
                       case c3 => exact hcsH.2
                       case c4 => exact byC_one EI
                       case c5 => have h1 : L.length ≤ 100000 := hLl1; have h2 : EI.length ≤ 10 := hElH; simp only [maxLen]; omega
                       case c6 => have h1 : L.length ≤ 100000 := hLl1; have h2 : EI.length ≤ 10 := hElH; omega
                       case c7 => exact hsz2
                       intro v3 W3 r3 f3 o3
                       have hr2 : Hidden (Bw W3 w.heap.size v3 (L ++ EI)) := by
                         show W3.ownsRow _ _ 1 v3 (L ++ EI).length (byC (L ++ EI))
                         rw [List.length_append, byC_app]
                         exact r3
                       have a3 : Hidden (Ap wr W3 u4 v3) := Ap.after (show Fr (fun _ => False) wr W2 from f12H) (Ap.of f3 o3)
                       clear r3 f3 o3)
          go_roundg (n - (j + 1))
          case measure => omega
          case rel =>
            obtain ⟨hall, hbw', hap⟩ := hH
            refine ⟨j + 1, by go_num, by omega, rfl, ?_, ?_, hap.trans a3⟩
            · rw [take_snoc (show l[j]? = _ from hxH)]
              intro i hi
              rcases List.mem_append.1 hi with hi | hi
              · exact hall i hi
              · simp at hi; subst hi; exact hrxH
            · rw [take_snoc (show l[j]? = _ from hxH), encS_snoc, ← (show L = _ from hLH), show encI _ = EI from hEIH]
              exact hr2
        · have hrf : rightS x = false := by simpa using hrx
          have hrxH : Hidden (rightS x = false) := hrf
          clear hrf
          rw [show rightS x = false from hrxH] at kr
          clear hrx hL hLl fwr
          obtain ⟨op, nn, t, b⟩ := x
          simp only [] at c0 c1 c2 c3
          go_wp2_with (first
            | (go_at_call 23; refine (kr _).mono ?_; rintro e W1 ⟨rfl, f1⟩))
          go_ret2
          have e : R = (51, []) := by
            rw [show R = encA l from hRH]
            unfold encA
            rw [if_neg (by have : n = l.length := hnH; omega), if_neg]
            intro hall
            have := List.all_eq_true.1 hall _ (List.mem_of_getElem? (show l[j]? = _ from hxH))
            rw [show rightS _ = false from hrxH] at this
            cases this
          exact ⟨_, (by rw [e]; rfl), by rw [e]; exact Bw.nil _ _, hH.2.2.none.same f1⟩
end Go.Proofs.YtmkacbpeaggcpaaGreatDoor.Cd
