/- ImageTurned. -/
import Derived.Test.YtoiglopilpoafaaGreatDoorPk46
import Derived.Test.YtoiglopilpoafaaGreatDoorPk36
import Derived.Test.YtoiglopilpoafaaGreatDoorPk26
namespace Go.Proofs.YtoiglopilpoafaaGreatDoor.Im
open Go.RowKit Ty Cd
set_option linter.unusedSimpArgs false
set_option linter.unusedVariables false
set_option maxRecDepth 20000

theorem own_at {w : World} {B : Nat} {e : TypeId} {size : Nat} {v : Value} {n : Nat} {cells : List Value} (h : w.ownsRow B e size v n cells) (j : Nat) (hj : j < cells.length) :
    ∃ g cap cur, v = .slice (some ⟨g, 0, none⟩) n cap ∧ B ≤ g ∧ n ≤ cap ∧ cap ≤ maxLen ∧ w.heap[g]? = some (.cells cur e (0, 0)) ∧ (∀ (i : Nat) (u : Value), cells[i]? = some u → w.cell? ⟨g, i, none⟩ = some u) ∧
      (∀ i, w.frozen? ⟨g, i, none⟩ = false) ∧ ∀ u, (w.setCell ⟨g, j, none⟩ u).ownsRow B e size v n (cells.set j u) := by
  obtain ⟨hl, hh⟩ := h
  rcases hh with ⟨rfl, rfl⟩ | ⟨g, cap, cur, rfl, hb, hg, hnc, hcm, hcs, ht⟩
  · rw [Nat.zero_mul] at hl; omega
  · refine ⟨g, cap, cur, rfl, hb, hnc, hcm, hg, fun i u hu => ?_, fun i => frozen_of_row hg i, fun u => ⟨by rw [List.length_set]; exact hl, Or.inr ⟨g, cap, cur.setIfInBounds j u, rfl, hb, heap_setCell_same w g j cur e u hg, hnc, hcm, by simpa using hcs, ?_⟩⟩⟩
    · rw [cell_of_row w g _ cur e (0, 0) hg]
      rw [← ht, List.getElem?_take] at hu
      split at hu
      · simpa using hu
      · cases hu
    · rw [← ht]
      simp [List.take_set]
/-- append([]byte{}, b...). -/
theorem wpl_copy {w : World} {ops : Array Oper} {rest : List Oper} {o : Oper} {a : Act} {Q : Exit → Act → World → Prop} (hgd : o.guard = none) (s x : Operand)
    (ho : o.op = .call { callee := .builtin .append, args := #[s, x], argTypes := #[30, 30] }) (B g : Nat) (bo : Option Addr) (n cap : Nat) (b : Bs)
    (hs : a.eval s = .slice (some ⟨g, 0, none⟩) 0 0) (hx : a.eval x = .slice bo n cap) (hg : w.heap[g]? = some (.cells #[] 5 (0, 0))) (hB : B ≤ g) (hn : b.length = n) (hbl : BL w bo cap b) (hb : n ≤ 140737488351232)
    (h : ∀ v' w', Bw w' B v' b → Fr (fun k => k = g) w w' → wpList Tryz.prog ops Q rest (a.put o.dst v') w') : wpList Tryz.prog ops Q (o :: rest) a w := by
  have hcb := hbl.cells
  rw [hn] at hcb
  refine wpl_app hgd s x 30 5 (.int .u8 0) 1 1 Tryz.underlying30 info_u8 rfl (by decide) ho B (.slice (some ⟨g, 0, none⟩) 0 0) 0 [] bo n cap (byC b) hs (own_new 1 hB hg) hx (by rw [byC_len, hn, Nat.mul_one]) hcb.1 hcb.2 (byC_one b) (by simp [maxLen]; omega) (by omega) (Nat.le_trans hB (Nat.le_of_lt (lt_of_heap hg))) ?_
  intro v' w' r f _
  refine h v' w' (by unfold Bw; rw [hn]; simpa using r) (f.mono fun k _ e => by
    have : g = k := by simpa [Value.ownBlock] using e
    exact this.symm)
theorem xor_u8 (x t : UInt8) : bits .xor .u8 (x.toNat : Int) (t.toNat : Int) = ((x ^^^ t).toNat : Int) := by
  have hx := x.toNat_lt
  have ht := t.toNat_lt
  have h := Nat.xor_lt_two_pow (n := 8) (show x.toNat < 2 ^ 8 from hx) (show t.toNat < 2 ^ 8 from ht)
  simp only [bits]
  have e : (BitVec.ofInt IntKind.u8.bits (x.toNat : Int) ^^^ BitVec.ofInt IntKind.u8.bits (t.toNat : Int)).toNat = x.toNat ^^^ t.toNat := by
    show (BitVec.ofInt 8 (x.toNat : Int) ^^^ BitVec.ofInt 8 (t.toNat : Int)).toNat = _
    rw [BitVec.toNat_xor, BitVec.toNat_ofInt, BitVec.toNat_ofInt]
    congr 1 <;> omega
  rw [e, IntKind.wrap_u8, UInt8.toNat_xor]
  omega
theorem xor_ne (x t : UInt8) (h : t ≠ 0) : x ≠ x ^^^ t := by
  intro e
  apply h
  have h2 : x.toNat = x.toNat ^^^ t.toNat := by
    have := congrArg UInt8.toNat e
    rwa [UInt8.toNat_xor] at this
  have h3 : x.toNat ^^^ x.toNat = x.toNat ^^^ (x.toNat ^^^ t.toNat) := by rw [← h2]
  rw [Nat.xor_self, ← Nat.xor_assoc, Nat.xor_self, Nat.zero_xor] at h3
  exact UInt8.toNat_inj.1 (by rw [← h3]; rfl)
theorem byC_set (l : Bs) (k : Nat) (c : UInt8) : (byC l).set k (.int .u8 (c.toNat : Int)) = byC (l.set k c) := by
  unfold byC
  rw [List.map_set]
theorem unE_53 {l : Bs} (h : ¬ IsI l) (hl : l.length ≤ 65536) : unE l = 53 := by
  have h0 : unE l ≠ 0 := fun e => h ((unE_ok l).1 e)
  unfold unE at h0 ⊢
  rw [if_neg (by omega)] at h0 ⊢
  split at h0
  · rename_i q; rw [if_pos q]
  · rename_i q
    split at h0
    · rename_i q2; rw [if_neg q, if_pos q2]
    · exact absurd rfl h0
theorem byte_of {t : Int} (h : (Lit.int .u8 t).wf = true) : ∃ c : UInt8, t = (c.toNat : Int) := by
  have h2 : 0 ≤ t ∧ t < 256 := by
    have h3 : IntKind.u8.min ≤ t ∧ t ≤ IntKind.u8.max := by simpa [Lit.wf] using h
    have e1 : IntKind.u8.min = 0 := by decide
    have e2 : IntKind.u8.max = 255 := by decide
    omega
  exact ⟨UInt8.ofNat t.toNat, by rw [UInt8.toNat_ofNat']; omega⟩
set_option maxHeartbeats 8000000 in
theorem turned_walk (bo : Option Addr) (n cap : Nat) (b : Bs) (a : Int) (t m : UInt8) (W : World) (hn : b.length = n) (hbl : BL W bo cap b) (hn2 : n ≤ 140737488351232) (ha : (Lit.int .i64 a).wf = true) (ht : F.Tab W) :
    Calls Tryz.prog 4 #[.slice bo n cap, .int .i64 a, .int .u8 (t.toNat : Int), .int .u8 (m.toNat : Int)] W fun e w' => e = .returned (.bool true) ∧ Fr (fun _ => False) W w' := by
  have ku := unpack_any bo n cap b hn W hbl ht
  have ka := fun X (hX : Fr (fun _ => False) W X) => alive_any X (tab_fr ht hX)
  by_cases h0 : unE b = 0
  case neg =>
    have b0 : (unE b != 0) = true := by simpa using h0
    unfold UnR at ku
    generalize unE b = U at *
    generalize (unG b).vars.length = l1 at *
    generalize (unG b).fns.length = l2 at *
    generalize (unG b).mn = mn at *
    clear h0 hn hbl hn2 ha ht
    go_enter Tryz.func4, Tryz.ntmps4
    go_wp2_with (first
      | (go_at_call 9; refine ku.mono ?_; rintro e w1 ⟨va, fa, vc, fc, rfl, _, f1⟩
         have f1H : Hidden (Fr (fun _ => False) W w1) := f1
         clear f1 ku)
      | (go_at_call 8; refine (ka _ ((show Fr (fun _ => False) W w1 from f1H).same (Fr.alloc _ _ _))).mono ?_; rintro e w2 ⟨rfl, f2⟩
         have f2H : Hidden (Fr (fun _ => False) W w2) := ((show Fr (fun _ => False) W w1 from f1H).same (Fr.alloc _ _ _)).same f2
         clear f2 ka))
    go_ret
    exact ⟨rfl, f2H⟩
  have hI : IsI b := (unE_ok b).1 h0
  have hlen : n ≤ 65536 := by obtain ⟨_, _, _, h⟩ := hI; omega
  have hmore : unE (b ++ [m]) ≠ 0 := fun e => isI_more hI [m] (by simp) ((unE_ok _).1 e)
  have ku2 := fun X (hX : Fr (fun _ => False) W X) ao c (hb : BL X ao c (b ++ [m])) => unpack_any ao (n + 1) c (b ++ [m]) (by rw [List.length_append, hn]; rfl) X hb (tab_fr ht hX)
  have ku3 := fun k X (hk : k ≤ n) (hX : Fr (fun _ => False) W X) => unpack_any bo k cap (b.take k) (by rw [List.length_take]; omega) X ((bl_front hbl k).keep hX) (tab_fr ht hX)
  have ku4 := fun (k : Nat) (x : UInt8) X (hX : Fr (fun _ => False) W X) ao c (hb : BL X ao c (b.set k x)) => unpack_any ao n c (b.set k x) (by rw [List.length_set, hn]) X hb (tab_fr ht hX)
  have hc3 : Hidden (∀ k, k < n → unE (b.take k) = 53) := fun k hk => unE_53 (isI_cut hI (by omega)) (by rw [List.length_take]; omega)
  have hc4 : Hidden (∀ (k : Nat) (x y : UInt8), b[k]? = some x → x ≠ y → unE (b.set k y) = 53) := fun k x y hk hxy => unE_53 (isI_turn hI hk hxy) (by rw [List.length_set]; omega)
  unfold UnR at ku ku2 ku3 ku4
  rw [h0] at ku
  have hm1 : (unE (b ++ [m]) != 0) = true := by simpa using hmore
  have hm2 : (unE (b ++ [m]) == 0) = false := by simpa using hmore
  have hblH : Hidden (BL W bo cap b) := hbl
  have hnH : Hidden (b.length = n) := hn
  have hlenH : Hidden (n ≤ 65536) := hlen
  generalize unE (b ++ [m]) = U2 at *
  generalize (unG (b ++ [m])).vars.length = l1 at *
  generalize (unG (b ++ [m])).fns.length = l2 at *
  generalize (unG (b ++ [m])).mn = mn2 at *
  generalize (unG b).vars.length = l3 at *
  generalize (unG b).fns.length = l4 at *
  generalize (unG b).mn = mn1 at *
  clear h0 hn hbl hn2 ht hI hlen hmore
  go_enter Tryz.func4, Tryz.ntmps4
  go_upto_region 4 with (first
    | (go_at_call 9; refine ku.mono ?_; rintro e w1 ⟨va, fa, vc, fc, rfl, _, f1⟩
       have f1H : Hidden (Fr (fun _ => False) W w1) := f1
       clear f1 ku)
    | (go_at_call 8; refine (ka _ ((show Fr (fun _ => False) W w1 from f1H).same (Fr.alloc _ _ _))).mono ?_; rintro e w2 ⟨rfl, f2⟩
       have f2H : Hidden (Fr (fun _ => False) W w2) := ((show Fr (fun _ => False) W w1 from f1H).same (Fr.alloc _ _ _)).same f2
       clear f2 ka))
  go_upto_region 5 with (first
    | (at_builtin
       have tk := r3H
       refine wpl_bytes rfl _ _ rfl W.heap.size (.slice a3 n c3) b [m] ⟨w3.heap.size, 0, none⟩ 1 1 rfl (Bw.keepN r3H (Fr.alloc _ _ _)) rfl rfl ?c1 ?c2 ?c3 ?_
       case c1 =>
         intro j u hu
         rw [Addr.add_lit, Nat.zero_add]
         refine (cell_of_row _ _ _ _ _ _ (alloc_new w3 _)).trans ?_
         rcases j with _ | j
         · simpa [byC] using hu
         · simp [byC] at hu
       case c2 => have h1 : b.length = n := hnH; have h2 : n ≤ 65536 := hlenH; omega
       case c3 => exact ((show Fr (fun _ => False) W w3 from f3H).same (Fr.alloc (fun _ => False) w3 _)).size
       intro v4 w4 r4 f4
       obtain ⟨a4, c4, hv4, hb4⟩ := r4.bl
       rw [show (b ++ [m]).length = n + 1 by rw [List.length_append, show b.length = n from hnH]; rfl] at hv4
       subst hv4
       have f4w : Fr (fun _ => False) W w4 := ((show Fr (fun _ => False) W w3 from f3H).same (Fr.alloc (fun _ => False) w3 _)).over f4 (fun k e => (own_block (show Bw w3 W.heap.size (.slice a3 n c3) b from r3H) k e).1)
       have ku2a := ku2 w4 f4w a4 c4 hb4
       have f4H : Hidden (Fr (fun _ => False) W w4) := f4w
       clear r4 f4 hb4 f4w ku2)
    | (at_builtin
       refine wpl_copy rfl _ _ rfl W.heap.size w2.heap.size bo n cap b rfl rfl (alloc_new w2 _) ?d1 hnH ?d2 ?d3 ?_
       case d1 => exact (show Fr (fun _ => False) W w2 from f2H).size
       case d2 => exact (show BL W bo cap b from hblH).keep ((show Fr (fun _ => False) W w2 from f2H).same (Fr.alloc _ _ _))
       case d3 => have h2 : n ≤ 65536 := hlenH; omega
       intro v3 w3 r3 f3
       obtain ⟨a3, c3, hv3, _⟩ := r3.bl
       rw [show b.length = n from hnH] at hv3
       subst hv3
       have r3H : Hidden (Bw w3 W.heap.size (.slice a3 n c3) b) := r3
       have f3H : Hidden (Fr (fun _ => False) W w3) := ((show Fr (fun _ => False) W w2 from f2H).same (Fr.alloc (fun _ => False) w2 _)).over f3 (fun k e => by
         have := (show Fr (fun _ => False) W w2 from f2H).size
         omega)
       clear r3 f3)
    | (go_at_call 9; refine ku2a.mono ?_; rintro e w5 ⟨va5, fa5, vc5, fc5, rfl, _, f5⟩
       have f5H : Hidden (Fr (fun _ => False) W w5) := (show Fr (fun _ => False) W w4 from f4H).same f5
       clear f5 ku2a))
  obtain ⟨Z, hZ⟩ : ∃ Z, Z = w5.alloc (.cells #[.slice va5 l1 vc5, .slice fa5 l2 fc5, .int .i64 mn2] 28 (0, 0)) := ⟨_, rfl⟩
  have fWZ : Hidden (Fr (fun _ => False) W Z) := by
    show Fr (fun _ => False) W Z
    rw [hZ]
    exact (show Fr (fun _ => False) W w5 from f5H).same (Fr.alloc _ _ _)
  rw [← hZ]
  generalize w5.heap.size = E5 at *
  generalize w3.heap.size = E3 at *
  generalize w2.heap.size = E2 at *
  generalize w1.heap.size = E1 at *
  clear hZ f5H f4H f3H r3H f2H f1H
  by_cases ha1 : a < 0
  · have c1 : decide (a < 0) = true := by simpa using ha1
    clear ku3 ku4 hc3 hc4 ha1
    go_wp2_with fail
    go_ret
    exact ⟨rfl, fWZ⟩
  have c1 : decide (a < 0) = false := by simpa using ha1
  by_cases ha2 : (n : Int) ≤ a
  · have c2 : decide ((n : Int) ≤ a) = true := by simpa using ha2
    clear ku3 ku4 hc3 hc4 ha1 ha2
    go_wp2_with fail
    go_ret
    exact ⟨rfl, fWZ⟩
  obtain ⟨k, rfl⟩ : ∃ k : Nat, a = (k : Int) := ⟨a.toNat, by omega⟩
  have hk : k < n := by omega
  have c2 : decide ((n : Int) ≤ (k : Int)) = false := by simp; omega
  have c2' : decide (n ≤ k) = false := by simp; omega
  obtain ⟨x, hx⟩ : ∃ x, b[k]? = some x := ⟨_, List.getElem?_eq_getElem (by have : b.length = n := hnH; omega)⟩
  have k3 := fun X (hX : Fr (fun _ => False) W X) => ku3 k X (by omega) hX
  obtain ⟨y, hy⟩ : ∃ y, y = x ^^^ t := ⟨_, rfl⟩
  have k4 := ku4 k y
  rw [(show ∀ k, k < n → _ from hc3) k hk] at k3
  have h4 : t ≠ 0 → unE (b.set k y) = 53 := fun h => (show ∀ (k : Nat) (x y : UInt8), _ → _ → _ from hc4) k x _ hx (by rw [hy]; exact xor_ne x t h)
  have hxo := xor_u8 x t
  rw [← hy] at hxo
  generalize unE (b.set k y) = U4 at *
  generalize (unG (b.set k y)).vars.length = l7 at *
  generalize (unG (b.set k y)).fns.length = l8 at *
  generalize (unG (b.set k y)).mn = mn4 at *
  generalize (unG (b.take k)).vars.length = l9 at *
  generalize (unG (b.take k)).fns.length = l10 at *
  generalize (unG (b.take k)).mn = mn5 at *
  have hbl := (show BL W bo cap b from hblH)
  have hcn : n ≤ cap := by rw [← (show b.length = n from hnH)]; exact hbl.1
  have hcm : cap ≤ 9223372036854775807 := by have := hbl.2.1; simpa [maxLen] using this
  have g1 : (0 : Int) ≤ (k : Int) := by omega
  have g2 : (k : Int) ≤ (cap : Int) := by omega
  have g3 : (k : Int) < (n : Int) := by omega
  have hkH : Hidden (k < n) := hk
  have hxH : Hidden (b[k]? = some x) := hx
  have hxoH : Hidden (bits .xor .u8 (x.toNat : Int) (t.toNat : Int) = (y.toNat : Int)) := hxo
  have h4H : Hidden (t ≠ 0 → U4 = 53) := h4
  clear ku3 ku4 hc3 hc4 ha1 ha2 hbl hx hxo h4 hk hy
  clear hm1
  go_upto_region 8 with (go_at_call 9; refine (k3 Z fWZ).mono ?_; rintro e w6 ⟨va6, fa6, vc6, fc6, rfl, _, f6⟩
                         have f6H : Hidden (Fr (fun _ => False) W w6) := (show Fr (fun _ => False) W Z from fWZ).same f6
                         clear f6 k3)
  go_upto_region 9 with (
    at_builtin
    refine wpl_copy rfl _ _ rfl W.heap.size w6.heap.size bo n cap b rfl rfl (alloc_new w6 _) ?d1 hnH ?d2 ?d3 ?_
    case d1 => exact (show Fr (fun _ => False) W w6 from f6H).size
    case d2 => exact (show BL W bo cap b from hblH).keep ((show Fr (fun _ => False) W w6 from f6H).same (Fr.alloc _ _ _))
    case d3 => have h2 : n ≤ 65536 := hlenH; omega
    intro v7 w7 r7 f7
    obtain ⟨g, c7, cur, hv7, hg7, hc7, hm7, hh7, hcell7, hfz7, hst7⟩ := own_at r7 k (by rw [byC_len]; have : b.length = n := hnH; have : k < n := hkH; omega)
    rw [show b.length = n from hnH] at hv7
    subst hv7
    have z0 := hcell7 k (.int .u8 (x.toNat : Int)) (by unfold byC; rw [List.getElem?_map, show b[k]? = some x from hxH]; rfl)
    have z1 := hfz7 k
    have q1 : n ≤ c7 := by rw [← (show b.length = n from hnH)]; exact hc7
    have q2 : c7 ≤ 9223372036854775807 := by simpa [maxLen] using hm7
    have fw7 : Fr (fun _ => False) W w7 := ((show Fr (fun _ => False) W w6 from f6H).same (Fr.alloc (fun _ => False) w6 _)).over f7 (fun k e => by
      have := (show Fr (fun _ => False) W w6 from f6H).size
      omega)
    have hst7H : Hidden (Bw (w7.setCell ⟨g, k, none⟩ (.int .u8 (y.toNat : Int))) W.heap.size (.slice (some ⟨g, 0, none⟩) n c7) (b.set k y)) := by
      have := hst7 (.int .u8 (y.toNat : Int))
      rw [byC_set] at this
      show World.ownsRow _ _ _ _ _ _ _
      rw [List.length_set]
      have e : b.length = n := hnH
      rw [e] at this ⊢
      exact this
    have f7H : Hidden (Fr (fun _ => False) W (w7.setCell ⟨g, k, none⟩ (.int .u8 (y.toNat : Int)))) := fw7.over (Fr.setCell w7 ⟨g, k, none⟩ _) (fun j e => by have e : j = g := e; omega)
    clear r7 f7 hh7 hcell7 hfz7 hst7 fw7 hm7 hc7)
  have hxo : bits .xor .u8 (x.toNat : Int) (t.toNat : Int) = (y.toNat : Int) := hxoH
  generalize (x.toNat : Int) = X at *
  generalize hT : (t.toNat : Int) = T at *
  have hTH : Hidden ((t.toNat : Int) = T) := hT
  generalize (y.toNat : Int) = Y at *
  clear hT hxoH
  go_upto_region 10 with fail
  obtain ⟨V8, hV8⟩ : ∃ V8, V8 = w7.setCell ⟨g, k, none⟩ (.int .u8 Y) := ⟨_, rfl⟩
  rw [← hV8] at hst7H f7H ⊢
  have k4a := k4 V8 f7H (some ⟨g, 0, none⟩) c7 (by
    obtain ⟨a', c', e, h⟩ := Bw.bl hst7H
    simp only [Value.slice.injEq] at e
    obtain ⟨rfl, _, rfl⟩ := e
    exact h)
  have f8H : Hidden (Fr (fun _ => False) W V8) := f7H
  clear hV8 z0 z1 hst7H f7H hxo k4
  by_cases ht0 : t = 0
  · have bt : (T == 0) = true := by rw [← (show (t.toNat : Int) = T from hTH), ht0]; rfl
    clear ht0 h4H
    go_wp2_with (go_at_call 9; refine k4a.mono ?_; rintro e w9 ⟨va9, fa9, vc9, fc9, rfl, _, f9⟩
                 have f9H : Hidden (Fr (fun _ => False) W w9) := (show Fr (fun _ => False) W V8 from f8H).same f9
                 clear f9 k4a)
    go_ret
    exact ⟨rfl, (show Fr (fun _ => False) W w9 from f9H).same (Fr.alloc _ _ _)⟩
  · have bt : (T == 0) = false := by
      rw [← (show (t.toNat : Int) = T from hTH)]
      have : t.toNat ≠ 0 := fun e => ht0 (UInt8.toNat_inj.1 (by rw [e]; rfl))
      simp
      omega
    obtain rfl : U4 = 53 := (show t ≠ 0 → U4 = 53 from h4H) ht0
    clear ht0 h4H
    go_wp2_with (go_at_call 9; refine k4a.mono ?_; rintro e w9 ⟨va9, fa9, vc9, fc9, rfl, _, f9⟩
                 have f9H : Hidden (Fr (fun _ => False) W w9) := (show Fr (fun _ => False) W V8 from f8H).same f9
                 clear f9 k4a)
    go_ret
    exact ⟨rfl, (show Fr (fun _ => False) W w9 from f9H).same (Fr.alloc _ _ _)⟩
end Go.Proofs.YtoiglopilpoafaaGreatDoor.Im
namespace Go.Proofs.YtoiglopilpoafaaGreatDoor.imageTurned
open Go.RowKit Ty Cd
theorem walk (u : Value) (b : Bs) (a t m : Int) (W : World) (hy : BytA W u b) (ha : (Lit.int .i64 a).wf = true) (h1 : (Lit.int .u8 t).wf = true) (h2 : (Lit.int .u8 m).wf = true) (ht : F.Tab W) : Calls Tryz.prog 4 #[u, .int .i64 a, .int .u8 t, .int .u8 m] W fun e w' => e = .returned (.bool true) ∧ Fr (fun _ => False) W w' := by
  obtain ⟨bo, capb, rfl, h4, h5⟩ := hy
  obtain ⟨t, rfl⟩ := Im.byte_of h1
  obtain ⟨m, rfl⟩ := Im.byte_of h2
  exact Im.turned_walk bo b.length capb b a t m W rfl h4 h5 ha ht
end Go.Proofs.YtoiglopilpoafaaGreatDoor.imageTurned
