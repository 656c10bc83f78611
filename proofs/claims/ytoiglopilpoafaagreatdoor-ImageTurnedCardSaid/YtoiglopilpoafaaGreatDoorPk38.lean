/- Texts of ours, in one. -/
import Derived.Test.YtoiglopilpoafaaGreatDoorPk34
import Derived.Test.YtoiglopilpoafaaGreatDoorPk36
import Derived.Test.YtoiglopilpoafaaGreatDoorPk37
import Derived.Test.YtoiglopilpoafaaGreatDoorPk31
import Derived.Test.YtoiglopilpoafaaGreatDoorPk11
namespace Go.Proofs.YtoiglopilpoafaaGreatDoor.Im
open Go.RowKit Ty Cd
set_option linter.unusedSimpArgs false
set_option linter.unusedVariables false
set_option maxRecDepth 20000

theorem flat_le {α : Type} (f : α → Bs) (m : Nat) : ∀ (l : List α), (∀ a ∈ l, (f a).length ≤ m) → (l.flatMap f).length ≤ l.length * m
  | [], _ => Nat.zero_le _
  | a :: l, h => by
    have h1 := h a List.mem_cons_self
    have h2 := flat_le f m l (fun x hx => h x (List.mem_cons_of_mem _ hx))
    rw [List.flatMap_cons, List.length_append, List.length_cons, Nat.succ_mul]
    omega
theorem wrI_le {i : Ig} (h : RtI i) : (wrI i).length ≤ 200000000 := by
  obtain ⟨h1, h2, _⟩ := right_G h.right
  have a := flat_le wrV 9 i.vars (fun v _ => by show ([u8 v.1] ++ be 8 v.2.toNat).length ≤ 9; rw [List.length_append, be_len]; simp)
  have b := flat_le wrF 50000 i.fns (fun f hf => wrF_le (h.ok.fns.2 f hf))
  have c : i.vars.length * 9 ≤ 2048 * 9 := Nat.mul_le_mul h1 (Nat.le_refl _)
  have d : i.fns.length * 50000 ≤ 2048 * 50000 := Nat.mul_le_mul h2 (Nat.le_refl _)
  unfold wrI wrB
  simp only [List.length_append, be_len, List.length_cons, List.length_nil]
  omega
theorem rt_of {i : Ig} (ok : OkG i) (h : rightG i = 0) : RtI i := ⟨h, ok.bits, fun f hf x hx => (ok.okI f hf x hx).b⟩
theorem info_u8 : (Tryz.prog.info? 5).map (fun i => (i.zero, i.size, i.bytes)) = some (some (.int .u8 0), 1, 1) := by kernel_rfl
/-- append of some bytes to a row of the call's own. -/
theorem wpl_bytes {w : World} {ops : Array Oper} {rest : List Oper} {o : Oper} {a : Act} {Q : Exit → Act → World → Prop} (hgd : o.guard = none) (s x : Operand)
    (ho : o.op = .call { callee := .builtin .append, args := #[s, x], argTypes := #[30, 30] }) (B : Nat) (v : Value) (l news : Bs) (ad : Addr) (k c : Nat)
    (hs : a.eval s = v) (hr : Bw w B v l) (hx : a.eval x = .slice (some ad) k c) (hl : news.length = k) (hc : ∀ (j : Nat) (u : Value), (byC news)[j]? = some u → w.cell? (ad.add j) = some u)
    (hn : l.length + k ≤ 1000000000) (hB : B ≤ w.heap.size)
    (h : ∀ v' w', Bw w' B v' (l ++ news) → Fr (fun k => v.ownBlock = some k) w w' → wpList Tryz.prog ops Q rest (a.put o.dst v') w') : wpList Tryz.prog ops Q (o :: rest) a w := by
  have hinfo := info_u8
  cases hi : Tryz.prog.info? 5 with
  | none => rw [hi] at hinfo; cases hinfo
  | some i =>
    rw [hi] at hinfo
    simp only [Option.map_some, Option.some.injEq, Prod.mk.injEq] at hinfo
    refine wpList_append_own_at w hgd s x 30 ho B 5 i (.int .u8 0) 1 1 Tryz.underlying30 hi hinfo.1 hinfo.2.1 hinfo.2.2 rfl (by decide) v l.length (byC l) hs hr ad k c (byC news) hx (by unfold byC; rw [List.length_map]; omega) hc (fun u hu => by
      obtain ⟨z, _, rfl⟩ := List.mem_map.1 (show u ∈ news.map _ from hu)
      rfl) (by simp only [maxLen]; omega) (by omega) hB ?_
    intro v' w' h2 h3 _ h5
    refine h v' w' ?_ ((Fr.grown h3).mono (fun k _ hk => hk.symm))
    show w'.ownsRow B _ 1 v' (l ++ news).length (byC (l ++ news))
    rw [List.length_append, hl, show byC (l ++ news) = byC l ++ byC news by unfold byC; rw [List.map_append]]
    exact h2
theorem seal_cells (l : Bs) : byC (sealS l) = [.int .u8 ((sumS l : Int) / 16777216 % 256), .int .u8 ((sumS l : Int) / 65536 % 256), .int .u8 ((sumS l : Int) / 256 % 256), .int .u8 ((sumS l : Int) % 256)] := by
  have s0 : sealS l = [UInt8.ofNat (sumS l / 16777216 % 256), UInt8.ofNat (sumS l / 65536 % 256), UInt8.ofNat (sumS l / 256 % 256), UInt8.ofNat (sumS l % 256)] := by
    show be 4 (sumS l) = _
    simp [be]
  have e : ∀ m : Nat, m < 256 → ((UInt8.ofNat m).toNat : Int) = (m : Int) := fun m hm => by rw [UInt8.toNat_ofNat']; omega
  rw [s0]
  generalize sumS l = N
  unfold byC
  simp only [List.map_cons, List.map_nil]
  rw [e _ (by omega), e _ (by omega), e _ (by omega), e _ (by omega)]
  rw [show (N : Int) / 16777216 % 256 = ((N / 16777216 % 256 : Nat) : Int) by omega, show (N : Int) / 65536 % 256 = ((N / 65536 % 256 : Nat) : Int) by omega, show (N : Int) / 256 % 256 = ((N / 256 % 256 : Nat) : Int) by omega, show (N : Int) % 256 = ((N % 256 : Nat) : Int) by omega]
set_option maxHeartbeats 4000000 in
theorem pack_any (i : Ig) (ok : OkG i) (va fa : Option Addr) (vc fc nv nf : Nat) (hnv : i.vars.length = nv) (hnf : i.fns.length = nf) (w : World) (h : IgA w i va fa vc fc) (ht : F.Tab w) :
    Calls Tryz.prog 6 #[.agg #[.slice va nv vc, .slice fa nf fc, ci i.mn]] w fun e w' => ∃ v, e = .returned (.tuple #[v, ci (pkE i)]) ∧ Bw w' w.heap.size v (pkB i) ∧ Fr (fun _ => False) w w' := by
  obtain ⟨V, hV⟩ : ∃ V, V = w.alloc (.cells #[.slice va nv vc, .slice fa nf fc, ci i.mn] 28 (0, 0)) := ⟨_, rfl⟩
  have fV : Fr (fun _ => False) w V := by rw [hV]; exact Fr.alloc _ _ _
  have xV : V.heap[w.heap.size]? = some (.cells #[.slice va nv vc, .slice fa nf fc, ci i.mn] 28 (0, 0)) := by rw [hV]; exact alloc_new _ _
  obtain ⟨z0, z1, z2⟩ := box3 xV
  have kr := right_any i ok va fa vc fc nv nf hnv hnf V (h.keep fV) (tab_fr ht fV)
  have hszV : w.heap.size ≤ V.heap.size := fV.size
  have hVH : Hidden (V = _) := hV
  have fVH : Hidden (Fr (fun _ => False) w V) := fV
  by_cases h0 : rightG i = 0
  case neg =>
    have e1 : pkE i = rightG i := by unfold pkE; rw [if_pos h0]
    have e2 : pkB i = [] := by unfold pkB; rw [e1, if_neg h0]
    rw [e1, e2]
    have b1 : (rightG i != 0) = true := by simpa using h0
    generalize rightG i = R at *
    generalize i.mn = mn at *
    clear e1 e2 h0 hV fV xV h ht ok hnv hnf
    go_enter Tryz.func6, Tryz.ntmps6
    go_upto_region 1 with fail
    rw [← (show V = _ from hVH)]
    clear hVH
    go_wp2_with (go_at_call 7; refine kr.mono ?_; rintro e w1 ⟨rfl, f1⟩; have f1H : Hidden (Fr (fun _ => False) V w1) := f1; clear f1)
    go_ret2
    exact ⟨_, rfl, Bw.nil _ _, (show Fr (fun _ => False) w V from fVH).same f1H⟩
  have rt := rt_of ok h0
  have hle := wrI_le rt
  have kw := fun X (hX : Fr (fun _ => False) V X) => written_any i rt va fa vc fc nv nf hnv hnf X ((h.keep fV).keep hX)
  have hpk : packS i = wrI i ++ sealS (wrI i) := rfl
  have hcells := seal_cells (wrI i)
  have hsl := seal_len (wrI i)
  have hE : pkE i = if 65536 < (packS i).length then 3 else 0 := by unfold pkE; rw [if_neg (by simpa using h0)]
  have hB : pkB i = if pkE i = 0 then packS i else [] := rfl
  have ks := fun (X : World) (ao : Option Addr) (n cap : Nat) (hn : (wrI i).length = n) (hX : BL X ao cap (wrI i)) => sealOf_any ao n cap (wrI i) hn X hX
  rw [h0] at kr
  obtain ⟨L, hL⟩ : ∃ L, L = wrI i := ⟨_, rfl⟩
  rw [← hL] at hpk hcells hsl ks hle
  simp only [← hL] at kw
  rw [hpk] at hE hB
  have hpE : Hidden (pkE i = _) := hE
  have hpB : Hidden (pkB i = _) := hB
  have hcellsH : Hidden (byC (sealS L) = _) := hcells
  have hslH : Hidden ((sealS L).length = 4) := hsl
  have hleH : Hidden (L.length ≤ 200000000) := hle
  have xVH : Hidden (V.heap[w.heap.size]? = some (.cells #[.slice va nv vc, .slice fa nf fc, ci i.mn] 28 (0, 0))) := xV
  have hszH : Hidden (w.heap.size ≤ V.heap.size) := hszV
  generalize pkE i = PE at *
  generalize pkB i = PB at *
  generalize i.mn = mn at *
  generalize sumS L = N at *
  clear h0 hV fV xV h ht ok hnv hnf rt hle hpk hcells hsl hE hB hL hszV
  generalize hG : w.heap.size = G at *
  have hGH : Hidden (w.heap.size = G) := hG
  clear hG
  go_enter Tryz.func6, Tryz.ntmps6
  go_upto_region 1 with fail
  rw [← (show V = _ from hVH), show w.heap.size = G from hGH]
  clear hVH
  go_upto_region 6 with (first
    | (go_at_call 7; refine kr.mono ?_; rintro e w1 ⟨rfl, f1⟩
       have f1H : Hidden (Fr (fun _ => False) V w1) := f1
       obtain ⟨y0, y1, y2⟩ := box3 (f1.heap (show V.heap[G]? = _ from xVH) (fun f => f))
       have kw1 := kw w1 f1
       clear f1 kw kr z0 z1 z2)
    | (go_at_call 12; refine kw1.mono ?_; rintro e w2 ⟨v, rfl, h2, f2⟩
       obtain ⟨ao, cap, hv, hbl⟩ := h2.bl
       subst hv
       obtain ⟨n, hn⟩ : ∃ n, L.length = n := ⟨_, rfl⟩
       have ks1 := ks w2 ao n cap hn hbl
       rw [hn]
       have hnH : Hidden (L.length = n) := hn
       have h2H : Hidden (Bw w2 w1.heap.size (.slice ao n cap) L) := by show Bw _ _ _ _; rw [← hn]; exact h2
       have f2H : Hidden (Fr (fun _ => False) w1 w2) := f2
       clear hbl hn h2 f2 kw1 ks y0 y1 y2)
    | (go_at_call 13; refine ks1.mono ?_; rintro e w3 ⟨rfl, f3⟩
       have f3H : Hidden (Fr (fun _ => False) w2 w3) := f3
       clear f3 ks1))
  obtain ⟨Z, hZ⟩ : ∃ Z, Z = w3.alloc (.cells #[.int .u8 ((N : Int) / 16777216 % 256), .int .u8 ((N : Int) / 65536 % 256), .int .u8 ((N : Int) / 256 % 256), .int .u8 ((N : Int) % 256)] 54 (0, 0)) := ⟨_, rfl⟩
  have fZ : Fr (fun _ => False) w3 Z := by rw [hZ]; exact Fr.alloc _ _ _
  have xZ : Z.heap[w3.heap.size]? = some (.cells #[.int .u8 ((N : Int) / 16777216 % 256), .int .u8 ((N : Int) / 65536 % 256), .int .u8 ((N : Int) / 256 % 256), .int .u8 ((N : Int) % 256)] 54 (0, 0)) := by rw [hZ]; exact alloc_new _ _
  have hb : Hidden (Bw Z w1.heap.size (.slice ao n cap) L) := ((show Bw w2 w1.heap.size (.slice ao n cap) L from h2H).keepN f3H).keepN fZ
  have hcell : Hidden (∀ (j : Nat) (u : Value), (byC (sealS L))[j]? = some u → Z.cell? ((⟨w3.heap.size, 0, none⟩ : Addr).add j) = some u) := by
    intro j u hu
    rw [show byC (sealS L) = _ from hcellsH] at hu
    rw [Addr.add_lit, Nat.zero_add]
    refine (cell_of_row _ _ _ _ _ _ xZ).trans ?_
    rcases j with _ | _ | _ | _ | j
    · exact hu
    · exact hu
    · exact hu
    · exact hu
    · simp at hu
  rw [← hZ]
  have fwZ : Hidden (Fr (fun _ => False) w1 Z) := ((show Fr (fun _ => False) w1 w2 from f2H).same f3H).same fZ
  have hn2 : n ≤ 200000000 := by rw [← (show L.length = n from hnH)]; exact hleH
  clear hZ fZ xZ
  generalize w3.heap.size = E at *
  go_upto_region 7 with (
    at_builtin
    refine wpl_bytes rfl _ _ rfl w1.heap.size (.slice ao n cap) L (sealS L) ⟨E, 0, none⟩ 4 4 rfl hb rfl hslH hcell ?c1 ?c2 ?_
    case c1 => have h1 : L.length = n := hnH; omega
    case c2 => exact (show Fr (fun _ => False) w1 Z from fwZ).size
    intro v4 w4 r4 f4
    obtain ⟨a4, c4, hv4, hbl4⟩ := r4.bl
    rw [show (L ++ sealS L).length = n + 4 by rw [List.length_append, show L.length = n from hnH, show (sealS L).length = 4 from hslH]] at hv4
    subst hv4
    have r4H : Hidden (Bw w4 w1.heap.size (.slice a4 (n + 4) c4) (L ++ sealS L)) := r4
    have f4H : Hidden (Fr (fun k => (Value.slice ao n cap).ownBlock = some k) Z w4) := f4
    clear r4 f4 hbl4)
  have hlen : (L ++ sealS L).length = n + 4 := by rw [List.length_append, show L.length = n from hnH, show (sealS L).length = 4 from hslH]
  have hE : PE = if 65536 < n + 4 then 3 else 0 := by rw [← hlen]; exact hpE
  have fw4 : Fr (fun _ => False) w w4 := by
    have fw1 : Fr (fun _ => False) w w1 := (show Fr (fun _ => False) w V from fVH).same f1H
    refine (fw1.same fwZ).over (show Fr (fun k => (Value.slice ao n cap).ownBlock = some k) Z w4 from f4H) (fun k e => ?_)
    have h1 := (own_block (show Bw Z w1.heap.size (.slice ao n cap) L from hb) k e).1
    have h2 := fw1.size
    omega
  have hsz1 : G ≤ w1.heap.size := Nat.le_trans hszH (show Fr (fun _ => False) V w1 from f1H).size
  have fw4H : Hidden (Fr (fun _ => False) w w4) := fw4
  have hszH1 : Hidden (G ≤ w1.heap.size) := hsz1
  clear fw4 hlen hsz1
  by_cases hbig : 65536 < n + 4
  · rw [if_pos hbig] at hE
    have hPB : Hidden (PB = []) := by show _ = _; rw [show PB = _ from hpB, hE]; rfl
    have hPE : Hidden (PE = 3) := hE
    have b1 : decide ((65536 : Int) < ((n + 4 : Nat) : Int)) = true := by simp; omega
    have b2 : decide ((65536 : Int) < (n : Int) + 4) = true := by simp; omega
    clear hE hbig
    go_wp2_with fail
    go_ret2
    refine ⟨_, by rw [show PE = 3 from hPE]; rfl, ?_, fw4H⟩
    rw [show PB = [] from hPB]
    exact Bw.nil _ _
  · rw [if_neg hbig] at hE
    have hPB : Hidden (PB = L ++ sealS L) := by show _ = _; rw [show PB = _ from hpB, hE]; rfl
    have hPE : Hidden (PE = 0) := hE
    have b1 : decide ((65536 : Int) < ((n + 4 : Nat) : Int)) = false := by simp; omega
    have b2 : decide ((65536 : Int) < (n : Int) + 4) = false := by simp; omega
    clear hE hbig
    go_wp2_with fail
    go_ret2
    refine ⟨_, by rw [show PE = 0 from hPE]; rfl, ?_, fw4H⟩
    rw [show PB = _ from hPB]
    exact own_lower (show Bw w4 w1.heap.size (.slice a4 (n + 4) c4) (L ++ sealS L) from r4H) hszH1
end Go.Proofs.YtoiglopilpoafaaGreatDoor.Im

namespace Go.Proofs.YtoiglopilpoafaaGreatDoor.Im
open Go.RowKit Ty Cd
set_option linter.unusedSimpArgs false
set_option linter.unusedVariables false

theorem fq_no {w w' : World} {q : Nat} (h : Fr (fun _ => False) w w') : Fr (fun k => k = q) w w' := h.mono fun _ _ f => f.elim
/-- A box that is made beside a reader keeps its cells. -/
theorem box_q {w w' : World} {q b i : Nat} {v : Value} (h : w.cell? ⟨b, i, none⟩ = some v) (hf : Fr (fun k => k = q) w w') (hb : q < b) : w'.cell? ⟨b, i, none⟩ = some v := hf.cell h (fun e => by have e : b = q := e; omega)
set_option maxRecDepth 20000 in
set_option maxHeartbeats 400000 in
theorem type_rs (q : Nat) (s : Lf) (w : World) (h : Rs w q s) :
    Calls Tryz.prog 61 #[.agg #[Wi.rp q]] w fun e w' => e = .returned (ci (rdY s).1) ∧ Rs w' q (rdY s).2 ∧ Fr (fun k => k = q) w w' := by
  have kb := fun W (hW : Fr (fun _ => False) w W) => byte_rs q s W (h.later hW)
  have hb := (rdB s).1.toNat_lt
  unfold rdY
  generalize (rdB s).1.toNat = c at *
  generalize (rdB s).2 = s2 at *
  have e8 : IntKind.i64.wrap (c : Int) = (c : Int) := by rw [IntKind.wrap_i64]; omega
  clear h
  go_enter Tryz.func61, Tryz.ntmps61
  go_wp2_with (go_at_call 36; refine (kb _ (Fr.alloc _ _ _)).mono ?_; rintro e w1 ⟨rfl, h1, h2⟩)
  go_ret
  exact ⟨by first | rfl | (rw [e8]), h1, (fq_no (Fr.alloc _ _ _)).same h2⟩

theorem info_I : (Tryz.prog.info? 3).map (fun i => (i.zero, i.size, i.bytes)) = some (some (.int .i64 0), 1, 8) := by kernel_rfl
set_option maxRecDepth 20000 in
set_option maxHeartbeats 4000000 in
theorem list_I (q : Nat) (n : Nat) (s : Lf) (w : World) (h : Rs w q s) (hn : n < 2147483648) (hs : szL s ≤ 65537) :
    Calls Tryz.prog 81 #[.agg #[Wi.rp q], ci (n : Int), .func (.func 61) #[.agg #[Wi.rp q]] #[]] w fun e w' => ∃ ao cap, e = .returned (.slice ao (rdMany rdY n s).1.length cap) ∧ Row RI 3 1 w' w.heap.size (.slice ao (rdMany rdY n s).1.length cap) (rdMany rdY n s).1 ∧ Rs w' q (rdMany rdY n s).2 ∧ Fr (fun k => k = q) w w' := by
  obtain ⟨V, hV⟩ : ∃ V, V = w.alloc (.cells #[Wi.rp q] 98 (0, 0)) := ⟨_, rfl⟩
  have fV : Fr (fun _ => False) w V := by rw [hV]; exact Fr.alloc _ _ _
  have xV : V.cell? ⟨w.heap.size, 0, none⟩ = some (Wi.rp q) := by rw [hV, cell_of_row _ _ _ _ _ _ (alloc_new w _)]; rfl
  have hq : q < w.heap.size := h.lt
  have hR : Rs V q s := h.later fV
  have hszV : w.heap.size ≤ V.heap.size := fV.size
  have fVH : Hidden (Fr (fun _ => False) w V) := fV
  have xVH : Hidden (V.cell? ⟨w.heap.size, 0, none⟩ = some (Wi.rp q)) := xV
  have hRH : Hidden (Rs V q s) := hR
  have hsH : Hidden (szL s ≤ 65537) := hs
  have hVH : Hidden (V = _) := hV
  have hszH : Hidden (w.heap.size ≤ V.heap.size) := hszV
  have hqH : Hidden (q < w.heap.size) := hq
  clear hV fV xV hR h hs hszV hq
  go_enter Tryz.func81, Tryz.ntmps81
  go_upto_region 1 with fail
  rw [← (show V = _ from hVH)]
  clear hVH
  generalize hG : w.heap.size = G at *
  have hGH : Hidden (w.heap.size = G) := hG
  clear hG
  go_wp2_with fail
  go_loopg [7, 9] n (fun k lv iv wr => ∃ (j : Nat) (acc : List Int) (s' : Lf), iv = .int .i64 (j : Int) ∧ j ≤ n ∧ k = n - j ∧ acc.length = j ∧ Row RI 3 1 wr V.heap.size lv acc ∧ Rs wr q s' ∧ Fr (fun k => k = q) V wr ∧ j + szL s' ≤ 65537 ∧ rdMany rdY n s = (acc ++ (rdMany rdY (n - j) s').1, (rdMany rdY (n - j) s').2))
  case atStart => exact ⟨0, [], s, rfl, by omega, rfl, rfl, Row.nil _ _ _ _ _, hRH, Fr.refl _ _, by have : szL s ≤ 65537 := hsH; omega, rfl⟩
  case round =>
    obtain ⟨j, acc, s', rfl, hj, hk, hal, hrow, hrs, hfr, hsz, hmany⟩ := hrel
    have hkH : Hidden (gk = n - j) := hk
    obtain ⟨ao, cap, rfl, hc1, hc2⟩ := hrow.shape
    rw [hal] at hrow hc1 ⊢
    have hc3 : cap ≤ 9223372036854775807 := by simpa [maxLen] using hc2
    have hrowH : Hidden (Row RI 3 1 wr V.heap.size (.slice ao j cap) acc) := hrow
    have halH : Hidden (acc.length = j) := hal
    have hrsH : Hidden (Rs wr q s') := hrs
    have hfrH : Hidden (Fr (fun k => k = q) V wr) := hfr
    have hszH2 : Hidden (j + szL s' ≤ 65537) := hsz
    have hmanyH : Hidden (rdMany rdY n s = _) := hmany
    have hgq : q < G := hqH
    have hVs : G ≤ V.heap.size := hszH
    have xr := box_q (show V.cell? ⟨G, 0, none⟩ = _ from xVH) hfr hgq
    have hlow : Hidden (∀ k, (Value.slice ao j cap).ownBlock = some k → V.heap.size ≤ k ∧ k < wr.heap.size) := hrow.own
    have hszr : Hidden (V.heap.size ≤ wr.heap.size) := hfr.size
    clear hk hrow hal hfr hsz hmany hc2
    by_cases hjl : j < n
    · have hjn : (j : Int) < (n : Int) := by omega
      have hjb : decide ((j : Int) < (n : Int)) = true := by simpa using hjn
      have ke := err_rs q s' wr hrsH
      cases s' with
      | none =>
        have hE : Hidden ((rdMany rdY n s) = (acc, none)) := by
          show _ = _
          rw [show rdMany rdY n s = _ from hmanyH]
          obtain ⟨m, hm⟩ : ∃ m, n - j = m + 1 := ⟨n - j - 1, by omega⟩
          rw [hm]
          simp [rdMany]
        clear hmanyH hjl
        go_wp2_with (go_at_call 58; refine ke.mono ?_; rintro e w1 ⟨⟨c, rfl, hc⟩, rfl⟩; have hcn : (c != 0) = true := (by have : (c == 0) = false := hc; simpa [bne] using this))
        go_ret
        rw [show rdMany rdY n s = _ from hE]
        refine ⟨ao, cap, by rw [show acc.length = j from halH]; rfl, ?_, hrsH, (fq_no (show Fr (fun _ => False) w V from fVH)).same (show Fr (fun k => k = q) V w1 from hfrH)⟩
        rw [show acc.length = j from halH]
        refine Row.lower hrowH ?_
        have : w.heap.size = G := hGH
        omega
      | some r =>
        have kt := fun (W : World) (hW : Rs W q (some r)) => type_rs q (some r) W hW
        have hdec := rdY_sz r
        have hst : Hidden (rdMany rdY n s = (acc ++ ((rdY (some r)).1 :: (rdMany rdY (n - (j + 1)) (rdY (some r)).2).1), (rdMany rdY (n - (j + 1)) (rdY (some r)).2).2)) := by
          show _ = _
          rw [show rdMany rdY n s = _ from hmanyH]
          obtain ⟨m, hm⟩ : ∃ m, n - j = m + 1 := ⟨n - j - 1, by omega⟩
          rw [hm, show n - (j + 1) = m by omega, rdMany_cut]
        clear hmanyH
        generalize rdY (some r) = x at *
        obtain ⟨a, s2⟩ := x
        have hstH : Hidden _ := hst
        have hdecH : Hidden (szL s2 < szL (some r)) := hdec
        clear hst hdec
        simp only [] at kt
        go_wp2_with (first
          | (go_at_call 58; refine ke.mono ?_; rintro e w1 ⟨⟨c, rfl, hc⟩, rfl⟩; have hc0 : c = 0 := (by simpa using hc); subst hc0)
          | (go_at_call 61
             refine (kt _ hrsH).mono ?_
             rintro e w2 ⟨rfl, hr2, f2⟩
             have hrow2 : Hidden (Row RI 3 1 w2 V.heap.size (.slice ao j cap) acc) := (show Row RI 3 1 w1 V.heap.size _ acc from hrowH).keep f2 (fun k e => by
               have e : k = q := e
               have h2 : q < G := hqH
               have h3 : G ≤ V.heap.size := hszH
               omega)
             have hr2H : Hidden (Rs w2 q s2) := hr2
             have f2H : Hidden (Fr (fun k => k = q) w1 w2) := f2
             clear hr2 f2)
          | (at_builtin
             refine wpList_row (R := RI) rfl _ _ 41 3 (.int .i64 0) 1 8 Tryz.underlying41 info_I rfl (by decide) rfl V.heap.size (.slice ao j cap) acc a [ci a] ⟨w2.heap.size, 0, none⟩ 1 rfl ?c0 rfl rfl ?c1 ?c2 ?c3 ?c4 (by decide) ?c5 ?_
             case c0 => exact (show Row RI 3 1 w2 V.heap.size _ acc from hrow2).keep (Fr.alloc (fun _ => False) _ _) (fun _ f => f.elim)
             case c1 =>
               intro i u hu
               rw [Addr.add_lit, Nat.zero_add]
               refine (cell_of_row _ _ _ _ _ _ (alloc_new w2 _)).trans ?_
               rcases i with _ | i
               · simp at hu; subst hu; rfl
               · simp at hu
             case c2 => intro u hu; simp at hu; subst hu; rfl
             case c3 => exact fun w4 _ => rfl
             case c4 =>
               have h1 : j + szL (some r) ≤ 65537 := hszH2
               have h2 : acc.length = j := halH
               omega
             case c5 => have h1 : V.heap.size ≤ w1.heap.size := hszr; have h2 := (show Fr (fun k => k = q) w1 w2 from f2H).size; simp; omega
             intro v3 w3 r3 f3
             have r3H : Hidden (Row RI 3 1 w3 V.heap.size v3 (acc ++ [a])) := r3
             have f3H : Hidden (Fr (fun k => (Value.slice ao j cap).ownBlock = some k) w2 w3) := (Fr.alloc _ _ _).same f3
             clear r3 f3))
        go_roundg (n - (j + 1))
        case measure => have : gk = n - j := hkH; omega
        case rel =>
          have hfr3 : Fr (fun k => k = q) V w3 := ((show Fr (fun k => k = q) V w1 from hfrH).same (show Fr (fun k => k = q) w1 w2 from f2H)).trans (show Fr (fun k => (Value.slice ao j cap).ownBlock = some k) w2 w3 from f3H) (fun k hk e => by
            have h1 := (show ∀ k, _ → V.heap.size ≤ k ∧ k < w1.heap.size from hlow) k e
            omega)
          have hrs3 : Rs w3 q s2 := Rs.aside hr2H f3H (fun k e => by
            have h1 := (show ∀ k, _ → V.heap.size ≤ k ∧ k < w1.heap.size from hlow) k e
            have h2 : q < G := hqH
            have h3 : G ≤ V.heap.size := hszH
            omega)
          have h1 : j + szL (some r) ≤ 65537 := hszH2
          have h2 : szL s2 < szL (some r) := hdecH
          refine ⟨j + 1, acc ++ [a], s2, by go_num, by omega, rfl, by rw [List.length_append, show acc.length = j from halH]; rfl, r3H, hrs3, hfr3, by omega, ?_⟩
          rw [show rdMany rdY n s = _ from hstH, List.append_assoc]
          rfl
    · obtain rfl : j = n := by omega
      have hjb : decide ((j : Int) < (j : Int)) = false := by simp
      have hE : Hidden ((rdMany rdY j s) = (acc, s')) := by
        show _ = _
        rw [show rdMany rdY j s = _ from hmanyH, Nat.sub_self]
        simp [rdMany]
      clear hmanyH hjl
      go_wp2_with fail
      go_ret
      rw [show rdMany rdY j s = _ from hE]
      refine ⟨ao, cap, by rw [show acc.length = j from halH]; rfl, ?_, hrsH, (fq_no (show Fr (fun _ => False) w V from fVH)).same (show Fr (fun k => k = q) V wr from hfrH)⟩
      rw [show acc.length = j from halH]
      refine Row.lower hrowH ?_
      have : w.heap.size = G := hGH
      omega
end Go.Proofs.YtoiglopilpoafaaGreatDoor.Im

namespace Go.Proofs.YtoiglopilpoafaaGreatDoor.Cd
open Go.RowKit Ty
set_option linter.unusedSimpArgs false
set_option linter.unusedVariables false

/-- Open tries in memory, from a block on. -/
def TrB (w : World) (B : Nat) (to' : Option Addr) (tc : Nat) (tr : List (Int × List Int)) : Prop :=
  tr.length ≤ tc ∧ tc ≤ maxLen ∧ (to' = none → tc = 0) ∧ (∀ a, to' = some a → B ≤ a.block) ∧ (tr = [] ∨ ∃ b off, to' = some ⟨b, off, none⟩ ∧ ∀ (i : Nat) (x : Int × List Int), tr[i]? = some x → ∃ ap cp, InB w B ap cp x.2 ∧ w.cell? ⟨b, off + i * 2, none⟩ = some (ci x.1) ∧ w.cell? ⟨b, off + i * 2 + 1, none⟩ = some (.slice ap x.2.length cp))
theorem TrB.keep {S : Nat → Prop} {w w' : World} {B : Nat} {ao : Option Addr} {cap : Nat} {l : List (Int × List Int)} (h : TrB w B ao cap l) (f : Fr S w w') (hS : ∀ k, B ≤ k → ¬ S k) : TrB w' B ao cap l := by
  obtain ⟨h1, h2, h3, h5, h4⟩ := h
  refine ⟨h1, h2, h3, h5, ?_⟩
  rcases h4 with rfl | ⟨b, off, rfl, h4⟩
  · exact Or.inl rfl
  · refine Or.inr ⟨b, off, rfl, fun i x hx => ?_⟩
    obtain ⟨ap, cp, i1, i2, i3⟩ := h4 i x hx
    exact ⟨ap, cp, i1.keep f hS, f.cell i2 (hS b (h5 _ rfl)), f.cell i3 (hS b (h5 _ rfl))⟩
theorem TrB.take {w : World} {B : Nat} {ao : Option Addr} {cap : Nat} {l : List (Int × List Int)} (h : TrB w B ao cap l) (m : Nat) : TrB w B ao cap (l.take m) := by
  obtain ⟨h1, h2, h3, h5, h4⟩ := h
  refine ⟨Nat.le_trans (by rw [List.length_take]; omega) h1, h2, h3, h5, ?_⟩
  rcases h4 with rfl | ⟨b, off, rfl, h4⟩
  · exact Or.inl (by simp)
  · refine Or.inr ⟨b, off, rfl, fun i x hx => ?_⟩
    rw [List.getElem?_take] at hx
    split at hx
    · exact h4 i x hx
    · cases hx
/-- A shape in memory. -/
def ShB (w : World) (B : Nat) (v : Value) (s : Sp) : Prop := ∃ so sc to' tc, v = .agg #[.slice so s.st.length sc, .slice to' s.tr.length tc] ∧ InB w B so sc s.st ∧ TrB w B to' tc s.tr
theorem ShB.keep {S : Nat → Prop} {w w' : World} {B : Nat} {v : Value} {s : Sp} (h : ShB w B v s) (f : Fr S w w') (hS : ∀ k, B ≤ k → ¬ S k) : ShB w' B v s := by
  obtain ⟨so, sc, to', tc, e, h1, h2⟩ := h
  exact ⟨so, sc, to', tc, e, h1.keep f hS, h2.keep f hS⟩
theorem tr_snoc {l r : List (Int × List Int)} {j : Nat} {x y : Int × List Int} (h : l.take j = r.take j) (hx : l[j]? = some x) (hy : r[j]? = some y) (e : x = y) : l.take (j + 1) = r.take (j + 1) := by
  rw [List.take_add_one, List.take_add_one, h, hx, hy, e]
end Go.Proofs.YtoiglopilpoafaaGreatDoor.Cd

namespace Go.Proofs.YtoiglopilpoafaaGreatDoor.Cd
open Go.RowKit Ty
set_option linter.unusedSimpArgs false
set_option linter.unusedVariables false

/-- What step hands back. -/
def FlR (w : World) (B : Nat) (v : Value) : Option (Option Sp × Option Sp) → Prop
  | none => ∃ x1 x2 o3 n3 k3 o4 n4 k4 o5 n5 k5 o6 n6 k6, v = .agg #[.bool false, .bool x1, .bool x2, .slice o3 n3 k3, .slice o4 n4 k4, .slice o5 n5 k5, .slice o6 n6 k6]
  | some (a, b) => ∃ o3 n3 k3 o4 n4 k4 o5 n5 k5 o6 n6 k6, v = .agg #[.bool true, .bool a.isSome, .bool b.isSome, .slice o3 n3 k3, .slice o4 n4 k4, .slice o5 n5 k5, .slice o6 n6 k6] ∧ (∀ x, a = some x → ShB w B (.agg #[.slice o3 n3 k3, .slice o4 n4 k4]) x) ∧ (∀ x, b = some x → ShB w B (.agg #[.slice o5 n5 k5, .slice o6 n6 k6]) x)
theorem InB.low {w : World} {B B' : Nat} {ao : Option Addr} {cap : Nat} {l : List Int} (h : InB w B ao cap l) (hb : B' ≤ B) : InB w B' ao cap l := ⟨h.1, fun a e => Nat.le_trans hb (h.2 a e)⟩
theorem box7 {w : World} {b : Nat} {x0 x1 x2 x3 x4 x5 x6 : Value} {t : TypeId} (hb : w.heap[b]? = some (.cells #[x0, x1, x2, x3, x4, x5, x6] t (0, 0))) :
    (w.cell? ⟨b, 0, none⟩ = some x0 ∧ w.cell? ⟨b, 1, none⟩ = some x1 ∧ w.cell? ⟨b, 2, none⟩ = some x2 ∧ w.cell? ⟨b, 3, none⟩ = some x3 ∧ w.cell? ⟨b, 4, none⟩ = some x4 ∧ w.cell? ⟨b, 5, none⟩ = some x5 ∧ w.cell? ⟨b, 6, none⟩ = some x6) ∧
    (w.frozen? ⟨b, 0, none⟩ = false ∧ w.frozen? ⟨b, 1, none⟩ = false ∧ w.frozen? ⟨b, 2, none⟩ = false ∧ w.frozen? ⟨b, 3, none⟩ = false ∧ w.frozen? ⟨b, 4, none⟩ = false ∧ w.frozen? ⟨b, 5, none⟩ = false ∧ w.frozen? ⟨b, 6, none⟩ = false) :=
  ⟨⟨cell_of_row _ _ 0 _ _ _ hb, cell_of_row _ _ 1 _ _ _ hb, cell_of_row _ _ 2 _ _ _ hb, cell_of_row _ _ 3 _ _ _ hb, cell_of_row _ _ 4 _ _ _ hb, cell_of_row _ _ 5 _ _ _ hb, cell_of_row _ _ 6 _ _ _ hb⟩, fz_row hb 0, fz_row hb 1, fz_row hb 2, fz_row hb 3, fz_row hb 4, fz_row hb 5, fz_row hb 6⟩
abbrev w7 (w : World) (g : Nat) (x0 x1 x2 x3 x4 x5 x6 : Value) : World := ((((((w.setCell ⟨g, 0, none⟩ x0).setCell ⟨g, 1, none⟩ x1).setCell ⟨g, 2, none⟩ x2).setCell ⟨g, 3, none⟩ x3).setCell ⟨g, 4, none⟩ x4).setCell ⟨g, 5, none⟩ x5).setCell ⟨g, 6, none⟩ x6
theorem set7 {w : World} {g : Nat} {c0 c1 c2 c3 c4 c5 c6 : Value} {t : TypeId} (hg : w.heap[g]? = some (.cells #[c0, c1, c2, c3, c4, c5, c6] t (0, 0))) (x0 x1 x2 x3 x4 x5 x6 : Value) : (w7 w g x0 x1 x2 x3 x4 x5 x6).heap[g]? = some (.cells #[x0, x1, x2, x3, x4, x5, x6] t (0, 0)) := by
  have h0 : (w.setCell ⟨g, 0, none⟩ x0).heap[g]? = some (.cells #[x0, c1, c2, c3, c4, c5, c6] t (0, 0)) := heap_setCell_same w g 0 _ t x0 hg
  have h1 : ((w.setCell ⟨g, 0, none⟩ x0).setCell ⟨g, 1, none⟩ x1).heap[g]? = some (.cells #[x0, x1, c2, c3, c4, c5, c6] t (0, 0)) := heap_setCell_same (w.setCell ⟨g, 0, none⟩ x0) g 1 _ t x1 h0
  have h2 : (((w.setCell ⟨g, 0, none⟩ x0).setCell ⟨g, 1, none⟩ x1).setCell ⟨g, 2, none⟩ x2).heap[g]? = some (.cells #[x0, x1, x2, c3, c4, c5, c6] t (0, 0)) := heap_setCell_same ((w.setCell ⟨g, 0, none⟩ x0).setCell ⟨g, 1, none⟩ x1) g 2 _ t x2 h1
  have h3 : ((((w.setCell ⟨g, 0, none⟩ x0).setCell ⟨g, 1, none⟩ x1).setCell ⟨g, 2, none⟩ x2).setCell ⟨g, 3, none⟩ x3).heap[g]? = some (.cells #[x0, x1, x2, x3, c4, c5, c6] t (0, 0)) := heap_setCell_same (((w.setCell ⟨g, 0, none⟩ x0).setCell ⟨g, 1, none⟩ x1).setCell ⟨g, 2, none⟩ x2) g 3 _ t x3 h2
  have h4 : (((((w.setCell ⟨g, 0, none⟩ x0).setCell ⟨g, 1, none⟩ x1).setCell ⟨g, 2, none⟩ x2).setCell ⟨g, 3, none⟩ x3).setCell ⟨g, 4, none⟩ x4).heap[g]? = some (.cells #[x0, x1, x2, x3, x4, c5, c6] t (0, 0)) := heap_setCell_same ((((w.setCell ⟨g, 0, none⟩ x0).setCell ⟨g, 1, none⟩ x1).setCell ⟨g, 2, none⟩ x2).setCell ⟨g, 3, none⟩ x3) g 4 _ t x4 h3
  have h5 : ((((((w.setCell ⟨g, 0, none⟩ x0).setCell ⟨g, 1, none⟩ x1).setCell ⟨g, 2, none⟩ x2).setCell ⟨g, 3, none⟩ x3).setCell ⟨g, 4, none⟩ x4).setCell ⟨g, 5, none⟩ x5).heap[g]? = some (.cells #[x0, x1, x2, x3, x4, x5, c6] t (0, 0)) := heap_setCell_same (((((w.setCell ⟨g, 0, none⟩ x0).setCell ⟨g, 1, none⟩ x1).setCell ⟨g, 2, none⟩ x2).setCell ⟨g, 3, none⟩ x3).setCell ⟨g, 4, none⟩ x4) g 5 _ t x5 h4
  exact heap_setCell_same ((((((w.setCell ⟨g, 0, none⟩ x0).setCell ⟨g, 1, none⟩ x1).setCell ⟨g, 2, none⟩ x2).setCell ⟨g, 3, none⟩ x3).setCell ⟨g, 4, none⟩ x4).setCell ⟨g, 5, none⟩ x5) g 6 _ t x6 h5
theorem w7_fr (w : World) (g : Nat) (x0 x1 x2 x3 x4 x5 x6 : Value) : Fr (fun k => k = g) w (w7 w g x0 x1 x2 x3 x4 x5 x6) :=
  ((((((Fr.setCell w ⟨g, 0, none⟩ x0).same (Fr.setCell _ ⟨g, 1, none⟩ x1)).same (Fr.setCell _ ⟨g, 2, none⟩ x2)).same (Fr.setCell _ ⟨g, 3, none⟩ x3)).same (Fr.setCell _ ⟨g, 4, none⟩ x4)).same (Fr.setCell _ ⟨g, 5, none⟩ x5)).same (Fr.setCell _ ⟨g, 6, none⟩ x6)
abbrev z7 : Array Value := #[.bool false, .bool false, .bool false, .slice none 0 0, .slice none 0 0, .slice none 0 0, .slice none 0 0]
end Go.Proofs.YtoiglopilpoafaaGreatDoor.Cd

namespace Go.Proofs.YtoiglopilpoafaaGreatDoor.Ty
open Go.RowKit
set_option linter.unusedSimpArgs false
set_option linter.unusedVariables false

end Go.Proofs.YtoiglopilpoafaaGreatDoor.Ty

namespace Go.Proofs.YtoiglopilpoafaaGreatDoor.Cd
open Go.RowKit Ty
set_option linter.unusedSimpArgs false
set_option linter.unusedVariables false

theorem inl_none (w : World) : InL w none 0 [] := ⟨Nat.le_refl _, by simp [maxLen], fun _ => rfl, Or.inl rfl⟩
theorem tp_app (r : List Int) (y : Int) : tp (r ++ [y]) = some (r, y) := by unfold tp; simp
end Go.Proofs.YtoiglopilpoafaaGreatDoor.Cd

namespace Go.Proofs.YtoiglopilpoafaaGreatDoor.Cd
open Go.RowKit Ty
set_option linter.unusedSimpArgs false
set_option linter.unusedVariables false

theorem inl_lit (W : World) (x : Int) : InL (W.alloc (.cells #[ci x] 3 (0, 0))) (some ⟨W.heap.size, 0, none⟩) 1 [x] := by
  refine ⟨Nat.le_refl _, by simp [maxLen], fun e => (by cases e), Or.inr ⟨_, 0, rfl, fun i y hy => ?_⟩⟩
  cases i with
  | zero =>
    simp only [List.getElem?_cons_zero, Option.some.injEq] at hy
    subst hy
    exact cell_of_row _ _ 0 _ _ _ (alloc_new _ _)
  | succ i => simp at hy
theorem tk_some {st l r : List Int} (h : tk st l = some r) : r = st.take r.length ∧ r.length ≤ st.length := by
  unfold tk at h
  split at h
  · obtain rfl := Option.some.inj h
    have : (st.take (st.length - l.length)).length = st.length - l.length := by rw [List.length_take]; omega
    exact ⟨by rw [this], by omega⟩
  · cases h
theorem InB.tk {w : World} {B : Nat} {so : Option Addr} {sc : Nat} {st l r : List Int} (h : InB w B so sc st) (e : tk st l = some r) : InB w B so sc r := by
  have := h.take r.length
  rw [← (tk_some e).1] at this
  exact this
end Go.Proofs.YtoiglopilpoafaaGreatDoor.Cd

namespace Go.Proofs.YtoiglopilpoafaaGreatDoor.Cd
open Go.RowKit Ty
set_option linter.unusedSimpArgs false
set_option linter.unusedVariables false

end Go.Proofs.YtoiglopilpoafaaGreatDoor.Cd
