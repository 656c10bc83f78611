/- Texts of ours, in one. -/
import Derived.Test.YtoiglopilpoafaaGreatDoorPk44
import Derived.Test.YtoiglopilpoafaaGreatDoorPk41
import Derived.Test.YtoiglopilpoafaaGreatDoorPk22
import Derived.Deep.RegionHeld3
import Derived.Test.YtoiglopilpoafaaGreatDoorPk31
namespace Go.Proofs.YtoiglopilpoafaaGreatDoor.Im
open Go.RowKit Ty Cd
set_option linter.unusedSimpArgs false
set_option linter.unusedVariables false

theorem info_F : (Tryz.prog.info? 46).map (fun i => (i.zero, i.size, i.bytes)) = some (some (.agg #[.slice none 0 0, .int .i64 0, .slice none 0 0, .slice none 0 0]), 4, 80) := by kernel_rfl
set_option maxRecDepth 20000 in
set_option maxHeartbeats 4000000 in
theorem list_F (q : Nat) (n : Nat) (s : Lf) (w : World) (h : Rs w q s) (hn : n < 2147483648) (hs : szL s ≤ 65537) :
    Calls Tryz.prog 40 #[.agg #[Wi.rp q], ci (n : Int), .func (.func 41) #[.agg #[Wi.rp q]] #[]] w fun e w' => ∃ ao cap, e = .returned (.slice ao (rdMany rdF n s).1.length cap) ∧ Row RF 46 4 w' w.heap.size (.slice ao (rdMany rdF n s).1.length cap) (rdMany rdF n s).1 ∧ Rs w' q (rdMany rdF n s).2 ∧ Fr (fun k => k = q) w w' := by
  obtain ⟨V, hV⟩ : ∃ V, V = w.alloc (.cells #[Wi.rp q] 98 (0, 0)) := ⟨_, rfl⟩
  have fV : Fr (fun _ => False) w V := by rw [hV]; exact Fr.alloc _ _ _
  have xV : V.cell? ⟨w.heap.size, 0, none⟩ = some (Wi.rp q) := by rw [hV, cell_of_row _ _ _ _ _ _ (alloc_new w _)]; rfl
  have hq : q < w.heap.size := h.lt
  have hR : Rs V q s := h.later fV
  have hszV : w.heap.size ≤ V.heap.size := fV.size
  have fVH : Hidden (Fr (fun _ => False) w V) := fV
  have xVH : Hidden (V.cell? ⟨w.heap.size, 0, none⟩ = some (Wi.rp q)) := xV
  have hRH : Hidden (Rs V q s) := hR
  have hsH : Hidden (szL s ≤ 65537) := hs
  have hVH : Hidden (V = _) := hV
  have hszH : Hidden (w.heap.size ≤ V.heap.size) := hszV
  have hqH : Hidden (q < w.heap.size) := hq
  clear hV fV xV hR h hs hszV hq
  go_enter Tryz.func40, Tryz.ntmps40
  go_upto_region 1 with fail
  rw [← (show V = _ from hVH)]
  clear hVH
  generalize hG : w.heap.size = G at *
  have hGH : Hidden (w.heap.size = G) := hG
  clear hG
  go_wp2_with fail
  go_loopg [7, 9] n (fun k lv iv wr => ∃ (j : Nat) (acc : List Fu) (s' : Lf), iv = .int .i64 (j : Int) ∧ j ≤ n ∧ k = n - j ∧ acc.length = j ∧ Row RF 46 4 wr V.heap.size lv acc ∧ Rs wr q s' ∧ Fr (fun k => k = q) V wr ∧ j + szL s' ≤ 65537 ∧ rdMany rdF n s = (acc ++ (rdMany rdF (n - j) s').1, (rdMany rdF (n - j) s').2))
  case atStart => exact ⟨0, [], s, rfl, by omega, rfl, rfl, Row.nil _ _ _ _ _, hRH, Fr.refl _ _, by have : szL s ≤ 65537 := hsH; omega, rfl⟩
  case round =>
    obtain ⟨j, acc, s', rfl, hj, hk, hal, hrow, hrs, hfr, hsz, hmany⟩ := hrel
    have hkH : Hidden (gk = n - j) := hk
    obtain ⟨ao, cap, rfl, hc1, hc2⟩ := hrow.shape
    rw [hal] at hrow hc1 ⊢
    have hc3 : cap ≤ 9223372036854775807 := by simpa [maxLen] using hc2
    have hrowH : Hidden (Row RF 46 4 wr V.heap.size (.slice ao j cap) acc) := hrow
    have halH : Hidden (acc.length = j) := hal
    have hrsH : Hidden (Rs wr q s') := hrs
    have hfrH : Hidden (Fr (fun k => k = q) V wr) := hfr
    have hszH2 : Hidden (j + szL s' ≤ 65537) := hsz
    have hmanyH : Hidden (rdMany rdF n s = _) := hmany
    have hgq : q < G := hqH
    have hVs : G ≤ V.heap.size := hszH
    have xr := box_q (show V.cell? ⟨G, 0, none⟩ = _ from xVH) hfr hgq
    have hlow : Hidden (∀ k, (Value.slice ao j cap).ownBlock = some k → V.heap.size ≤ k ∧ k < wr.heap.size) := hrow.own
    have hszr : Hidden (V.heap.size ≤ wr.heap.size) := hfr.size
    clear hk hrow hal hfr hsz hmany hc2
    by_cases hjl : j < n
    · have hjn : (j : Int) < (n : Int) := by omega
      have hjb : decide ((j : Int) < (n : Int)) = true := by simpa using hjn
      have ke := err_rs q s' wr hrsH
      cases s' with
      | none =>
        have hE : Hidden ((rdMany rdF n s) = (acc, none)) := by
          show _ = _
          rw [show rdMany rdF n s = _ from hmanyH]
          obtain ⟨m, hm⟩ : ∃ m, n - j = m + 1 := ⟨n - j - 1, by omega⟩
          rw [hm]
          simp [rdMany]
        clear hmanyH hjl
        go_wp2_with (go_at_call 58; refine ke.mono ?_; rintro e w1 ⟨⟨c, rfl, hc⟩, rfl⟩; have hcn : (c != 0) = true := (by have : (c == 0) = false := hc; simpa [bne] using this))
        go_ret
        rw [show rdMany rdF n s = _ from hE]
        refine ⟨ao, cap, by rw [show acc.length = j from halH]; rfl, ?_, hrsH, (fq_no (show Fr (fun _ => False) w V from fVH)).same (show Fr (fun k => k = q) V w1 from hfrH)⟩
        rw [show acc.length = j from halH]
        refine Row.lower hrowH ?_
        have : w.heap.size = G := hGH
        omega
      | some r =>
        have kt := fun (W : World) (hW : Rs W q (some r)) => fn_rs q (some r) W hW (by have h1 : j + szL (some r) ≤ 65537 := hszH2; omega)
        have hdec := rdF_sz r
        have hst : Hidden (rdMany rdF n s = (acc ++ ((rdF (some r)).1 :: (rdMany rdF (n - (j + 1)) (rdF (some r)).2).1), (rdMany rdF (n - (j + 1)) (rdF (some r)).2).2)) := by
          show _ = _
          rw [show rdMany rdF n s = _ from hmanyH]
          obtain ⟨m, hm⟩ : ∃ m, n - j = m + 1 := ⟨n - j - 1, by omega⟩
          rw [hm, show n - (j + 1) = m by omega, rdMany_cut]
        clear hmanyH
        generalize rdF (some r) = x at *
        obtain ⟨a, s2⟩ := x
        have hstH : Hidden _ := hst
        have hdecH : Hidden (szL s2 < szL (some r)) := hdec
        clear hst hdec
        simp only [] at kt
        go_wp2_with (first
          | (go_at_call 58; refine ke.mono ?_; rintro e w1 ⟨⟨c, rfl, hc⟩, rfl⟩; have hc0 : c = 0 := (by simpa using hc); subst hc0)
          | (go_at_call 41
             refine (kt _ hrsH).mono ?_
             rintro e w2 ⟨b0, b2, b3, d0, d2, d3, rfl, i1, i2, i3, hr2, f2⟩
             have hrow2 : Hidden (Row RF 46 4 w2 V.heap.size (.slice ao j cap) acc) := (show Row RF 46 4 w1 V.heap.size _ acc from hrowH).keep f2 (fun k e => by
               have e : k = q := e
               have h2 : q < G := hqH
               have h3 : G ≤ V.heap.size := hszH
               omega)
             have hr2H : Hidden (Rs w2 q s2) := hr2
             have f2H : Hidden (Fr (fun k => k = q) w1 w2) := f2
             have i1H : Hidden (OwI w2 w1.heap.size (.slice b0 a.sg.ps.length d0) a.sg.ps) := i1
             have i2H : Hidden (OwI w2 w1.heap.size (.slice b2 a.loc.length d2) a.loc) := i2
             have i3H : Hidden (IW w2 w1.heap.size 69 (.slice b3 a.cd.length d3) a.cd) := i3
             obtain ⟨x, hx⟩ : ∃ x, x = ((b0, d0), (b2, d2), (b3, d3)) := ⟨_, rfl⟩
             have hxH : Hidden (x = _) := hx
             clear hr2 f2 i1 i2 i3 hx)
          | (at_builtin
             refine wpList_row (R := RF) rfl _ _ 26 46 (.agg #[.slice none 0 0, .int .i64 0, .slice none 0 0, .slice none 0 0]) 4 80 Tryz.underlying26 info_F rfl (by decide) rfl V.heap.size (.slice ao j cap) acc a (fnC a x) ⟨w2.heap.size, 0, none⟩ 1 rfl ?c0 rfl rfl ?c1 ?c2 ?c3 ?c4 (by decide) ?c5 ?_
             case c0 => exact (show Row RF 46 4 w2 V.heap.size _ acc from hrow2).keep (Fr.alloc (fun _ => False) _ _) (fun _ f => f.elim)
             case c1 =>
               intro i u hu
               rw [Addr.add_lit, Nat.zero_add]
               refine (cell_of_row _ _ _ _ _ _ (alloc_new w2 _)).trans ?_
               rw [show x = _ from hxH] at hu
               rcases i with _ | _ | _ | _ | i
               · simp [fnC] at hu; subst hu; rfl
               · simp [fnC] at hu; subst hu; rfl
               · simp [fnC] at hu; subst hu; rfl
               · simp [fnC] at hu; subst hu; rfl
               · simp [fnC] at hu
             case c2 => intro u hu; simp [fnC] at hu; rcases hu with rfl | rfl | rfl | rfl <;> rfl
             case c3 => 
               intro w4 f4
               have nb : ∀ {e : TypeId} {size : Nat} {v : Value} {m : Nat} {cells : List Value}, w2.ownsRow w1.heap.size e size v m cells → w4.ownsRow w1.heap.size e size v m cells := fun h => by
                 refine own_keep (own_keep h (Fr.alloc (fun _ => False) w2 _) (fun _ _ f => f)) f4 (fun k e e2 => ?_)
                 have h1 := (own_block h k e).1
                 rcases e2 with e2 | e2
                 · have h2 : V.heap.size ≤ w1.heap.size := hszr
                   omega
                 · have h2 := (show ∀ k, _ → V.heap.size ≤ k ∧ k < w1.heap.size from hlow) k e2
                   omega
               refine ⟨x, rfl, ?_⟩
               rw [show x = _ from hxH]
               exact ⟨own_inl (nb i1H), own_inl (nb i2H), own_il (nb i3H)⟩
             case c4 =>
               have h1 : j + szL (some r) ≤ 65537 := hszH2
               have h2 : acc.length = j := halH
               omega
             case c5 => have h1 : V.heap.size ≤ w1.heap.size := hszr; have h2 := (show Fr (fun k => k = q) w1 w2 from f2H).size; simp; omega
             intro v3 w3 r3 f3
             have r3H : Hidden (Row RF 46 4 w3 V.heap.size v3 (acc ++ [a])) := r3
             have f3H : Hidden (Fr (fun k => (Value.slice ao j cap).ownBlock = some k) w2 w3) := (Fr.alloc _ _ _).same f3
             clear r3 f3))
        go_roundg (n - (j + 1))
        case measure => have : gk = n - j := hkH; omega
        case rel =>
          have hfr3 : Fr (fun k => k = q) V w3 := ((show Fr (fun k => k = q) V w1 from hfrH).same (show Fr (fun k => k = q) w1 w2 from f2H)).trans (show Fr (fun k => (Value.slice ao j cap).ownBlock = some k) w2 w3 from f3H) (fun k hk e => by
            have h1 := (show ∀ k, _ → V.heap.size ≤ k ∧ k < w1.heap.size from hlow) k e
            omega)
          have hrs3 : Rs w3 q s2 := Rs.aside hr2H f3H (fun k e => by
            have h1 := (show ∀ k, _ → V.heap.size ≤ k ∧ k < w1.heap.size from hlow) k e
            have h2 : q < G := hqH
            have h3 : G ≤ V.heap.size := hszH
            omega)
          have h1 : j + szL (some r) ≤ 65537 := hszH2
          have h2 : szL s2 < szL (some r) := hdecH
          refine ⟨j + 1, acc ++ [a], s2, by go_num, by omega, rfl, by rw [List.length_append, show acc.length = j from halH]; rfl, r3H, hrs3, hfr3, by omega, ?_⟩
          rw [show rdMany rdF n s = _ from hstH, List.append_assoc]
          rfl
    · obtain rfl : j = n := by omega
      have hjb : decide ((j : Int) < (j : Int)) = false := by simp
      have hE : Hidden ((rdMany rdF j s) = (acc, s')) := by
        show _ = _
        rw [show rdMany rdF j s = _ from hmanyH, Nat.sub_self]
        simp [rdMany]
      clear hmanyH hjl
      go_wp2_with fail
      go_ret
      rw [show rdMany rdF j s = _ from hE]
      refine ⟨ao, cap, by rw [show acc.length = j from halH]; rfl, ?_, hrsH, (fq_no (show Fr (fun _ => False) w V from fVH)).same (show Fr (fun k => k = q) V wr from hfrH)⟩
      rw [show acc.length = j from halH]
      refine Row.lower hrowH ?_
      have : w.heap.size = G := hGH
      omega
end Go.Proofs.YtoiglopilpoafaaGreatDoor.Im

namespace Go.Proofs.YtoiglopilpoafaaGreatDoor.Im
open Go.RowKit Ty Cd
set_option linter.unusedSimpArgs false
set_option linter.unusedVariables false
set_option maxRecDepth 20000

def skB : Nat → Lf → Lf
  | 0, s => s
  | n + 1, s => skB n (rdB s).2
theorem skB_le : ∀ (n : Nat) (s : Lf), szL (skB n s) ≤ szL s
  | 0, _ => Nat.le_refl _
  | n + 1, s => Nat.le_trans (skB_le n _) (rdB_le s)
/-- An image in memory that no write below B touches. -/
def IgF (B : Nat) (w : World) (i : Ig) (va fa : Option Addr) (vc fc : Nat) : Prop := ∀ (S : Nat → Prop) (w' : World), Fr S w w' → (∀ k, S k → k < B) → IgA w' i va fa vc fc
theorem IgF.now {B : Nat} {w : World} {i : Ig} {va fa : Option Addr} {vc fc : Nat} (h : IgF B w i va fa vc fc) : IgA w i va fa vc fc := h (fun _ => False) w (Fr.refl _ _) (fun _ f => f.elim)
theorem IgF.keep {B : Nat} {w w' : World} {i : Ig} {va fa : Option Addr} {vc fc : Nat} {S : Nat → Prop} (h : IgF B w i va fa vc fc) (hf : Fr S w w') (hS : ∀ k, S k → k < B) : IgF B w' i va fa vc fc := fun T w'' hf' hT =>
  h (fun k => S k ∨ T k) w'' ((hf.mono (fun k _ h => Or.inl h)).same (hf'.mono (fun k _ h => Or.inr h))) (fun k h => h.elim (hS k) (hT k))
theorem IgF.lower {B B' : Nat} {w : World} {i : Ig} {va fa : Option Addr} {vc fc : Nat} (h : IgF B w i va fa vc fc) (hB : B' ≤ B) : IgF B' w i va fa vc fc := fun T w'' hf' hT => h T w'' hf' (fun k hk => Nat.lt_of_lt_of_le (hT k hk) hB)
theorem frozen3 {w : World} {g : Nat} {x0 x1 x2 : Value} {t : TypeId} (h : w.heap[g]? = some (.cells #[x0, x1, x2] t (0, 0))) : w.frozen? ⟨g, 0, none⟩ = false ∧ w.frozen? ⟨g, 1, none⟩ = false ∧ w.frozen? ⟨g, 2, none⟩ = false :=
  ⟨frozen_of_row h 0, frozen_of_row h 1, frozen_of_row h 2⟩
set_option maxHeartbeats 8000000 in
theorem read_any (ao : Option Addr) (n cap : Nat) (l : Bs) (hn : l.length = n) (hb : n ≤ 65536) (w : World) (h : BL w ao cap l) :
    Calls Tryz.prog 21 #[.slice ao n cap] w fun e w' => ∃ va fa vc fc, e = .returned (.agg #[.slice va (rdG l).vars.length vc, .slice fa (rdG l).fns.length fc, ci (rdG l).mn]) ∧ IgF w.heap.size w' (rdG l) va fa vc fc ∧ Fr (fun _ => False) w w' := by
  obtain ⟨V, hV⟩ : ∃ V, V = w.alloc (.cells #[.slice none 0 0, .slice none 0 0, .int .i64 0] 28 (0, 0)) := ⟨_, rfl⟩
  have fV : Fr (fun _ => False) w V := by rw [hV]; exact Fr.alloc _ _ _
  have xV : V.heap[w.heap.size]? = some (.cells #[.slice none 0 0, .slice none 0 0, .int .i64 0] 28 (0, 0)) := by rw [hV]; exact alloc_new _ _
  have hGlt : w.heap.size < V.heap.size := lt_of_heap xV
  have kr := read_rs ao n cap l hn V (by omega) (h.keep fV)
  have hl1 : szL (rdM (some l)) ≤ 65537 := Nat.le_trans (skB_le 4 (some l)) (by simp [szL]; omega)
  have hl0 : szL (some l) ≤ 65537 := by simp [szL]; omega
  have hVH : Hidden (V = _) := hV
  have fVH : Hidden (Fr (fun _ => False) w V) := fV
  have xVH : Hidden (V.heap[w.heap.size]? = some (.cells #[.slice none 0 0, .slice none 0 0, .int .i64 0] 28 (0, 0))) := xV
  have hGH : Hidden (w.heap.size < V.heap.size) := hGlt
  have hM4 : Hidden (skB 4 (some l) = rdM (some l)) := rfl
  have k1 := fun q W (hW : Rs W q (rdM (some l))) => int_rs q _ W hW
  have k2 := fun q W (hW : Rs W q (rdI (rdM (some l))).2) => list_V q (rdI (rdM (some l))).1 _ W hW (rdI_lt _) (Nat.le_trans (rdI_le _) hl1)
  have l3 : szL (rdVs (rdM (some l))).2 ≤ 65537 := Nat.le_trans (rdMany_le rdV_le _ _) (Nat.le_trans (rdI_le _) hl1)
  have k3 := fun q W (hW : Rs W q (rdVs (rdM (some l))).2) => int_rs q _ W hW
  have k4 := fun q W (hW : Rs W q (rdI (rdVs (rdM (some l))).2).2) => list_F q (rdI (rdVs (rdM (some l))).2).1 _ W hW (rdI_lt _) (Nat.le_trans (rdI_le _) l3)
  have k5 := fun q W (hW : Rs W q (rdFs (rdVs (rdM (some l))).2).2) => int_rs q _ W hW
  have hres : rdG l = ⟨(rdVs (rdM (some l))).1, (rdFs (rdVs (rdM (some l))).2).1, ((rdI (rdFs (rdVs (rdM (some l))).2).2).1 : Int)⟩ := rfl
  rw [hres]
  simp only []
  have e2 : rdVs (rdM (some l)) = rdMany rdV (rdI (rdM (some l))).1 (rdI (rdM (some l))).2 := rfl
  have e4 : rdFs (rdVs (rdM (some l))).2 = rdMany rdF (rdI (rdVs (rdM (some l))).2).1 (rdI (rdVs (rdM (some l))).2).2 := rfl
  rw [← e2] at k2
  rw [← e4] at k4
  clear e2 e4 hres l3 hl1
  generalize rdFs (rdVs (rdM (some l))).2 = p4 at *
  generalize rdI (rdVs (rdM (some l))).2 = p3 at *
  generalize rdVs (rdM (some l)) = p2 at *
  generalize rdI (rdM (some l)) = p1 at *
  generalize hs1 : rdM (some l) = s1 at *
  obtain ⟨n1, s2⟩ := p1
  obtain ⟨vs, s3⟩ := p2
  obtain ⟨n2, s4⟩ := p3
  obtain ⟨fs, s5⟩ := p4
  simp only [] at *
  generalize rdI s5 = p5 at *
  obtain ⟨n3, s6⟩ := p5
  simp only [] at *
  clear hV fV xV h hGlt hn hb hl0 hs1
  generalize hG : w.heap.size = G at *
  have hG0 : Hidden (w.heap.size = G) := hG
  clear hG
  go_enter Tryz.func21, Tryz.ntmps21
  go_upto_region 1 with fail
  rw [← (show V = _ from hVH), show w.heap.size = G from hG0]
  clear hVH
  go_upto_region 2 with (first
    | (go_at_call 35; refine kr.mono ?_; rintro e w1 ⟨q, rfl, r1, hq1, f1⟩
       have r1H : Hidden (Rs w1 q (some l)) := r1
       have f1H : Hidden (Fr (fun _ => False) V w1) := f1
       have hqH : Hidden (V.heap.size ≤ q ∧ q < w1.heap.size) := ⟨hq1, r1.lt⟩
       clear r1 f1 hq1 kr))
  obtain ⟨W1, hW1⟩ : ∃ X, X = w1.alloc (.cells #[Wi.rp q] 98 (0, 0)) := ⟨_, rfl⟩
  have fW1 : Fr (fun _ => False) w1 W1 := by rw [hW1]; exact Fr.alloc _ _ _
  have xR : W1.cell? ⟨w1.heap.size, 0, none⟩ = some (Wi.rp q) := by rw [hW1, cell_of_row _ _ _ _ _ _ (alloc_new w1 _)]; rfl
  have rWH : Hidden (Rs W1 q (some l)) := Rs.later r1H fW1
  have fVW : Hidden (Fr (fun _ => False) V W1) := (show Fr (fun _ => False) V w1 from f1H).same fW1
  have hqR : q < w1.heap.size := (show V.heap.size ≤ q ∧ q < w1.heap.size from hqH).2
  have hqV : V.heap.size ≤ q := (show V.heap.size ≤ q ∧ q < w1.heap.size from hqH).1
  rw [← hW1]
  generalize hR0 : w1.heap.size = R at *
  have xRH : Hidden (W1.cell? ⟨R, 0, none⟩ = some (Wi.rp q)) := xR
  have hqRH : Hidden (q < R) := hqR
  have hqVH : Hidden (V.heap.size ≤ q) := hqV
  clear hW1 fW1 xR r1H f1H hqH hqR hqV hR0
  go_wp2_with fail
  go_loopg [7] 4 (fun k iv wr => ∃ (j : Nat) (s' : Lf), iv = .int .i64 (j : Int) ∧ j ≤ 4 ∧ k = 4 - j ∧ Rs wr q s' ∧ Fr (fun k => k = q) W1 wr ∧ skB (4 - j) s' = s1)
  case atStart => exact ⟨0, some l, rfl, by omega, rfl, rWH, Fr.refl _ _, hM4⟩
  case round =>
    obtain ⟨j, s', rfl, hj, hk, hrs, hfr, hsk⟩ := hrel
    have hkH : Hidden (gk = 4 - j) := hk
    have hfrH : Hidden (Fr (fun k => k = q) W1 wr) := hfr
    have xr := box_q (show W1.cell? ⟨R, 0, none⟩ = _ from xRH) hfr hqRH
    by_cases hj4 : j < 4
    · have kb := byte_rs q s' wr hrs
      have hskH : Hidden (skB (4 - (j + 1)) (rdB s').2 = s1) := by
        show _ = _
        rw [show 4 - j = 4 - (j + 1) + 1 by omega] at hsk
        exact hsk
      generalize rdB s' = pb at *
      obtain ⟨c, s2'⟩ := pb
      simp only [] at kb
      have hjb : decide ((j : Int) < 4) = true := by simp; omega
      have hj4H : Hidden (j < 4) := hj4
      clear hk hrs hfr hsk hj4 k1 k2 k3 k4 k5
      go_wp2_with (go_at_call 36; refine kb.mono ?_; rintro e w2 ⟨rfl, h2, f2⟩
                   have h2H : Hidden (Rs w2 q s2') := h2
                   have f2H : Hidden (Fr (fun k => k = q) wr w2) := f2
                   clear h2 f2)
      go_roundg (4 - (j + 1))
      case measure => have : gk = 4 - j := hkH; have : j < 4 := hj4H; omega
      case rel => exact ⟨j + 1, s2', by go_num, (show j < 4 from hj4H), rfl, h2H, (show Fr (fun k => k = q) W1 wr from hfrH).same f2H, hskH⟩
    · obtain rfl : j = 4 := by omega
      have hsk : s' = s1 := hsk
      subst hsk
      have hjb : decide (((4 : Nat) : Int) < 4) = false := by simp
      have fWr : Hidden (Fr (fun k => k = q) W1 wr) := hfr
      have k1r := fun X (hX : Fr (fun _ => False) wr X) => k1 q X (hrs.later hX)
      have hrsH : Hidden (Rs wr q s') := hrs
      have hG3 : Hidden (wr.heap[G]? = some (.cells #[.slice none 0 0, .slice none 0 0, .int .i64 0] 28 (0, 0))) := by
        refine hfr.heap ((show Fr (fun _ => False) V W1 from fVW).heap (show V.heap[G]? = _ from xVH) (fun f => f)) ?_
        have h1 : G < V.heap.size := hGH
        have h2 : V.heap.size ≤ q := hqVH
        omega
      have hGq : Hidden (G < q) := Nat.lt_of_lt_of_le (show G < V.heap.size from hGH) (show V.heap.size ≤ q from hqVH)
      have hwV : Hidden (w.heap.size = G) := hG0
      have fVWH : Hidden (Fr (fun _ => False) V W1) := fVW
      have hRG : ¬ R = G := fun e => by have h1 : G < q := hGq; have h2 : q < R := hqRH; omega
      clear hk hrs hfr hj4 k1 hGH hG0 xVH fVW
      go_upto_region 6 with fail
      go_region_held3 (fun w' => w'.cell? ⟨R, 0, none⟩ = some (Wi.rp q)) (first | (with_reducible assumption) | (refine (Fr.setCell _ _ _).cell ((Fr.setCell _ _ _).cell ((Fr.setCell _ _ _).cell x6 ?_) ?_) ?_ <;> exact hRG) | go_keep) (first
        | (go_at_call 38
           refine (k5 q _ (by first | exact h5 | exact h5.later (Fr.drew _ _))).mono ?_
           rintro e w6 ⟨rfl, h6, f6⟩
           have g6 : Fr (fun k => k = q) w5 w6 := by first | exact f6 | exact (fq_no (Fr.drew _ _)).same f6
           have x6 := box_q x5 g6 hqRH
           have b6 := g6.heap (show w5.heap[G]? = _ from b5) (by have : G < q := hGq; omega)
           have c6 := Im.frozen3 b6
           obtain ⟨u0, u1, u2⟩ := box3 b6
           obtain ⟨y0, y1, y2⟩ := c6
           have b6H : Hidden (w6.heap[G]? = _) := b6
           have g6H : Hidden (Fr (fun k => k = q) w5 w6) := g6
           clear f6 g6 h6 b6 b5)
        | (go_at_call 40
           refine (k4 q _ (by first | exact h4 | exact h4.later (Fr.drew _ _))).mono ?_
           rintro e w5 ⟨fa, fc, rfl, r5, h5, f5⟩
           have g5 : Fr (fun k => k = q) w4 w5 := by first | exact f5 | exact (fq_no (Fr.drew _ _)).same f5
           have x5 := box_q x4 g5 hqRH
           have b5 : Hidden _ := g5.heap (show w4.heap[G]? = _ from b4) (by have : G < q := hGq; omega)
           have r5H : Hidden (Row RF 46 4 w5 R (.slice fa fs.length fc) fs) := Row.lower r5 (Nat.le_trans (Nat.le_of_lt (World.block_lt_of_cell? w4 _ x4)) (by first | exact Nat.le_refl _ | exact Fr.size (Fr.drew (fun _ => False) w4)))
           have g5H : Hidden (Fr (fun k => k = q) w4 w5) := g5
           clear f5 g5 r5 b4)
        | (go_at_call 38
           refine (k3 q _ (by first | exact h3 | exact h3.later (Fr.drew _ _))).mono ?_
           rintro e w4 ⟨rfl, h4, f4⟩
           have g4 : Fr (fun k => k = q) w3 w4 := by first | exact f4 | exact (fq_no (Fr.drew _ _)).same f4
           have x4 := box_q x3 g4 hqRH
           have b4 : Hidden _ := g4.heap (show w3.heap[G]? = _ from b3) (by have : G < q := hGq; omega)
           have g4H : Hidden (Fr (fun k => k = q) w3 w4) := g4
           clear f4 g4 b3)
        | (go_at_call 37
           refine (k2 q _ (by first | exact h2 | exact h2.later (Fr.drew _ _))).mono ?_
           rintro e w3 ⟨va, vc, rfl, r3, h3, f3⟩
           have g3 : Fr (fun k => k = q) w2 w3 := by first | exact f3 | exact (fq_no (Fr.drew _ _)).same f3
           have x3 := box_q x2 g3 hqRH
           have b3 : Hidden _ := g3.heap (show w2.heap[G]? = _ from b2) (by have : G < q := hGq; omega)
           have r3H : Hidden (Row RV 59 2 w3 R (.slice va vs.length vc) vs) := Row.lower r3 (Nat.le_trans (Nat.le_of_lt (World.block_lt_of_cell? w2 _ x2)) (by first | exact Nat.le_refl _ | exact Fr.size (Fr.drew (fun _ => False) w2)))
           have g3H : Hidden (Fr (fun k => k = q) w2 w3) := g3
           clear f3 g3 r3 b2)
        | (go_at_call 38
           refine (k1r _ (by first | exact Fr.refl _ _ | exact Fr.drew _ _)).mono ?_
           rintro e w2 ⟨rfl, h2, f2⟩
           have g2 : Fr (fun k => k = q) wr w2 := by first | exact f2 | exact (fq_no (Fr.drew _ _)).same f2
           have x2 := box_q xr g2 hqRH
           have b2 : Hidden _ := g2.heap (show wr.heap[G]? = _ from hG3) (by have : G < q := hGq; omega)
           have g2H : Hidden (Fr (fun k => k = q) wr w2) := g2
           clear f2 g2))
      all_goals
        go_wp2_with fail
        have hwV2 : w.heap.size = G := hwV
        have hqV2 : V.heap.size ≤ q := hqVH
        have hqR2 : q < R := hqRH
        have hGq2 : G < q := hGq
        have fr36 : Fr (fun k => k = q) w3 w6 := ((show Fr (fun k => k = q) w3 w4 from g4H).same (show Fr (fun k => k = q) w4 w5 from g5H)).same (show Fr (fun k => k = q) w5 w6 from g6H)
        have fr6 : Fr (fun k => k = q) wr w6 := ((show Fr (fun k => k = q) wr w2 from g2H).same (show Fr (fun k => k = q) w2 w3 from g3H)).same fr36
        have f3 := three_fr w6 G (.slice va vs.length vc) (.slice fa fs.length fc) (ci (n3 : Int))
        refine post_one rfl rfl _ #[.slice va vs.length vc, .slice fa fs.length fc, ci (n3 : Int)] 28 _ rfl (three_put (show w6.heap[G]? = _ from b6H) _ _ _) Tryz.underlying28 rfl (by kernel_rfl) ⟨va, fa, vc, fc, rfl, fun S w'' hf hS => ⟨?_, ?_⟩, ?_⟩
        · have hr := (((show Row RV 59 2 w3 R (.slice va vs.length vc) vs from r3H).keep fr36 (fun k e => by have e : k = q := e; omega)).keep f3 (fun k e => by have e : k = G := e; omega)).keep hf (fun k hk => by have := hS k hk; omega)
          obtain ⟨ao, cap, e, h⟩ := hr.vl
          cases e
          exact h
        · have hr := (((show Row RF 46 4 w5 R (.slice fa fs.length fc) fs from r5H).keep (show Fr (fun k => k = q) w5 w6 from g6H) (fun k e => by have e : k = q := e; omega)).keep f3 (fun k e => by have e : k = G := e; omega)).keep hf (fun k hk => by have := hS k hk; omega)
          obtain ⟨ao, cap, e, h⟩ := hr.fl
          cases e
          exact h
        · refine Fr.over (Fr.over (Fr.over ?_ (show Fr (fun k => k = q) W1 wr from fWr) (fun k e => by omega)) fr6 (fun k e => by omega)) f3 (fun k e => by omega)
          exact (show Fr (fun _ => False) w V from fVH).same fVWH
end Go.Proofs.YtoiglopilpoafaaGreatDoor.Im

namespace Go.Proofs.YtoiglopilpoafaaGreatDoor.Im
open Go.RowKit Ty Cd
set_option linter.unusedSimpArgs false
set_option linter.unusedVariables false

theorem rdMany_cnt {α : Type} (take : Lf → α × Lf) : ∀ (n : Nat) (s : Lf), (rdMany take n s).1.length ≤ n
  | 0, s => by cases s <;> exact Nat.le_refl _
  | n + 1, none => Nat.zero_le _
  | n + 1, some r => by
    rw [rdMany_cut]
    exact Nat.succ_le_succ (rdMany_cnt take n _)
theorem rdMany_sz {α : Type} {take : Lf → α × Lf} (ht : ∀ r, szL (take (some r)).2 < szL (some r)) : ∀ (n : Nat) (s : Lf), (rdMany take n s).1.length ≤ szL s
  | 0, s => by cases s <;> exact Nat.zero_le _
  | n + 1, none => Nat.zero_le _
  | n + 1, some r => by
    rw [rdMany_cut]
    have h1 := rdMany_sz ht n (take (some r)).2
    have h2 := ht r
    show (rdMany take n (take (some r)).2).1.length + 1 ≤ _
    omega
theorem rdM_le (s : Lf) : szL (rdM s) ≤ szL s := Nat.le_trans (rdB_le _) (Nat.le_trans (rdB_le _) (Nat.le_trans (rdB_le _) (rdB_le s)))
theorem rdT_cnt (s : Lf) : (rdT s).1.length ≤ 255 := by
  have h1 := rdMany_cnt rdY (rdB s).1.toNat (rdB s).2
  have h2 := (rdB s).1.toNat_lt
  show (rdMany rdY (rdB s).1.toNat (rdB s).2).1.length ≤ 255
  omega
theorem rdF_ps (s : Lf) : (rdF s).1.sg.ps.length ≤ 255 := rdT_cnt _
theorem rdF_loc (s : Lf) : (rdF s).1.loc.length ≤ 255 := rdT_cnt _
theorem rdF_cd (s : Lf) : (rdF s).1.cd.length ≤ 4096 := dec_len _
theorem rdG_ok {b : Bs} (h : b.length ≤ 65536) : OkG (rdG b) := by
  have s0 : szL (some b) ≤ 65537 := by simp [szL]; omega
  have s1 : szL (rdM (some b)) ≤ 65537 := Nat.le_trans (rdM_le _) s0
  have s2 : szL (rdVs (rdM (some b))).2 ≤ 65537 := Nat.le_trans (rdMany_le rdV_le _ _) (Nat.le_trans (rdI_le _) s1)
  refine ⟨?_, ?_, fun f hf => ?_, fun f hf => ?_, fun f hf => ?_, fun f hf x hx => okIn_of (rdG_code b f hf x hx), rdG_bits b⟩
  · have h1 := rdMany_sz rdV_sz (rdI (rdM (some b))).1 (rdI (rdM (some b))).2
    have h2 := rdI_le (rdM (some b))
    show (rdMany rdV (rdI (rdM (some b))).1 (rdI (rdM (some b))).2).1.length ≤ _
    omega
  · have h1 := rdMany_sz rdF_sz (rdI (rdVs (rdM (some b))).2).1 (rdI (rdVs (rdM (some b))).2).2
    have h2 := rdI_le (rdVs (rdM (some b))).2
    show (rdMany rdF (rdI (rdVs (rdM (some b))).2).1 (rdI (rdVs (rdM (some b))).2).2).1.length ≤ _
    omega
  · exact Nat.le_trans (rdMany_all (P := fun f : Fu => f.sg.ps.length ≤ 255) rdF_ps _ _ f hf) (by decide)
  · exact Nat.le_trans (rdMany_all (P := fun f : Fu => f.loc.length ≤ 255) rdF_loc _ _ f hf) (by decide)
  · exact Nat.le_trans (rdMany_all (P := fun f : Fu => f.cd.length ≤ 4096) rdF_cd _ _ f hf) (by decide)
end Go.Proofs.YtoiglopilpoafaaGreatDoor.Im
