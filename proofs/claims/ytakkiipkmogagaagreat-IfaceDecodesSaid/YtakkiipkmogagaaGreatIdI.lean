/- The document's Reader: Ints. -/
import Derived.Test.YtakkiipkmogagaaGreatIdH
import Derived.Test.YtakkiipkmogagaaGreatTyAll
namespace Go.Proofs.YtakkiipkmogagaaGreat.Fo.Ic
open Go.RowKit Te
set_option linter.unusedSimpArgs false
set_option linter.unusedVariables false
set_option maxRecDepth 20000

def lpS : Nat → Option (List UInt8) → List Nat × Option (List UInt8)
  | 0, s => ([], s)
  | _ + 1, none => ([], none)
  | n + 1, some r => ((inS (some r)).1 :: (lpS n (inS (some r)).2).1, (lpS n (inS (some r)).2).2)
def keepS : List Nat × Option (List UInt8) → List Nat × Option (List UInt8)
  | (_, none) => ([], none)
  | (l, some r) => (l, some r)
def itS (s : Option (List UInt8)) : List Nat × Option (List UInt8) := keepS (lpS (mnS 8 s).1 (mnS 8 s).2)
def RI (x : Nat) (cs : List Value) : Prop := cs = [ci (x : Int)]
theorem ri_cells : ∀ (l : List Nat) (cs : List Value), Rw.Chunks RI 1 l cs → cs = (l.map (fun x : Nat => (x : Int))).map ci
  | [], cs, h => h
  | c :: l, cs, ⟨d, rest, e, h1, h2, h3⟩ => by
    have h2 : d = [ci (c : Int)] := h2
    rw [e, h2, ri_cells l rest h3]; rfl
theorem ri_in {w : World} {B : Nat} {v : Value} {l : List Nat} (h : Rw.Row RI 3 1 w B v l) : ∃ ao cap, v = .slice ao (l.map (fun x : Nat => (x : Int))).length cap ∧ Ty.InL w ao cap (l.map (fun x : Nat => (x : Int))) := by
  obtain ⟨cells, ho, hch⟩ := h
  have := ri_cells _ _ hch
  subst this
  have ho' : w.ownsRow B 3 1 v (l.map (fun x : Nat => (x : Int))).length ((l.map (fun x : Nat => (x : Int))).map ci) := by rw [List.length_map]; exact ho
  obtain ⟨ao, cap, e, h1, _⟩ := Ty.own_ints ho'
  exact ⟨ao, cap, e, h1⟩
theorem rr_e {w : World} {q : Nat} {bo : Option Addr} {bk : Nat} {b : List UInt8} {s : Option (List UInt8)} (h : Rr w q bo bk b s) : ∃ e : Int, w.cell? ⟨q, 2, none⟩ = some (ci e) ∧ (e == 0) = s.isSome := by
  obtain ⟨a, e, h1, h2, h3, h4, h5⟩ := h
  refine ⟨e, (box3r h1).2.2, ?_⟩
  rcases h3 with ⟨rfl, rfl⟩ | ⟨he, rfl⟩
  · rfl
  · exact he
theorem Rr.lt {w : World} {q : Nat} {bo : Option Addr} {bk : Nat} {b : List UInt8} {s : Option (List UInt8)} (h : Rr w q bo bk b s) : q < w.heap.size := by
  obtain ⟨a, e, h1, _⟩ := h
  exact lt_of_heap h1
theorem Rr.old {w : World} {q : Nat} {bo : Option Addr} {bk : Nat} {b : List UInt8} {s : Option (List UInt8)} (h : Rr w q bo bk b s) (hn : b ≠ []) : ∀ k, (Value.slice bo b.length bk).ownBlock = some k → k < w.heap.size := fun k hk => by
  obtain ⟨a, e, h1, h2, h3, h4, h5⟩ := h
  obtain ⟨ao', cap', e', _, _, _, q4⟩ := h4
  simp only [Value.slice.injEq] at e'
  obtain ⟨rfl, _, _⟩ := e'
  rcases q4 with q4 | ⟨g, off, rfl, q4⟩
  · exact absurd (by simpa [Wi.bc] using q4) hn
  · obtain ⟨c, r, rfl⟩ : ∃ c r, b = c :: r := by
      cases b with
      | nil => exact absurd rfl hn
      | cons c r => exact ⟨c, r, rfl⟩
    have := World.block_lt_of_cell? w _ (q4 0 _ rfl)
    have hk : g = k := by simpa [Value.ownBlock] using hk
    simp only at this
    omega
/-- Later writes to new blocks. -/
theorem Rr.grow {S : Nat → Prop} {w w' : World} {q B : Nat} {bo : Option Addr} {bk : Nat} {b : List UInt8} {s : Option (List UInt8)} (h : Rr w q bo bk b s) (hf : Fr S w w') (hS : ∀ k, S k → B ≤ k) (hq : q < B) (hb : b ≠ [] → ∀ k, (Value.slice bo b.length bk).ownBlock = some k → k < B) : Rr w' q bo bk b s := by
  obtain ⟨a, e, h1, h2, h3, h4, h5⟩ := h
  refine ⟨a, e, hf.heap h1 (fun z => by have := hS q z; omega), h2, h3, ?_, h5⟩
  by_cases hn : b = []
  · subst hn
    obtain ⟨ao', cap', e', q1, q2, q3, _⟩ := h4
    exact ⟨ao', cap', e', q1, q2, q3, Or.inl rfl⟩
  · exact h4.keep (to_wi hf) (fun k hk z => by have := hS k z; have := hb hn k hk; omega)
set_option maxHeartbeats 4000000 in
theorem rints_any (q : Nat) (bo : Option Addr) (bk : Nat) (b : List UInt8) (s : Option (List UInt8)) (hb : b.length ≤ 140737488351232) (w : World) (h : Rr w q bo bk b s) : Calls Tryz.prog 20 #[.pointer (some ⟨q, 0, none⟩), ci 8] w fun e w' => ∃ ao cap, e = .returned (.slice ao ((itS s).1.map (fun x : Nat => (x : Int))).length cap) ∧ Ty.InL w' ao cap ((itS s).1.map (fun x : Nat => (x : Int))) ∧ (∀ k, (Value.slice ao ((itS s).1.map (fun x : Nat => (x : Int))).length cap).ownBlock = some k → w.heap.size ≤ k ∧ k < w'.heap.size) ∧ Rr w' q bo bk b (itS s).2 ∧ Fr (fun k => k = q) w w' := by
  have km := rmany_any q bo bk b s 8 (by omega) hb w h
  have hm8 : (mnS 8 s).1 ≤ 8 := by
    unfold mnS
    split
    · show 0 ≤ 8; omega
    · omega
  have hqw : Hidden (q < w.heap.size) := h.lt
  have hold : Hidden (b ≠ [] → ∀ k, (Value.slice bo b.length bk).ownBlock = some k → k < w.heap.size) := fun hn => h.old hn
  unfold itS
  obtain ⟨N, hN⟩ : ∃ N, (mnS 8 s).1 = N := ⟨_, rfl⟩
  obtain ⟨S0, hS⟩ : ∃ S, (mnS 8 s).2 = S := ⟨_, rfl⟩
  rw [hN, hS] at km ⊢
  rw [hN] at hm8
  obtain ⟨RES, hRES⟩ : ∃ r, lpS N S0 = r := ⟨_, rfl⟩
  rw [hRES]
  have hRH : Hidden (lpS N S0 = RES) := hRES
  have hmH : Hidden (N ≤ 8) := hm8
  have hn9 : N ≤ 9223372036854775807 := by omega
  have hbH : Hidden (b.length ≤ 140737488351232) := hb
  clear h hN hS hRES hm8 hb
  go_enter Tryz.func20, Tryz.ntmps20
  go_wp2_with (go_at_call 42; refine Calls.mono km ?_; rintro e w1 ⟨rfl, r1, f1⟩)
  go_loopg [6, 7] N (fun g lv iv wr => ∃ (j : Nat) (acc : List Nat) (s' : Option (List UInt8)), iv = ci (j : Int) ∧ j ≤ N ∧ g = N - j ∧ acc.length = j ∧ (acc ++ (lpS (N - j) s').1, (lpS (N - j) s').2) = RES ∧ Rw.Row RI 3 1 wr w.heap.size lv acc ∧ Rr wr q bo bk b s' ∧ Fr (fun k => k = q) w wr)
  case atStart => exact ⟨0, [], S0, rfl, by omega, rfl, rfl, by rw [Nat.sub_zero, (show lpS N S0 = RES from hRH)]; rfl, ⟨[], ⟨by simp, Or.inl ⟨rfl, rfl⟩⟩, rfl⟩, r1, f1⟩
  case round =>
    obtain ⟨j, acc, s', rfl, hj, hgk, hal, hres, hrow, hrr, hfr⟩ := hrel
    obtain ⟨ao2, cap2, hv, _⟩ := hrow.slice
    subst hv
    obtain ⟨E, c2, hE⟩ := rr_e hrr
    have hgkH : Hidden (gk = N - j) := hgk
    have hrowH : Hidden (Rw.Row RI 3 1 wr w.heap.size (.slice ao2 acc.length cap2) acc) := hrow
    have hrrH : Hidden (Rr wr q bo bk b s') := hrr
    have hfrH : Hidden (Fr (fun k => k = q) w wr) := hfr
    have halH : Hidden (acc.length = j) := hal
    clear hgk hrow hfr hal r1 f1 km
    have hfin : ∀ (l : List Nat), acc = l → True := fun _ _ => trivial
    by_cases hjl : j < N
    · cases s' with
      | some r =>
        have hE0 : E = 0 := by simpa using hE
        subst hE0
        have kI := rint_any q bo bk b (some r) hbH wr hrr
        obtain ⟨n', hn'⟩ : ∃ n', N - j = n' + 1 := ⟨N - j - 1, by omega⟩
        have hres2 : Hidden ((acc ++ [(inS (some r)).1] ++ (lpS (N - (j + 1)) (inS (some r)).2).1, (lpS (N - (j + 1)) (inS (some r)).2).2) = RES) := by
          show _ = _
          rw [hn'] at hres
          rw [← hres, show N - (j + 1) = n' by omega]
          show _ = (acc ++ ((inS (some r)).1 :: (lpS n' (inS (some r)).2).1), _)
          rw [List.append_assoc]; rfl
        obtain ⟨x, hx⟩ : ∃ x, (inS (some r)).1 = x := ⟨_, rfl⟩
        obtain ⟨s2, hs2⟩ : ∃ x, (inS (some r)).2 = x := ⟨_, rfl⟩
        rw [hx, hs2] at kI hres2
        have hswH : Hidden (w.heap.size ≤ wr.heap.size) := (show Fr (fun k => k = q) w wr from hfrH).size
        clear hres hrr hn' hx hs2 hfin hE
        go_wp2_with (first
          | (go_at_call 17; refine Calls.mono kI ?_; rintro e w3 ⟨rfl, r3, f3⟩; have hs3 : Hidden (wr.heap.size ≤ w3.heap.size) := f3.size; have hrow4 : Hidden (Rw.Row RI 3 1 (w3.alloc (.cells [ci (x : Int)].toArray 3 (0, 0))) w.heap.size (.slice ao2 acc.length cap2) acc) := ((show Rw.Row RI _ 1 wr _ _ _ from hrowH).keep f3 (fun k hk e => by have h1 := ((show Rw.Row RI _ 1 wr _ _ _ from hrowH).low k hk).1; have h2 : q < w.heap.size := hqw; have e : k = q := e; omega)).keep (Fr.alloc FN _ _) (fun _ _ f => f))
          | (at_builtin; have hrow4' := hrow4; refine wpl_one (R := RI) rfl _ _ 45 3 _ 1 8 Tryz.underlying45 Ty.info_int rfl (by decide) rfl w.heap.size (.slice ao2 acc.length cap2) acc x [ci (x : Int)] w3.heap.size 3 rfl hrow4' rfl rfl rfl (alloc_new _ _) (fun u hu => by simp at hu; subst hu; rfl) ?_ ?_ ?_ ?_; (focus (simp only [maxLen]; have : N ≤ 8 := hmH; have : acc.length = j := halH; omega)); (focus (have : N ≤ 8 := hmH; have : acc.length = j := halH; omega)); (focus (have h1 : w.heap.size ≤ wr.heap.size := hswH; have h2 : wr.heap.size ≤ w3.heap.size := hs3; simp; omega)); intro v5 w5 hr5 f5 ho5))
        go_roundg (N - (j + 1))
        case measure => have : gk = N - j := hgkH; omega
        case rel =>
          have low := (show Rw.Row RI _ 1 wr _ _ _ from hrowH).low
          refine ⟨j + 1, acc ++ [x], s2, by go_num, by omega, rfl, by rw [List.length_append, (show acc.length = j from halH)]; rfl, hres2, hr5, ?_, ?_⟩
          · exact (r3.later (Fr.alloc FN w3 _)).grow f5 (fun k hk => (low k hk).1) hqw hold
          · refine (((show Fr (fun k => k = q) w wr from hfrH).same f3).same (Fr.alloc _ _ _)).trans f5 (fun k hk e => ?_)
            have := (low k e).1
            omega
      | none =>
        have hE0 : (E == 0) = false := hE
        have hE1 : (E != 0) = true := by simpa using hE0
        have hnn : lpS (N - j) none = ([], none) := by
          obtain ⟨n', hn'⟩ : ∃ n', N - j = n' + 1 := ⟨N - j - 1, by omega⟩
          rw [hn']; rfl
        rw [hnn] at hres
        subst hres
        clear hrr hfin hnn hE
        go_wp2_with fail
        go_ret
        exact ⟨none, 0, rfl, ⟨by simp [keepS], by simp [maxLen], fun _ => rfl, Or.inl rfl⟩, fun k hk => (by cases hk), hrrH, hfrH⟩
    · obtain rfl : j = N := by omega
      rw [Nat.sub_self] at hres
      have hres' : (acc, s') = RES := by rw [← hres]; show _ = (acc ++ [], s'); rw [List.append_nil]
      subst hres'
      cases s' with
      | some r =>
        have hE0 : E = 0 := by simpa using hE
        subst hE0
        clear hrr hfin hE hres
        go_wp2_with fail
        go_ret
        obtain ⟨ao3, cap3, e3, h3⟩ := ri_in (show Rw.Row RI _ 1 wr _ _ _ from hrowH)
        have low := (show Rw.Row RI _ 1 wr _ _ _ from hrowH).low
        rw [List.length_map] at e3
        simp only [Value.slice.injEq, true_and] at e3
        obtain ⟨rfl, rfl⟩ := e3
        refine ⟨ao2, cap2, by show _ = Ending.returned (.slice ao2 (acc.map (fun x : Nat => (x : Int))).length cap2); rw [List.length_map]; rfl, h3, fun k hk => ?_, hrrH, hfrH⟩
        have hk' : (Value.slice ao2 acc.length cap2).ownBlock = some k := by
          have hk : (Value.slice ao2 (acc.map (fun x : Nat => (x : Int))).length cap2).ownBlock = some k := hk
          rw [List.length_map] at hk
          exact hk
        exact low k hk'
      | none =>
        have hE0 : (E == 0) = false := hE
        have hE1 : (E != 0) = true := by simpa using hE0
        clear hrr hfin hE hres
        go_wp2_with fail
        go_ret
        exact ⟨none, 0, rfl, ⟨by simp [keepS], by simp [maxLen], fun _ => rfl, Or.inl rfl⟩, fun k hk => (by cases hk), hrrH, hfrH⟩
end Go.Proofs.YtakkiipkmogagaaGreat.Fo.Ic
