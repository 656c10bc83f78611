/- A function gone through. -/
import Derived.Test.YtoiglopilpoafaaGreatDoorPk14
import Derived.Test.YtoiglopilpoafaaGreatDoorPk20
import Derived.Test.YtoiglopilpoafaaGreatDoorPk16
import Derived.Test.YtoiglopilpoafaaGreatDoorPk24
import Derived.WalkMore
namespace Go.Proofs.YtoiglopilpoafaaGreatDoor.Cd
open Go.RowKit Ty
set_option linter.unusedSimpArgs false
set_option linter.unusedVariables false

theorem Wy.slice {w : World} {B : Nat} {v : Value} {l : List (Int × Sp)} (h : Wy w B v l) : ∃ ao cap, v = .slice ao l.length cap ∧ l.length ≤ cap ∧ cap ≤ maxLen ∧ (l = [] ∨ ∃ g, ao = some ⟨g, 0, none⟩ ∧ B ≤ g ∧ ∀ (j : Nat) (x : Int × Sp), l[j]? = some x → w.cell? ⟨g, j * 4, none⟩ = some (ci x.1) ∧ w.cell? ⟨g, j * 4 + 1, none⟩ = some (ct (encSt x.2.st)) ∧ w.cell? ⟨g, j * 4 + 2, none⟩ = some (ct (encTr x.2.tr)) ∧ w.cell? ⟨g, j * 4 + 3, none⟩ = some (ci (x.2.tr.length : Int))) := by
  rcases own_slice h (by decide) with ⟨ao, cap, rfl, h1, h2, h3, _, h4⟩
  refine ⟨ao, cap, rfl, h1, h2, ?_⟩
  rcases h4 with h4 | ⟨g, rfl, hg, _, h4⟩
  · exact Or.inl (List.length_eq_zero_iff.1 h4)
  · refine Or.inr ⟨g, rfl, hg, fun j x hx => ?_⟩
    have get : ∀ (l : List (Int × Sp)) (j : Nat) (x : Int × Sp), l[j]? = some x → ∀ (i : Nat) (u : Value), (wyC x)[i]? = some u → (l.flatMap wyC)[j * 4 + i]? = some u := by
      intro l
      induction l with
      | nil => intro j x hx; simp at hx
      | cons y r ih =>
        intro j x hx i u hu
        cases j with
        | zero =>
          simp at hx
          subst hx
          have hi : i < (wyC y).length := (List.getElem?_eq_some_iff.1 hu).1
          rw [List.flatMap_cons, List.getElem?_append_left (by omega), Nat.zero_mul, Nat.zero_add]
          exact hu
        | succ j =>
          have hl : (wyC y).length = 4 := rfl
          rw [List.flatMap_cons, List.getElem?_append_right (by rw [hl]; omega), hl, show (j + 1) * 4 + i - 4 = j * 4 + i by omega]
          exact ih j x (by simpa using hx) i u hu
    exact ⟨by simpa using h4 _ _ (get l j x hx 0 _ rfl), h4 _ _ (get l j x hx 1 _ rfl), h4 _ _ (get l j x hx 2 _ rfl), h4 _ _ (get l j x hx 3 _ rfl)⟩
structure InvL (n : Nat) (L : Cs) : Prop where
  len : L.length = n
  ok : ∀ (j : Nat) g x, L[j]? = some (some (g, x)) → OkS x
  ov : ∀ (j : Nat) g x, L[j]? = some (some (g, x)) → over x = false
  tz : ∀ (j : Nat) g x, L[j]? = some (some (g, x)) → Tz x
set_option maxRecDepth 20000 in
set_option maxHeartbeats 4000000 in
theorem gone_w (f : Fu) (p : Fm) (n c3 : Nat) (a3 : Option Addr) (v0 v1 v2 v4 v5 : Value) (R : Rs) (w : World) (hn : n ≤ 4096) (hn0 : 0 < n) (hc3 : n ≤ c3) (hc3m : c3 ≤ 9223372036854775807)
    (hlen : f.cd.length = n) (hR : goS f p (n + 1) (startS n) = some R) (hstep : ∀ {L L' : Cs} {k : Nat} {s : Sp}, InvL n L → L[k]? = some (some (false, s)) → roundS f p L k s = .ok L' → InvL n L')
    (kw : ∀ (q gs ga : Nat) (W : World) (L : Cs) (k : Nat) (s : Sp), Fr (fun _ => False) w W → Wk W q gs ga n v0 v1 v2 (.slice a3 n c3) v4 v5 L → InvL n L → L[k]? = some (some (false, s)) → Calls Tryz.prog 73 #[.pointer (some ⟨q, 0, none⟩), ci (k : Int)] W fun e w' => ∃ v, e = .returned (.tuple #[v, ci (wayS f p k s).1]) ∧ Fr (fun _ => False) W w' ∧ Wy w' W.heap.size v ((wayS f p k s).2.map fun x => ((x.1 : Int), x.2)))
    (hway : ∀ (k : Nat) (s : Sp), k < n → OkS s → ∀ x ∈ (wayS f p k s).2, x.1 < n ∧ OkS x.2) :
    Calls Tryz.prog 55 #[.agg #[v0, v1, v2, .slice a3 n c3], .agg #[v4, v5]] w fun e w' => ∃ pv, e = .returned (.tuple #[pv, ci (placeS R), ci (errS R)]) ∧ Fr (fun _ => False) w w' ∧ ∀ L', R = .ok L' → ∃ q gs ga, pv = .pointer (some ⟨q, 0, none⟩) ∧ Wk w' q gs ga n v0 v1 v2 (.slice a3 n c3) v4 v5 L' := by
  have hRH : Hidden (goS f p (n + 1) (startS n) = some R) := hR
  have hlenH : Hidden (f.cd.length = n) := hlen
  clear hR hlen
  have mkB := fun W => make_b W n hn
  have mkS := fun W => make_s W n hn
  obtain ⟨oB, hoB⟩ : ∃ o : Obj, o = .cells (stC (List.replicate n none)).toArray 5 (0, 0) := ⟨_, rfl⟩
  obtain ⟨oS, hoS⟩ : ∃ o : Obj, o = .cells (ahC (List.replicate n none)).toArray 148 (0, 0) := ⟨_, rfl⟩
  rw [← hoB] at mkB
  rw [← hoS] at mkS
  have hoBH : Hidden (oB = _) := hoB
  have hoSH : Hidden (oS = _) := hoS
  clear hoB hoS
  go_enter Tryz.func55, Tryz.ntmps55
  go_wp2_with fail
  go_step3
  go_wp2_with fail
  obtain ⟨V, hV⟩ : ∃ V, V = (w.alloc (.cells #[v0, v1, v2, .slice a3 n c3] 46 (0, 0))).alloc (.cells #[v4, v5] 64 (0, 0)) := ⟨_, rfl⟩
  have fV : Hidden (Fr (fun _ => False) w V) := by rw [hV]; exact (Fr.alloc _ _ _).same (Fr.alloc _ _ _)
  obtain ⟨k0, k1, k2, k3⟩ := box4 (show V.heap[w.heap.size]? = some (.cells #[v0, v1, v2, .slice a3 n c3] 46 (0, 0)) by rw [hV]; exact heap_alloc2_old _ _ _)
  have hbx : V.heap[w.heap.size + 1]? = some (.cells #[v4, v5] 64 (0, 0)) := by rw [hV]; exact heap_alloc2_new _ _ _
  have k4 := cell_of_row _ _ 0 _ _ _ hbx
  have k5 := cell_of_row _ _ 1 _ _ _ hbx
  have k4 : V.cell? ⟨w.heap.size + 1, 0, none⟩ = some v4 := k4
  have k5 : V.cell? ⟨w.heap.size + 1, 1, none⟩ = some v5 := k5
  have hs2 : w.heap.size + 2 ≤ V.heap.size := by rw [hV]; simp
  rw [← hV]
  clear hV hbx
  have x0 := World.new_ne V _ k0
  have x4 := World.new_ne V _ k4
  have hsV : w.heap.size + 2 ≤ V.heap.size := hs2
  go_cut [7] (fun pv wx => ∃ q gs ga, pv = .pointer (some ⟨q, 0, none⟩) ∧ Wk wx q gs ga n v0 v1 v2 (.slice a3 n c3) v4 v5 (List.replicate n none) ∧ w.heap.size ≤ q ∧ w.heap.size ≤ gs ∧ w.heap.size ≤ ga ∧ Fr (fun _ => False) w wx)
  case first =>
    go_region_held3 (fun w' => w'.cell? ⟨w.heap.size, 0, none⟩ = some v0 ∧ w'.cell? ⟨w.heap.size, 1, none⟩ = some v1 ∧ w'.cell? ⟨w.heap.size, 2, none⟩ = some v2 ∧ w'.cell? ⟨w.heap.size, 3, none⟩ = some (.slice a3 n c3) ∧ w'.cell? ⟨w.heap.size + 1, 0, none⟩ = some v4 ∧ w'.cell? ⟨w.heap.size + 1, 1, none⟩ = some v5) (first | (refine ⟨?_, ?_, ?_, ?_, ?_, ?_⟩ <;> (repeat (first | (with_reducible assumption) | (refine (Fr.drew (fun _ => False) _).cellN ?_) | (refine (Fr.alloc (fun _ => False) _ _).cellN ?_)))) | go_keep) (fail)
    · go_wp2_with fail
      go_meet
      have hoB : oB = _ := hoBH
      have hoS : oS = _ := hoSH
      refine ⟨V.heap.size + 1 + 1, V.heap.size, V.heap.size + 1, rfl, ⟨?_, ?_, ?_, by simp, by omega, by omega, by omega⟩, by omega, by omega, by omega, ((show Fr (fun _ => False) w V from fV).same (((Fr.alloc _ _ _).same (Fr.alloc _ _ _)).same (Fr.alloc _ _ _))).same (Fr.drew _ _)⟩
      · exact (Fr.drew (fun _ => False) _).heap (alloc_at _ _ _ (by simp)) (fun f => f)
      · rw [← hoB]; exact ((Fr.alloc (fun _ => False) _ _).same (Fr.drew _ _)).heap ((Fr.alloc (fun _ => False) _ _).heap (alloc_new V oB) (fun f => f)) (fun f => f)
      · rw [← hoS]; exact ((Fr.alloc (fun _ => False) _ _).same (Fr.drew _ _)).heap (alloc_at (V.alloc oB) oS (V.heap.size + 1) (by simp)) (fun f => f)
    · go_wp2_with fail
      go_meet
      have hoB : oB = _ := hoBH
      have hoS : oS = _ := hoSH
      refine ⟨V.heap.size + 1 + 1, V.heap.size + 1, V.heap.size, rfl, ⟨?_, ?_, ?_, by simp, by omega, by omega, by omega⟩, by omega, by omega, by omega, ((show Fr (fun _ => False) w V from fV).same (((Fr.alloc _ _ _).same (Fr.alloc _ _ _)).same (Fr.alloc _ _ _))).same (Fr.drew _ _)⟩
      · exact (Fr.drew (fun _ => False) _).heap (alloc_at _ _ _ (by simp)) (fun f => f)
      · rw [← hoB]; exact ((Fr.alloc (fun _ => False) _ _).same (Fr.drew _ _)).heap (alloc_at (V.alloc oS) oB (V.heap.size + 1) (by simp)) (fun f => f)
      · rw [← hoS]; exact ((Fr.alloc (fun _ => False) _ _).same (Fr.drew _ _)).heap ((Fr.alloc (fun _ => False) _ _).heap (alloc_new V oS) (fun f => f)) (fun f => f)
  case rest =>
    obtain ⟨q, gs, ga, rfl, hwk, hq, hgs, hga, fc⟩ := hcut
    have hwkH : Hidden (Wk wc q gs ga n v0 v1 v2 (.slice a3 n c3) v4 v5 (List.replicate n none)) := hwk
    obtain ⟨_, _, _, _, _, _, b6, b7⟩ := box8 hwk.box
    have cz := st_at hwk.st (k := 0) (c := none) (by rw [List.getElem?_replicate, if_pos hn0])
    have fz := frozen_of_row hwk.st 0
    simp only [stN] at cz
    have fcH : Hidden (Fr (fun _ => False) w wc) := fc
    clear hwk fc k0 k1 k2 k3 k4 k5 x0 x4 fV hsV mkB mkS hoBH hoSH
    have hmark : Wk (wc.setCell ⟨gs, 0, none⟩ (.int .u8 1)) q gs ga n v0 v1 v2 (.slice a3 n c3) v4 v5 (startS n) := Wk.mark (show Wk wc q gs ga n v0 v1 v2 (.slice a3 n c3) v4 v5 (List.replicate n none) from hwkH) (k := 0) (c := none) (d := some (false, ⟨[], []⟩)) (by rw [List.getElem?_replicate, if_pos hn0]) rfl
    go_wp2_with fail
    go_step3
    obtain ⟨Wm, hWm⟩ : ∃ W, W = wc.setCell ⟨gs, 0, none⟩ (.int .u8 1) := ⟨_, rfl⟩
    rw [← hWm] at hmark ⊢
    have fm : Fr (fun _ => False) w Wm := by rw [hWm]; exact (show Fr (fun _ => False) w wc from fcH).over (Fr.setCell wc ⟨gs, 0, none⟩ _) (fun k e => by subst e; exact hgs)
    have fmH : Hidden (Fr (fun _ => False) w Wm) := fm
    have hmarkH : Hidden (Wk Wm q gs ga n v0 v1 v2 (.slice a3 n c3) v4 v5 (startS n)) := hmark
    have kl := least_any q gs ga n v0 v1 v2 (.slice a3 n c3) v4 v5 (startS n) Wm hmark
    have hinv0 : Hidden (InvL n (startS n)) := by
      refine ⟨by simp [startS], ?_, ?_, ?_⟩
      · intro j g x hx
        unfold startS at hx
        rw [List.getElem?_set] at hx
        split at hx
        · split at hx
          · cases hx; exact ⟨fun t ht => by simp at ht, fun t ht => by simp at ht⟩
          · cases hx
        · rw [List.getElem?_replicate] at hx
          split at hx <;> cases hx
      · intro j g x hx
        unfold startS at hx
        rw [List.getElem?_set] at hx
        split at hx
        · split at hx
          · cases hx; rfl
          · cases hx
        · rw [List.getElem?_replicate] at hx
          split at hx <;> cases hx
      · intro j g x hx
        unfold startS at hx
        rw [List.getElem?_set] at hx
        split at hx
        · split at hx
          · cases hx; exact fun t ht => by simp at ht
          · cases hx
        · rw [List.getElem?_replicate] at hx
          split at hx <;> cases hx
    clear hmark hwkH hWm fm cz fz b6 b7 fcH
    go_wp2_with (go_at_call 72; refine kl.mono ?_; rintro e wl ⟨rfl, rfl⟩)
    clear kl
    go_loopg [8, 9] (n + 1) (fun k av ev wr => ∃ L, av = ci (lsI L) ∧ ev = ci 0 ∧ Wk wr q gs ga n v0 v1 v2 (.slice a3 n c3) v4 v5 L ∧ InvL n L ∧ goS f p k L = some R ∧ Fr (fun _ => False) w wr)
    case atStart => exact ⟨startS n, rfl, rfl, hmarkH, hinv0, hRH, fmH⟩
    case round =>
      obtain ⟨L, rfl, rfl, hwk, hinv, hgo, hfr⟩ := hrel
      cases gk with
      | zero => cases hgo
      | succ j =>
        cases hle : leastS L with
        | none =>
          have e0 : lsI L = -1 := by unfold lsI; rw [hle]
          have eR : R = .ok L := by
            unfold goS at hgo
            rw [hle] at hgo
            exact (Option.some.inj hgo).symm
          have eRH : Hidden (R = .ok L) := eR
          have hwkH : Hidden (Wk wr q gs ga n v0 v1 v2 (.slice a3 n c3) v4 v5 L) := hwk
          have hfrH : Hidden (Fr (fun _ => False) w wr) := hfr
          rw [e0]
          clear hle hgo eR hwk hfr hinv e0
          go_wp2_with fail
          rw [Exit.noGoto_ret]
          refine ⟨rfl, _, results_tmp3 rfl _ _ _, ?_⟩
          rw [show R = .ok L from eRH]
          exact ⟨_, rfl, hfrH, fun L' e => by cases e; exact ⟨q, gs, ga, rfl, hwkH⟩⟩
        | some x =>
          obtain ⟨k, s⟩ := x
          have hat := (leastS_at hle).1
          have e0 : lsI L = (k : Int) := by unfold lsI; rw [hle]
          have hgo2 : nextR f p j k (roundS f p L k s) = some R := by
            rw [← goS_next hle]
            exact hgo
          have hkn : k < n := by rw [← hinv.len]; exact (List.getElem?_eq_some_iff.1 hat).1
          have kwx := kw q gs ga wr L k s hfr hwk hinv hat
          have hoks := hinv.ok _ _ _ hat
          have hwyx := hway k s hkn hoks
          have hrw := roundS_way f p L k s
          rw [e0]
          obtain ⟨Y, hY⟩ : ∃ Y, Y = wayS f p k s := ⟨_, rfl⟩
          rw [← hY] at kwx hwyx hrw
          clear hY
          obtain ⟨r, ws⟩ := Y
          simp only [] at kwx hwyx hrw
          have hwkH : Hidden (Wk wr q gs ga n v0 v1 v2 (.slice a3 n c3) v4 v5 L) := hwk
          have hfrH : Hidden (Fr (fun _ => False) w wr) := hfr
          by_cases hr0 : r = 0
          · subst hr0
            simp only [ne_eq, not_true_eq_false, if_false] at hrw
            rw [hrw] at hgo2
            have hgo2H : Hidden (nextR f p j k (roundE (notesS (L.set k (some (true, s))) ws)) = some R) := hgo2
            have hrwH : Hidden (roundS f p L k s = roundE (notesS (L.set k (some (true, s))) ws)) := hrw
            have hinvH : Hidden (InvL n L) := hinv
            have hatH : Hidden (L[k]? = some (some (false, s))) := hat
            have hwyxH : Hidden (∀ x ∈ ws, x.1 < n ∧ OkS x.2) := hwyx
            have b6 := (box8 hwk.box).2.2.2.2.2.2.1
            have cz := st_at hwk.st hat
            have fz := frozen_of_row hwk.st k
            simp only [stN] at cz
            have hslt := lt_of_heap hwk.st
            clear hgo hgo2 hrw hwk hfr hle e0 hinv hat hwyx hoks
            go_upto_region 10 with (first
              | (go_at_call 73; refine kwx.mono ?_; rintro e w1 ⟨v, rfl, f1, hwy⟩))
            replace b6 := f1.cellN b6
            replace cz := f1.cellN cz
            have fz1 := frozen_of_row ((show Fr (fun _ => False) wr w1 from f1).heap (show Wk wr q gs ga n v0 v1 v2 (.slice a3 n c3) v4 v5 L from hwkH).st (fun f => f)) k
            obtain ⟨ao, cap, hv, hcap, hcm, hcells⟩ := Wy.slice hwy
            rw [List.length_map] at hv hcap
            subst hv
            obtain ⟨nW, hnW⟩ : ∃ m, m = ws.length := ⟨_, rfl⟩
            rw [← hnW] at hcap ⊢
            have hnWH : Hidden (nW = ws.length) := hnW
            have hcm' : cap ≤ 9223372036854775807 := by simpa [maxLen] using hcm
            have hsz1 : wr.heap.size ≤ w1.heap.size := f1.size
            have hmk : Wk (w1.setCell ⟨gs, k, none⟩ (.int .u8 2)) q gs ga n v0 v1 v2 (.slice a3 n c3) v4 v5 (L.set k (some (true, s))) := Wk.mark ((show Wk wr q gs ga n v0 v1 v2 (.slice a3 n c3) v4 v5 L from hwkH).keepN f1) (k := k) (c := some (false, s)) (d := some (true, s)) hatH rfl
            have hmkH : Hidden (Wk (w1.setCell ⟨gs, k, none⟩ (.int .u8 2)) q gs ga n v0 v1 v2 (.slice a3 n c3) v4 v5 (L.set k (some (true, s)))) := hmk
            have hsl : gs < wr.heap.size := hslt
            have hal : ga < wr.heap.size := lt_of_heap (show Wk wr q gs ga n v0 v1 v2 (.slice a3 n c3) v4 v5 L from hwkH).ah
            have hcellsH : Hidden (ws.map (fun x => ((x.1 : Int), x.2)) = [] ∨ ∃ g, ao = some ⟨g, 0, none⟩ ∧ wr.heap.size ≤ g ∧ ∀ (j : Nat) (x : Int × Sp), (ws.map (fun x => ((x.1 : Int), x.2)))[j]? = some x → w1.cell? ⟨g, j * 4, none⟩ = some (ci x.1) ∧ w1.cell? ⟨g, j * 4 + 1, none⟩ = some (ct (encSt x.2.st)) ∧ w1.cell? ⟨g, j * 4 + 2, none⟩ = some (ct (encTr x.2.tr)) ∧ w1.cell? ⟨g, j * 4 + 3, none⟩ = some (ci (x.2.tr.length : Int))) := hcells
            have f1H : Hidden (Fr (fun _ => False) wr w1) := f1
            have hslH : Hidden (gs < wr.heap.size ∧ ga < wr.heap.size) := ⟨hsl, hal⟩
            clear hmk hcells hwy hnW f1 hcm hsl hal hslt
            go_wp2_with fail
            obtain ⟨wg, hwg⟩ : ∃ W, W = w1.setCell ⟨gs, k, none⟩ (.int .u8 2) := ⟨_, rfl⟩
            rw [← hwg] at hmkH ⊢
            have fwg : Fr (fun b => b = gs ∨ b = ga) w1 wg := by rw [hwg]; exact (Fr.setCell w1 ⟨gs, k, none⟩ _).mono (fun b _ e => Or.inl e)
            have fwgH : Hidden (Fr (fun b => b = gs ∨ b = ga) w1 wg) := fwg
            clear hwg fwg cz fz fz1 b6
            have ok0 : Hidden (∀ (j : Nat) g x, (L.set k (some (true, s)))[j]? = some (some (g, x)) → OkS x) := by
              intro i g x hx
              rw [List.getElem?_set] at hx
              split at hx
              · split at hx
                · cases hx; exact (show InvL n L from hinvH).ok _ _ _ (show L[k]? = _ from hatH)
                · cases hx
              · exact (show InvL n L from hinvH).ok _ _ _ hx
            obtain ⟨Wo, hWo⟩ : ∃ W, W = wr := ⟨wr, rfl⟩
            rw [← hWo] at hcellsH f1H hslH hwkH hfrH hsz1
            clear kwx
            go_loopg [9, 53] nW (fun m ev iv w2 => ev = ci 0 ∧ ∃ (i : Nat) (Li : Cs), iv = .int .i64 (i : Int) ∧ i ≤ nW ∧ m = nW - i ∧ Wk w2 q gs ga n v0 v1 v2 (.slice a3 n c3) v4 v5 Li ∧ notesS Li (ws.drop i) = notesS (L.set k (some (true, s))) ws ∧ Fr (fun b => b = gs ∨ b = ga) w1 w2 ∧ (∀ (j : Nat) g x, Li[j]? = some (some (g, x)) → OkS x))
            case atStart => exact ⟨rfl, 0, _, rfl, by omega, rfl, hmkH, rfl, fwgH, ok0⟩
            case round =>
              obtain ⟨rfl, i, Li, rfl, hi, hm, hwi, hno, hf2, hoi⟩ := hrel
              have hwiH : Hidden (Wk wr q gs ga n v0 v1 v2 (.slice a3 n c3) v4 v5 Li) := hwi
              have hf2H : Hidden (Fr (fun b => b = gs ∨ b = ga) w1 wr) := hf2
              have hoiH : Hidden (∀ (j : Nat) g x, Li[j]? = some (some (g, x)) → OkS x) := hoi
              have hfw : Hidden (Fr (fun _ => False) w wr) := ((show Fr (fun _ => False) w Wo from hfrH).same f1H).over hf2 (fun b e => by rcases e with e | e <;> (subst e; assumption))
              have hmH : Hidden (gk = nW - i) := hm
              by_cases hin : i = nW
              · have hdn : ws.drop i = [] := by rw [hin, show nW = ws.length from hnWH]; exact List.drop_length
                rw [hdn] at hno
                have hno' : notesS (L.set k (some (true, s))) ws = some Li := hno.symm
                have hro : roundS f p L k s = .ok Li := by rw [show roundS f p L k s = _ from hrwH, hno']; rfl
                have hgoj : Hidden (goS f p j Li = some R) := by
                  have := (show nextR f p j k (roundE (notesS (L.set k (some (true, s))) ws)) = some R from hgo2H)
                  rw [hno'] at this
                  exact this
                have hinvj : Hidden (InvL n Li) := hstep (show InvL n L from hinvH) (show L[k]? = _ from hatH) hro
                have kl := least_any q gs ga n v0 v1 v2 (.slice a3 n c3) v4 v5 Li wr hwi
                subst hin
                clear hwi hf2 hoi hdn hno hno' hro hm
                go_wp2_with (first
                  | (go_at_call 72; refine kl.mono ?_; rintro e wl ⟨rfl, rfl⟩))
                go_roundg j
                case measure => omega
                case rel => exact ⟨Li, rfl, rfl, hwiH, hinvj, hgoj, hfw⟩
              · obtain ⟨x, hx⟩ : ∃ x, ws[i]? = some x := ⟨_, List.getElem?_eq_getElem (by have : nW = ws.length := hnWH; omega)⟩
                obtain ⟨a, s2⟩ := x
                have hin' : i < nW := by omega
                have hdr := drop_at hx
                have hxm := (show ∀ x ∈ ws, x.1 < n ∧ OkS x.2 from hwyxH) _ (List.mem_of_getElem? hx)
                have hlm : (ws.map (fun x => ((x.1 : Int), x.2)))[i]? = some ((a : Int), s2) := by rw [List.getElem?_map, hx]; rfl
                rcases (show _ ∨ _ from hcellsH) with h0 | ⟨g, hao, hg, hcel⟩
                · rw [h0] at hlm; simp at hlm
                obtain ⟨y0, y1, y2, y3⟩ := hcel i _ hlm
                simp only [] at y0 y1 y2 y3
                have hgn : ¬ (g = gs ∨ g = ga) := by
                  have h1 : gs < Wo.heap.size ∧ ga < Wo.heap.size := hslH
                  omega
                replace y0 := hf2.cell y0 hgn
                replace y1 := hf2.cell y1 hgn
                replace y2 := hf2.cell y2 hgn
                replace y3 := hf2.cell y3 hgn
                have kn := note_any q gs ga n a v0 v1 v2 (.slice a3 n c3) v4 v5 Li s2 (wr.alloc (.cells #[ci (a : Int), ct (encSt s2.st), ct (encTr s2.tr), ci (s2.tr.length : Int)] 150 (0, 0))) (hwi.keepN (Fr.alloc _ _ _)) hxm.1 hoi hxm.2 (by omega)
                rw [hdr] at hno
                subst hao
                cases hns : noteS Li a s2 with
                | none =>
                  rw [hns] at kn
                  have hnn : notesS (L.set k (some (true, s))) ws = none := by rw [← hno]; show (match noteS Li a s2 with | none => none | some L' => notesS L' (ws.drop (i + 1))) = none; rw [hns]
                  have eR : Hidden (R = .er k 22) := by
                    have := (show nextR f p j k (roundE (notesS (L.set k (some (true, s))) ws)) = some R from hgo2H)
                    rw [hnn] at this
                    exact (Option.some.inj this).symm
                  simp only [Option.isSome_none] at kn
                  generalize encSt s2.st = x1 at *
                  generalize encTr s2.tr = x2 at *
                  generalize (s2.tr.length : Int) = x3 at *
                  clear hwi hf2 hoi hdr hno hnn hns hcel hlm hx hxm hm hgn hg
                  go_wp2_with (first
                    | (go_at_call 74; refine kn.mono ?_; rintro e w5 ⟨rfl, f5, _⟩))
                  rw [Exit.noGoto_ret]
                  refine ⟨rfl, _, results_tmp3 rfl _ _ _, ?_⟩
                  rw [show R = .er k 22 from eR]
                  exact ⟨_, rfl, ((show Fr (fun _ => False) w wr from hfw).same (Fr.alloc _ _ _)).over f5 (fun b e => by rcases e with e | e <;> (subst e; assumption)), fun L' e => by cases e⟩
                | some L2 =>
                  rw [hns] at kn
                  have hnn : Hidden (notesS L2 (ws.drop (i + 1)) = notesS (L.set k (some (true, s))) ws) := by show _ = _; rw [← hno]; show _ = (match noteS Li a s2 with | none => none | some L' => notesS L' (ws.drop (i + 1))); rw [hns]
                  have ho2 : Hidden (∀ (j : Nat) g x, L2[j]? = some (some (g, x)) → OkS x) := note_oks hns hoi hxm.2
                  simp only [Option.isSome_some] at kn
                  generalize encSt s2.st = x1 at *
                  generalize encTr s2.tr = x2 at *
                  generalize (s2.tr.length : Int) = x3 at *
                  clear hwi hf2 hoi hdr hno hns hcel hlm hx hxm hm hgn hg
                  go_wp2_with (first
                    | (go_at_call 74; refine kn.mono ?_; rintro e w5 ⟨rfl, f5, hw5⟩))
                  go_roundg (nW - (i + 1))
                  case measure => have : gk = nW - i := hmH; omega
                  case rel => exact ⟨rfl, i + 1, L2, by go_num, by omega, rfl, hw5 L2 rfl, hnn, ((show Fr (fun b => b = gs ∨ b = ga) w1 wr from hf2H).same (Fr.alloc _ _ _)).same f5, ho2⟩
          · have hrb : (r == 0) = false := by simp [hr0]
            have eR : R = .er k r := by
              rw [if_pos hr0] at hrw
              rw [hrw] at hgo2
              exact (Option.some.inj hgo2).symm
            have eRH : Hidden (R = .er k r) := eR
            clear hgo hgo2 hrw eR hwk hfr hinv hat hle hwyx hoks e0 hr0
            go_wp2_with (first
              | (go_at_call 73; refine kwx.mono ?_; rintro e w1 ⟨v, rfl, f1, hwy⟩))
            rw [Exit.noGoto_ret]
            refine ⟨rfl, _, results_tmp3 rfl _ _ _, ?_⟩
            rw [show R = .er k r from eRH]
            exact ⟨_, rfl, (show Fr (fun _ => False) w wr from hfrH).same f1, fun L' e => by cases e⟩
end Go.Proofs.YtoiglopilpoafaaGreatDoor.Cd
