/- spoil and made. -/
import Derived.Test.YtajefmmggefbeaaDgW8
import Derived.Test.YtajefmmggefbeaaDgX
namespace Go.Proofs.Ytajefmmggefbeaa.Dg
open Go.RowKit Go.Sort
set_option linter.unusedSimpArgs false
set_option linter.unusedVariables false

theorem isSome_set {w : World} {a b : Addr} {v : Value} (h : (w.cell? a).isSome = true) : ((w.setCell b v).cell? a).isSome = true := by
  by_cases e : a = b
  · subst e
    rw [World.cell?_setCell_same' w _ _ h]
    rfl
  · rw [World.cell?_setCell_other w b a v (fun q => e q.symm)]
    exact h
/-- Cells that may be written. -/
def Cw (w : World) (b n : Nat) : Prop := ∀ k, k < n → (w.cell? ⟨b, k, none⟩).isSome = true ∧ w.frozen? ⟨b, k, none⟩ = false
theorem Cw.set {w : World} {b n : Nat} (h : Cw w b n) (a : Addr) (u : Value) : Cw (w.setCell a u) b n := fun k hk => by
  obtain ⟨h1, h2⟩ := h k hk
  exact ⟨isSome_set h1, by simpa using h2⟩
theorem row_cw {w : World} {B : Nat} {e : TypeId} {sz n : Nat} {v : Value} {xs : List Value} (h : w.ownsRow B e sz v n xs) : (v = .slice none 0 0 ∧ n = 0) ∨ ∃ b cap, v = .slice (some ⟨b, 0, none⟩) n cap ∧ n ≤ cap ∧ cap ≤ maxLen ∧ Cw w b (n * sz) ∧ B ≤ b ∧ b < w.heap.size := by
  rcases h.2 with ⟨rfl, h0⟩ | ⟨g, cap, cur, rfl, hb, hg, hnc, hcm, hcs, ht⟩
  · exact Or.inl ⟨rfl, h0⟩
  · refine Or.inr ⟨g, cap, rfl, hnc, hcm, fun k hk => ⟨?_, ?_⟩, hb, lt_of_heap hg⟩
    · rw [cell_of_row w g k cur e (0, 0) hg]
      have h1 : k < cur.size := by
        rw [hcs]
        exact Nat.lt_of_lt_of_le hk (Nat.mul_le_mul_right _ hnc)
      simp [h1]
    · unfold World.frozen?
      rw [hg]
      simp
set_option maxHeartbeats 1000000 in
theorem spoil_walk (b n cap : Nat) (w : World) (h1 : n ≤ cap) (h2 : cap ≤ 9223372036854775807) (h : Hidden (Cw w b n)) :
    Calls Try.prog 19 #[.slice (some ⟨b, 0, none⟩) n cap] w fun e w' => e = .returned (.tuple #[]) ∧ Fr (fun k => k = b) w w' := by
  go_enter Try.func19, Try.ntmps19
  go_wp2
  go_loopg [2] n (fun q iv wr => ∃ j : Nat, iv = .int .i64 (j : Int) ∧ j ≤ n ∧ q = n - j ∧ Cw wr b n ∧ Fr (fun k => k = b) w wr)
  case atStart => exact ⟨0, rfl, by omega, rfl, h, Fr.refl _ _⟩
  case round =>
    obtain ⟨j, rfl, hj, hk, hc, hf⟩ := hrel
    have hkH : Hidden (gk = n - j) := hk
    have hcH : Hidden (Cw wr b n) := hc
    have hfH : Hidden (Fr (fun k => k = b) w wr) := hf
    clear hk hf
    by_cases hjl : j < n
    · obtain ⟨c1, c2⟩ := hc j hjl
      obtain ⟨u, hu⟩ := Option.isSome_iff_exists.1 c1
      clear c1 hc
      go_wp2
      go_roundg (n - (j + 1))
      case measure => have := (show gk = n - j from hkH); omega
      case rel => exact ⟨j + 1, by go_num, by omega, rfl, Cw.set hcH _ _, Fr.same hfH ((Fr.setCell wr ⟨b, j, none⟩ _).mono fun k _ e => e)⟩
    · obtain rfl : j = n := by omega
      clear hc
      go_wp2
      go_end0
      exact ⟨rfl, hfH⟩
theorem spoil_nil (w : World) : Calls Try.prog 19 #[.slice none 0 0] w fun e w' => e = .returned (.tuple #[]) ∧ w' = w := by
  go_enter Try.func19, Try.ntmps19
  go_wp2
  go_loopg [2] 0 (fun q iv wr => iv = .int .i64 0 ∧ wr = w)
  case atStart => exact ⟨rfl, rfl⟩
  case round =>
    obtain ⟨rfl, rfl⟩ := hrel
    go_wp2
    go_end0
    exact ⟨rfl, rfl⟩
theorem spoil_any (v : Value) (l : List Str) (B : Nat) (w : World) (h : To w B v l) : Calls Try.prog 19 #[v] w fun e w' => e = .returned (.tuple #[]) ∧ Fr (fun k => v.ownBlock = some k) w w' := by
  rcases row_cw h with ⟨rfl, _⟩ | ⟨b, cap, rfl, h1, h2, h3, _, _⟩
  · refine (spoil_nil w).mono ?_
    rintro e w' ⟨rfl, rfl⟩
    exact ⟨rfl, Fr.refl _ _⟩
  · rw [Nat.mul_one] at h3
    refine (spoil_walk b _ cap w h1 (by unfold maxLen at h2; omega) h3).mono ?_
    rintro e w' ⟨rfl, hf⟩
    exact ⟨rfl, hf.mono fun k _ e => by rw [e]; rfl⟩
/-- The nodes of the law's own, as far as they may be spoilt. -/
def Mn (w : World) (B B' bm n : Nat) : Prop := B ≤ bm ∧ bm < B' ∧ Cw w bm (n * 2) ∧ ∀ i, i < n → ∃ aoi ni capi, w.cell? ⟨bm, i * 2 + 1, none⟩ = some (.slice aoi ni capi) ∧ ni ≤ capi ∧ capi ≤ 9223372036854775807 ∧ (ni = 0 ∨ ∃ bi, aoi = some ⟨bi, 0, none⟩ ∧ bi ≠ bm ∧ B ≤ bi ∧ bi < B' ∧ Cw w bi ni)
theorem Mn.set {w : World} {B B' bm n : Nat} (h : Mn w B B' bm n) (a : Addr) (u : Value) (ha : ∀ j, a ≠ ⟨bm, j * 2 + 1, none⟩) : Mn (w.setCell a u) B B' bm n := by
  obtain ⟨h1, h2, h3, h4⟩ := h
  refine ⟨h1, h2, h3.set a u, fun i hi => ?_⟩
  obtain ⟨aoi, ni, capi, k1, k2, k3, k4⟩ := h4 i hi
  refine ⟨aoi, ni, capi, ?_, k2, k3, ?_⟩
  · rw [World.cell?_setCell_other w a ⟨bm, i * 2 + 1, none⟩ u (fun q => ha i q)]
    exact k1
  · rcases k4 with k4 | ⟨bi, q1, q2, q3, q4, q5⟩
    · exact Or.inl k4
    · exact Or.inr ⟨bi, q1, q2, q3, q4, q5.set a u⟩
theorem OwN.mn {w : World} {B : Nat} {ao : Option Addr} {n cap : Nat} {xs : List (Str × Value)} {nl : List Nd} (h : OwN w B (.slice ao n cap) xs nl) : nl.length = 0 ∨ ∃ bm, ao = some ⟨bm, 0, none⟩ ∧ Mn w B w.heap.size bm nl.length := by
  have hl := h.len
  obtain ⟨ao', cap', e, h1, h2, h3⟩ := h.row.slice
  cases e
  obtain ⟨cells, hr, hch⟩ := h.row
  rcases row_cw hr with ⟨_, h0⟩ | ⟨b, cap2, e2, _, _, hcw, hB, hb⟩
  · left; omega
  · cases e2
    right
    refine ⟨b, rfl, hB, hb, by rw [← hl]; exact hcw, fun i hi => ?_⟩
    rcases h3 with h3 | ⟨g, hg, hc⟩
    · subst h3; simp at hl; omega
    · cases hg
      obtain ⟨x, hx⟩ : ∃ x, xs[i]? = some x := ⟨xs[i]'(by omega), List.getElem?_eq_getElem _⟩
      obtain ⟨m, hm⟩ : ∃ m, nl[i]? = some m := ⟨nl[i]'(by omega), List.getElem?_eq_getElem _⟩
      obtain ⟨k1, k2, k3⟩ := h.each i x m hx hm
      obtain ⟨c, ⟨rfl, _⟩, _, hcc⟩ := hc i x hx
      have hc1 := hcc 1 _ rfl
      rcases row_cw k2 with ⟨e3, e4⟩ | ⟨bi, capi, e3, q1, q2, q3, q4, q5⟩
      · refine ⟨none, 0, 0, ?_, by omega, by omega, Or.inl rfl⟩
        rw [e3] at hc1
        simpa using hc1
      · refine ⟨some ⟨bi, 0, none⟩, m.2.length, capi, ?_, q1, by unfold maxLen at q2; omega, Or.inr ⟨bi, rfl, fun e => ?_, q4, q5, by rw [Nat.mul_one] at q3; exact q3⟩⟩
        · rw [e3] at hc1
          simpa using hc1
        · subst e
          refine k3 bi (by rw [e3]; rfl) rfl
/-- What made answers. -/
def MadeR (nl : List Nd) (e : Ending) (w' : World) : Prop :=
  (newE nl ≠ 0 ∧ e = .returned (.tuple #[.pointer none, .pointer none, .bool true])) ∨ (newE nl = 0 ∧ ∃ B1 B2, e = .returned (.tuple #[.pointer (some ⟨B1, 0, none⟩), .pointer (some ⟨B2, 0, none⟩), .bool true]) ∧ Gp w' (.pointer (some ⟨B1, 0, none⟩)) (gOf nl) ∧ Rg w' (.pointer (some ⟨B2, 0, none⟩)) (gOf nl))
/-- Both graphs, where there are some. -/
def BothG (nl : List Nd) (gv tv : Value) (E : Int) (W : World) : Prop :=
  (E = newE nl) ∧ ((E ≠ 0 ∧ gv = .pointer none ∧ tv = .pointer none) ∨ (E = 0 ∧ ∃ B1 B2, gv = .pointer (some ⟨B1, 0, none⟩) ∧ tv = .pointer (some ⟨B2, 0, none⟩) ∧ Gp W gv (gOf nl) ∧ Rg W tv (gOf nl)))
set_option maxRecDepth 20000 in
set_option maxHeartbeats 8000000 in
theorem made_any (ao : Option Addr) (cap : Nat) (nl : List Nd) (w : World) (hm : NL w (.slice ao nl.length cap) nl) (hok : ∀ n ∈ nl, OkN n.1 ∧ ∀ x ∈ n.2, OkN x) (hsz : nl.length * 40 ≤ 140737488355328 ∧ ∀ n ∈ nl, n.2.length * 16 ≤ 140737488355328) :
    Calls Try.prog 5 #[.slice ao nl.length cap] w fun e w' => MadeR nl e w' ∧ Fr (fun _ => False) w w' := by
  have ko := own_any ao cap nl w hm hsz.1 hsz.2
  have hokH : Hidden (∀ n ∈ nl, OkN n.1 ∧ ∀ x ∈ n.2, OkN x) := hok
  have hmH : Hidden (NL w (.slice ao nl.length cap) nl) := hm
  have hcap : nl.length ≤ cap ∧ cap ≤ 9223372036854775807 := by obtain ⟨_, _, e, q1, q2, _⟩ := hm; cases e; exact ⟨q1, q2⟩
  obtain ⟨hc1, hc2⟩ := hcap
  clear hm hok hsz
  go_enter Try.func5, Try.ntmps5
  go_wp2_with fail
  refine ko.mono ?_
  rintro e w1 ⟨ao1, cap1, xs, rfl, o1, f1⟩
  have f1H : Hidden (Fr (fun _ => False) w w1) := f1
  have o1H : Hidden (OwN w1 w.heap.size (.slice ao1 nl.length cap1) xs nl) := o1
  have kn := new_any ao1 cap1 nl w1 o1.nl hokH
  have hcap1 : nl.length ≤ cap1 ∧ cap1 ≤ 9223372036854775807 := by obtain ⟨_, _, e, q1, q2, _⟩ := o1.nl; cases e; exact ⟨q1, q2⟩
  obtain ⟨hd1, hd2⟩ := hcap1
  clear ko o1 f1
  go_wp2_with fail
  refine kn.mono ?_
  rintro e w2 ⟨hR, f2⟩
  have f2H : Hidden (Fr (fun _ => False) w1 w2) := f2
  have kr := rnew_any ao cap nl w2 (NL.later hmH (Fr.same f1H f2)) hokH
  have hRg : Hidden (∃ gv, e = .returned (.tuple #[gv, .int .i64 (newE nl)]) ∧ ((newE nl ≠ 0 ∧ gv = .pointer none) ∨ (newE nl = 0 ∧ ∃ B, gv = .pointer (some ⟨B, 0, none⟩) ∧ ∀ W, Fr (fun k => k < w1.heap.size) w2 W → Gp W gv (gOf nl)))) := by
    rcases hR with ⟨hE, rfl⟩ | ⟨hE, B, rfl, hG⟩
    · exact ⟨_, rfl, Or.inl ⟨hE, rfl⟩⟩
    · exact ⟨_, by rw [hE], Or.inr ⟨hE, B, rfl, hG⟩⟩
  obtain ⟨gv, rfl, hgv⟩ := (show ∃ gv, _ from hRg)
  have hgvH : Hidden ((newE nl ≠ 0 ∧ gv = .pointer none) ∨ (newE nl = 0 ∧ ∃ B, gv = .pointer (some ⟨B, 0, none⟩) ∧ ∀ W, Fr (fun k => k < w1.heap.size) w2 W → Gp W gv (gOf nl))) := hgv
  obtain ⟨E, hE⟩ : ∃ E, E = newE nl := ⟨_, rfl⟩
  have hEH : Hidden (E = newE nl) := hE
  rw [← hE]
  clear kn f2 hR hRg hgv hE
  go_wp2_with fail
  refine kr.mono ?_
  rintro e w3 ⟨hR, f3⟩
  have f3H : Hidden (Fr (fun _ => False) w2 w3) := f3
  have hRt : ∃ tv, e = .returned (.tuple #[tv, .int .i64 (newE nl)]) ∧ ((newE nl ≠ 0 ∧ tv = .pointer none) ∨ (newE nl = 0 ∧ ∃ B, tv = .pointer (some ⟨B, 0, none⟩) ∧ ∀ W, Fr (fun k => k < w2.heap.size) w3 W → Rg W tv (gOf nl))) := by
    rcases hR with ⟨hE, rfl⟩ | ⟨hE, B, rfl, hG⟩
    · exact ⟨_, rfl, Or.inl ⟨hE, rfl⟩⟩
    · exact ⟨_, by rw [hE], Or.inr ⟨hE, B, rfl, hG⟩⟩
  obtain ⟨tv, rfl, htv⟩ := hRt
  rw [← (show E = newE nl from hEH)]
  have hb12 : w1.heap.size ≤ w2.heap.size := (show Fr (fun _ => False) w1 w2 from f2H).size
  have both : Hidden (∀ W, Fr (fun k => w.heap.size ≤ k ∧ k < w1.heap.size) w3 W → BothG nl gv tv E W) := by
    intro W hW
    refine ⟨hEH, ?_⟩
    have hEq : E = newE nl := hEH
    rcases (show _ ∨ _ from hgvH) with ⟨q1, q2⟩ | ⟨q1, B1, q2, q3⟩
    · rcases htv with ⟨r1, r2⟩ | ⟨r1, _⟩
      · exact Or.inl ⟨by rw [hEq]; exact q1, q2, r2⟩
      · exact absurd r1 q1
    · rcases htv with ⟨r1, _⟩ | ⟨_, B2, r2, r3⟩
      · exact absurd q1 r1
      · refine Or.inr ⟨by rw [hEq]; exact q1, B1, B2, q2, r2, q3 W ?_, r3 W ?_⟩
        · exact (f3.mono fun _ _ f => f.elim).same (hW.mono fun k _ h => h.2)
        · exact hW.mono fun k _ h => Nat.lt_of_lt_of_le h.2 hb12
  have mn3 : Hidden (nl.length = 0 ∨ ∃ bm, ao1 = some ⟨bm, 0, none⟩ ∧ Mn w3 w.heap.size w1.heap.size bm nl.length) := by
    rcases OwN.mn (show OwN w1 w.heap.size (.slice ao1 nl.length cap1) xs nl from o1H) with k | ⟨bm, k1, k2⟩
    · exact Or.inl k
    · refine Or.inr ⟨bm, k1, ?_⟩
      have f13 : Fr (fun _ => False) w1 w3 := Fr.same f2H f3
      have cwk : ∀ b n, b < w1.heap.size → Cw w1 b n → Cw w3 b n := fun b n hb h q hq => by
        obtain ⟨c1, c2⟩ := h q hq
        have hbk := f13.block b hb (fun f => f)
        refine ⟨?_, ?_⟩
        · rw [World.cell?_of_block (w := w1) hbk]; exact c1
        · rw [World.frozen?_of_block (w := w1) hbk]; exact c2
      obtain ⟨m1, m2, m3, m4⟩ := k2
      refine ⟨m1, m2, cwk _ _ m2 m3, fun i hi => ?_⟩
      obtain ⟨aoi, ni, capi, q1, q2, q3, q4⟩ := m4 i hi
      refine ⟨aoi, ni, capi, f13.cellN q1, q2, q3, ?_⟩
      rcases q4 with q4 | ⟨bi, r1, r2, r3, r4, r5⟩
      · exact Or.inl q4
      · exact Or.inr ⟨bi, r1, r2, r3, r4, cwk _ _ r4 r5⟩
  have fw3 : Hidden (Fr (fun _ => False) w w3) := Fr.same f1H (Fr.same f2H f3)
  clear kr f3 hR htv hb12
  go_wp2_with fail
  go_loopg [10] nl.length (fun q iv wr => ∃ j : Nat, iv = .int .i64 (j : Int) ∧ j ≤ nl.length ∧ q = nl.length - j ∧ (nl.length = 0 ∨ ∃ bm, ao1 = some ⟨bm, 0, none⟩ ∧ Mn wr w.heap.size w1.heap.size bm nl.length) ∧ Fr (fun k => w.heap.size ≤ k ∧ k < w1.heap.size) w3 wr)
  case atStart => exact ⟨0, rfl, by omega, rfl, mn3, Fr.refl _ _⟩
  case round =>
    obtain ⟨j, rfl, hj, hq, hmn, hf⟩ := hrel
    have hqH : Hidden (gk = nl.length - j) := hq
    have hfH : Hidden (Fr (fun k => w.heap.size ≤ k ∧ k < w1.heap.size) w3 wr) := hf
    clear hq hf mn3
    by_cases hjl : j < nl.length
    · rcases hmn with h0 | ⟨bm, rfl, hmn⟩
      · omega
      have hmnH : Hidden (Mn wr w.heap.size w1.heap.size bm nl.length) := hmn
      obtain ⟨m1, m2, m3, m4⟩ := hmn
      obtain ⟨c1, c2⟩ := m3 (j * 2) (by omega)
      obtain ⟨u, hu⟩ := Option.isSome_iff_exists.1 c1
      have mn1 : Hidden (Mn (wr.setCell ⟨bm, j * 2, none⟩ (ct [115, 112, 111, 105, 108, 116])) w.heap.size w1.heap.size bm nl.length) := Mn.set hmnH _ _ (fun q e => by have := congrArg Addr.off e; simp only at this; omega)
      have fr1 : Hidden (Fr (fun k => w.heap.size ≤ k ∧ k < w1.heap.size) w3 (wr.setCell ⟨bm, j * 2, none⟩ (ct [115, 112, 111, 105, 108, 116]))) := Fr.same hfH ((Fr.setCell wr ⟨bm, j * 2, none⟩ _).mono fun k _ e => by rw [e]; exact ⟨m1, m2⟩)
      obtain ⟨gko, hgko⟩ : ∃ gko, gko = gk := ⟨gk, rfl⟩
      subst hgko
      clear c1 m1 m2 m3 m4 hmnH
      go_wp2_with fail
      obtain ⟨V, hV⟩ : ∃ V, V = wr.setCell ⟨bm, j * 2, none⟩ (ct [115, 112, 111, 105, 108, 116]) := ⟨_, rfl⟩
      rw [← hV] at mn1 fr1 ⊢
      obtain ⟨aoi, ni, capi, ci1, ci2, ci3, ci4⟩ := (show Mn V w.heap.size w1.heap.size bm nl.length from mn1).2.2.2 j hjl
      have ci4H : Hidden (ni = 0 ∨ ∃ bi, aoi = some ⟨bi, 0, none⟩ ∧ bi ≠ bm ∧ w.heap.size ≤ bi ∧ bi < w1.heap.size ∧ Cw V bi ni) := ci4
      have ciH : Hidden (V.cell? ⟨bm, j * 2 + 1, none⟩ = some (.slice aoi ni capi)) := ci1
      clear hu c2 hV ci4 ci1
      go_loopg [11] ni (fun q iv wr' => ∃ k : Nat, iv = .int .i64 (k : Int) ∧ k ≤ ni ∧ q = ni - k ∧ Mn wr' w.heap.size w1.heap.size bm nl.length ∧ wr'.cell? ⟨bm, j * 2 + 1, none⟩ = some (.slice aoi ni capi) ∧ (ni = 0 ∨ ∃ bi, aoi = some ⟨bi, 0, none⟩ ∧ bi ≠ bm ∧ w.heap.size ≤ bi ∧ bi < w1.heap.size ∧ Cw wr' bi ni) ∧ Fr (fun k => w.heap.size ≤ k ∧ k < w1.heap.size) w3 wr')
      case atStart => exact ⟨0, rfl, by omega, rfl, mn1, ciH, ci4H, fr1⟩
      case round =>
        obtain ⟨k, rfl, hk, hq2, hmn2, hcell, hcw, hf2⟩ := hrel
        have hqH2 : Hidden (gk = ni - k) := hq2
        have hmnH2 : Hidden (Mn wr w.heap.size w1.heap.size bm nl.length) := hmn2
        have hfH2 : Hidden (Fr (fun k => w.heap.size ≤ k ∧ k < w1.heap.size) w3 wr) := hf2
        clear hq2 hf2 hmn2
        by_cases hkl : k < ni
        · rcases hcw with h0 | ⟨bi, rfl, hbi, hB1, hB2, hcw⟩
          · omega
          have hcwH : Hidden (bi ≠ bm ∧ w.heap.size ≤ bi ∧ bi < w1.heap.size ∧ Cw wr bi ni) := ⟨hbi, hB1, hB2, hcw⟩
          obtain ⟨c1, c2⟩ := hcw k hkl
          obtain ⟨u, hu⟩ := Option.isSome_iff_exists.1 c1
          have hcell2 : Hidden ((wr.setCell ⟨bi, k, none⟩ (ct [115, 112, 111, 105, 108, 116])).cell? ⟨bm, j * 2 + 1, none⟩ = some (.slice (some ⟨bi, 0, none⟩) ni capi)) := by
            show _ = _
            rw [World.cell?_setCell_other wr ⟨bi, k, none⟩ ⟨bm, j * 2 + 1, none⟩ _ (fun e => hbi (congrArg Addr.block e))]
            exact hcell
          clear c1 hbi hB1 hB2 hcw
          go_wp2
          go_roundg (ni - (k + 1))
          case measure => have := (show gk = ni - k from hqH2); omega
          case rel =>
            obtain ⟨q1, q2, q3, q4⟩ := (show bi ≠ bm ∧ w.heap.size ≤ bi ∧ bi < w1.heap.size ∧ Cw wr bi ni from hcwH)
            refine ⟨k + 1, by go_num, by omega, rfl, Mn.set hmnH2 _ _ (fun q e => q1 (congrArg Addr.block e)), hcell2, Or.inr ⟨bi, rfl, q1, q2, q3, q4.set _ _⟩, Fr.same hfH2 ((Fr.setCell wr ⟨bi, k, none⟩ _).mono fun k _ e => by rw [e]; exact ⟨q2, q3⟩)⟩
        · obtain rfl : k = ni := by omega
          clear hcw
          go_wp2
          go_roundg (nl.length - (j + 1))
          case measure => have := (show gko = nl.length - j from hqH); omega
          case rel => exact ⟨j + 1, by go_num, by omega, rfl, Or.inr ⟨bm, rfl, hmnH2⟩, hfH2⟩
    · obtain rfl : j = nl.length := by omega
      have bg := (show ∀ W, _ → BothG nl gv tv E W from both) wr hfH
      have fin : Hidden (Fr (fun _ => False) w wr) := Fr.over fw3 hfH (fun k hk => hk.1)
      have ka := alive_any wr
      clear hmn
      obtain ⟨hEq, hcase⟩ := bg
      rcases hcase with ⟨hE0, rfl, rfl⟩ | ⟨hE0, B1, B2, rfl, rfl, hG, hT⟩
      · have hE0H : Hidden (newE nl ≠ 0) := by show _ ≠ _; rw [← hEq]; exact hE0
        clear hEq hE0
        go_wp2_with (go_at_call 29; refine ka.mono ?_; rintro e w9 ⟨rfl, f9⟩; have f9H : Hidden (Fr (fun _ => False) w w9) := Fr.same fin f9; clear f9)
        go_ret3
        exact ⟨Or.inl ⟨hE0H, rfl⟩, f9H⟩
      · have hE0H : Hidden (newE nl = 0) := by show _ = _; rw [← hEq]; exact hE0
        have hGH : Hidden (Gp wr (.pointer (some ⟨B1, 0, none⟩)) (gOf nl)) := hG
        have hTH : Hidden (Rg wr (.pointer (some ⟨B2, 0, none⟩)) (gOf nl)) := hT
        clear hEq hG hT
        subst hE0
        go_wp2_with (go_at_call 29; refine ka.mono ?_; rintro e w9 ⟨rfl, f9⟩; have f9H : Hidden (Fr (fun _ => False) wr w9) := f9; clear f9)
        go_ret3
        exact ⟨Or.inr ⟨hE0H, B1, B2, rfl, Gp.later hGH f9H, Rg.later hTH f9H⟩, Fr.same fin f9H⟩
end Go.Proofs.Ytajefmmggefbeaa.Dg
