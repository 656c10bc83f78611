/- DepgraphShuffled. -/
import Derived.Test.YtdnghklfeldbpaaDgQ
import Derived.Test.YtdnghklfeldbpaaDgY1
namespace Go.Proofs.Ytdnghklfeldbpaa.depgraphShuffled
open Go.RowKit Go.Sort Dg
set_option linter.unusedSimpArgs false
set_option linter.unusedVariables false
set_option maxRecDepth 20000 in
set_option maxHeartbeats 4000000 in
theorem no (ao : Option Addr) (cap : Nat) (nl : List Nd) (i k : Int) (w : World) (hm : NL w (.slice ao nl.length cap) nl)
    (hno : i < 0 ∨ k < 0 ∨ (nl.length : Int) ≤ i ∨ (nl.length : Int) ≤ k ∨ ∃ (j : Nat) (x : Nd), i = (j : Int) ∧ nl[j]? = some x ∧ 16 ≤ x.2.length) :
    Calls Try.prog 8 #[.slice ao nl.length cap, .int .i64 i, .int .i64 k] w fun e w' => e = .returned (.bool true) ∧ Fr (fun _ => False) w w' := by
  have hcap : nl.length ≤ cap ∧ cap ≤ 9223372036854775807 := by obtain ⟨_, _, e, q1, q2, _⟩ := id hm; cases e; exact ⟨q1, q2⟩
  obtain ⟨hc1, hc2⟩ := hcap
  have ka := fun W => alive_any W
  by_cases h1 : i < 0
  · clear hno hm
    go_enter Try.func8, Try.ntmps8
    go_wp2_with fail
    refine (ka _).mono ?_
    rintro e w1 ⟨rfl, f1⟩
    have f1H : Hidden (Fr (fun _ => False) w w1) := f1
    clear f1 ka
    go_wp2
    go_ret
    exact ⟨rfl, f1H⟩
  by_cases h2 : k < 0
  · clear hno hm
    go_enter Try.func8, Try.ntmps8
    go_wp2_with fail
    refine (ka _).mono ?_
    rintro e w1 ⟨rfl, f1⟩
    have f1H : Hidden (Fr (fun _ => False) w w1) := f1
    clear f1 ka
    go_wp2
    go_ret
    exact ⟨rfl, f1H⟩
  by_cases h3 : (nl.length : Int) ≤ i
  · clear hno hm
    go_enter Try.func8, Try.ntmps8
    go_wp2_with fail
    refine (ka _).mono ?_
    rintro e w1 ⟨rfl, f1⟩
    have f1H : Hidden (Fr (fun _ => False) w w1) := f1
    clear f1 ka
    go_wp2
    go_ret
    exact ⟨rfl, f1H⟩
  by_cases h4 : (nl.length : Int) ≤ k
  · clear hno hm
    go_enter Try.func8, Try.ntmps8
    go_wp2_with fail
    refine (ka _).mono ?_
    rintro e w1 ⟨rfl, f1⟩
    have f1H : Hidden (Fr (fun _ => False) w w1) := f1
    clear f1 ka
    go_wp2
    go_ret
    exact ⟨rfl, f1H⟩
  rcases hno with h | h | h | h | ⟨j, x, rfl, hx, hl⟩
  · exact absurd h h1
  · exact absurd h h2
  · exact absurd h h3
  · exact absurd h h4
  · obtain ⟨b, off, aoi, capi, rfl, c1, c2, c3⟩ := NL.at hm hx
    have hl' : (16 : Int) ≤ (x.2.length : Int) := by omega
    have hj : (j : Int) < (nl.length : Int) := by omega
    clear hm hx c3 hl
    generalize x.2.length = xl at *
    go_enter Try.func8, Try.ntmps8
    go_wp2_with fail
    refine (ka _).mono ?_
    rintro e w1 ⟨rfl, f1⟩
    have f1H : Hidden (Fr (fun _ => False) w w1) := f1
    clear f1 ka
    go_wp2
    go_ret
    exact ⟨rfl, f1H⟩
set_option maxRecDepth 20000 in
set_option maxHeartbeats 4000000 in
theorem yes (ao : Option Addr) (cap : Nat) (nl : List Nd) (i k : Nat) (x y : Nd) (w : World) (hm : NL w (.slice ao nl.length cap) nl) (hok : ∀ n ∈ nl, OkN n.1 ∧ ∀ x ∈ n.2, OkN x) (hsz : nl.length * 40 ≤ 140737488355328 ∧ ∀ n ∈ nl, n.2.length * 16 ≤ 140737488355328)
    (hi : nl[i]? = some x) (hk : nl[k]? = some y) (hx : x.2.length < 16) :
    Calls Try.prog 8 #[.slice ao nl.length cap, .int .i64 (i : Int), .int .i64 (k : Int)] w fun e w' => e = .returned (.bool true) ∧ Fr (fun _ => False) w w' := by
  have ko := own_any ao cap nl w hm hsz.1 hsz.2
  have ko2 : ∀ W, Fr (fun _ => False) w W → Calls Try.prog 32 #[.slice ao nl.length cap] W fun e w' => ∃ (ao' : Option Addr) (cap' : Nat) (xs : List (Str × Value)), e = .returned (.slice ao' nl.length cap') ∧ OwN w' W.heap.size (.slice ao' nl.length cap') xs nl ∧ Fr (fun _ => False) W w' := fun W hW => own_any ao cap nl W (hm.later hW) hsz.1 hsz.2
  have hokH : Hidden (∀ n ∈ nl, OkN n.1 ∧ ∀ x ∈ n.2, OkN x) := hok
  obtain ⟨b, off, aoi, capi, rfl, c1, c2, c3⟩ := NL.at hm hi
  have hcap : nl.length ≤ cap ∧ cap ≤ 9223372036854775807 := by obtain ⟨_, _, e, q1, q2, _⟩ := id hm; cases e; exact ⟨q1, q2⟩
  obtain ⟨hc1, hc2⟩ := hcap
  have hil : i < nl.length := (List.getElem?_eq_some_iff.1 hi).1
  have hkl : k < nl.length := (List.getElem?_eq_some_iff.1 hk).1
  have hiH : Hidden (nl[i]? = some x) := hi
  have hkH : Hidden (nl[k]? = some y) := hk
  have hxH : Hidden (x.2.length < 16) := hx
  obtain ⟨nn, hnn⟩ : ∃ n, n = nl.length := ⟨_, rfl⟩
  obtain ⟨xl, hxl⟩ : ∃ n, n = x.2.length := ⟨_, rfl⟩
  rw [← hnn] at ko ko2 hil hkl hc1 ⊢
  rw [← hxl] at c2 hx
  have hnnH : Hidden (nn = nl.length) := hnn
  have hxlH : Hidden (xl = x.2.length) := hxl
  have ko2H : Hidden (∀ W, Fr (fun _ => False) w W → Calls Try.prog 32 #[.slice (some ⟨b, off, none⟩) nn cap] W fun e w' => ∃ (ao' : Option Addr) (cap' : Nat) (xs : List (Str × Value)), e = .returned (.slice ao' nn cap') ∧ OwN w' W.heap.size (.slice ao' nn cap') xs nl ∧ Fr (fun _ => False) W w') := ko2
  have hx' : ¬ (16 : Int) ≤ (xl : Int) := by omega
  have hil' : (i : Int) < (nn : Int) := by omega
  have hkl' : (k : Int) < (nn : Int) := by omega
  clear hm hok hsz hi hk c3 hnn hxl ko2
  go_enter Try.func8, Try.ntmps8
  go_wp2_with fail
  refine ko.mono ?_
  rintro e w1 ⟨ao1, cap1, xs, rfl, o1, f1⟩
  obtain ⟨ao1', cap1', e1, r1, r2, r3⟩ := o1.row.slice
  simp only [Value.slice.injEq] at e1
  obtain ⟨rfl, hxsl, rfl⟩ := e1
  rcases r3 with r3 | ⟨G, rfl, hcell⟩
  · subst r3; simp at hxsl; omega
  obtain ⟨xi, hxi⟩ : ∃ xi, xs[i]? = some xi := ⟨xs[i]'(by omega), List.getElem?_eq_getElem _⟩
  obtain ⟨xk, hxk⟩ : ∃ xk, xs[k]? = some xk := ⟨xs[k]'(by omega), List.getElem?_eq_getElem _⟩
  obtain ⟨ci, ⟨rfl, _⟩, _, hci⟩ := hcell i xi hxi
  obtain ⟨ck, ⟨rfl, _⟩, _, hck⟩ := hcell k xk hxk
  obtain ⟨e1, t1, hneI⟩ := o1.each i xi x hxi hiH
  have hneI : Hidden (∀ q, xi.2.ownBlock = some q → (Value.slice (some ⟨G, 0, none⟩) nn cap1).ownBlock ≠ some q) := hneI
  obtain ⟨e2, t2, _⟩ := o1.each k xk y hxk hkH
  have d1 := hci 0 _ rfl
  have d2 := hci 1 _ rfl
  have d3 := hck 0 _ rfl
  have d4 := hck 1 _ rfl
  rw [Nat.add_zero] at d1 d3
  rw [e1] at d1
  rw [e2] at d3
  have o1H : Hidden (OwN w1 w.heap.size (.slice (some ⟨G, 0, none⟩) nn cap1) xs nl) := o1
  have f1H : Hidden (Fr (fun _ => False) w w1) := f1
  have r1' : nn ≤ cap1 := by omega
  obtain ⟨vi, hvi⟩ : ∃ v, v = xi.2 := ⟨_, rfl⟩
  obtain ⟨vk, hvk⟩ : ∃ v, v = xk.2 := ⟨_, rfl⟩
  rw [← hvi] at d2 t1
  rw [← hvk] at d4 t2
  obtain ⟨aoi1, capi1, rfl, _⟩ := t1.shape
  obtain ⟨aok1, capk1, rfl, _⟩ := t2.shape
  have t1H : Hidden (To w1 w.heap.size (.slice aoi1 x.2.length capi1) x.2) := t1
  have t2H : Hidden (To w1 w.heap.size (.slice aok1 y.2.length capk1) y.2) := t2
  have hviH : Hidden (Value.slice aoi1 x.2.length capi1 = xi.2) := hvi
  have hvkH : Hidden (Value.slice aok1 y.2.length capk1 = xk.2) := hvk
  have hxiH : Hidden (xs[i]? = some xi) := hxi
  have hxkH : Hidden (xs[k]? = some xk) := hxk
  clear hcell hci hck o1 f1 ko t1 t2 hxsl r1 hvi hvk hxi hxk
  have fa : Fr (fun _ => False) w1 (w1.alloc (.cells #[ct x.1, .slice aoi1 x.2.length capi1] 53)) := Fr.alloc _ _ _
  have b1 := fa.cellN d1
  have b2 := fa.cellN d2
  have b3 := fa.cellN d3
  have b4 := fa.cellN d4
  obtain ⟨cells, hrow, _⟩ := (show OwN w1 _ _ xs nl from o1H).row
  obtain ⟨cur, hGc⟩ : ∃ cur, w1.heap[G]? = some (.cells cur 53 (0, 0)) := by
    rcases hrow.2 with ⟨e, _⟩ | ⟨g, cap', cur, e, _, hg, _⟩
    · cases e
    · cases e; exact ⟨cur, hg⟩
  have hGneH : Hidden (w.heap.size ≤ G ∧ G < w1.heap.size) := (show OwN w1 _ _ xs nl from o1H).row.low G rfl
  have hne : w1.heap.size ≠ G := by have := (show w.heap.size ≤ G ∧ G < w1.heap.size from hGneH).2; omega
  have hz : ∀ p, (w1.alloc (.cells #[ct x.1, .slice aoi1 x.2.length capi1] 53)).frozen? ⟨G, p, none⟩ = false := fun p => by
    rw [World.frozen?_of_block (w := w1) (fa.block G (show w.heap.size ≤ G ∧ G < w1.heap.size from hGneH).2 (fun f => f))]
    simp [World.frozen?, hGc]
  have s1 : ((w1.alloc (.cells #[ct x.1, .slice aoi1 x.2.length capi1] 53)).cell? ⟨G, i * 2, none⟩).isSome = true := by rw [b1]; rfl
  have s2 : ((w1.alloc (.cells #[ct x.1, .slice aoi1 x.2.length capi1] 53)).cell? ⟨G, i * 2 + 1, none⟩).isSome = true := by rw [b2]; rfl
  have s3 : ((w1.alloc (.cells #[ct x.1, .slice aoi1 x.2.length capi1] 53)).cell? ⟨G, k * 2, none⟩).isSome = true := by rw [b3]; rfl
  have s4 : ((w1.alloc (.cells #[ct x.1, .slice aoi1 x.2.length capi1] 53)).cell? ⟨G, k * 2 + 1, none⟩).isSome = true := by rw [b4]; rfl
  have v1 : (w1.alloc (.cells #[ct x.1, .slice aoi1 x.2.length capi1] 53)).cell? ⟨w1.heap.size, 0, none⟩ = some (ct x.1) := by rw [cell_of_row _ _ _ _ _ _ (alloc_new w1 _)]; rfl
  have v2 : (w1.alloc (.cells #[ct x.1, .slice aoi1 x.2.length capi1] 53)).cell? ⟨w1.heap.size, 1, none⟩ = some (.slice aoi1 x.2.length capi1) := by rw [cell_of_row _ _ _ _ _ _ (alloc_new w1 _)]; rfl
  obtain ⟨u1, g1⟩ : ∃ u, ((w1.alloc (.cells #[ct x.1, .slice aoi1 x.2.length capi1] 53)).setCell ⟨G, i * 2, none⟩ (ct y.1)).cell? ⟨G, i * 2 + 1, none⟩ = some u := Option.isSome_iff_exists.1 (some_set s2)
  obtain ⟨u2, g2⟩ : ∃ u, (((w1.alloc (.cells #[ct x.1, .slice aoi1 x.2.length capi1] 53)).setCell ⟨G, i * 2, none⟩ (ct y.1)).setCell ⟨G, i * 2 + 1, none⟩ (.slice aok1 y.2.length capk1)).cell? ⟨G, k * 2, none⟩ = some u := Option.isSome_iff_exists.1 (some_set (some_set s3))
  have g2a : (((w1.alloc (.cells #[ct x.1, .slice aoi1 x.2.length capi1] 53)).setCell ⟨G, i * 2, none⟩ (ct y.1)).setCell ⟨G, i * 2 + 1, none⟩ (.slice aok1 y.2.length capk1)).cell? ⟨w1.heap.size, 0, none⟩ = some (ct x.1) := by
    rw [World.cell?_setCell_other _ _ _ _ (fun e => hne (congrArg Addr.block e).symm), World.cell?_setCell_other _ _ _ _ (fun e => hne (congrArg Addr.block e).symm)]; exact v1
  have g2b : (((w1.alloc (.cells #[ct x.1, .slice aoi1 x.2.length capi1] 53)).setCell ⟨G, i * 2, none⟩ (ct y.1)).setCell ⟨G, i * 2 + 1, none⟩ (.slice aok1 y.2.length capk1)).cell? ⟨w1.heap.size, 1, none⟩ = some (.slice aoi1 x.2.length capi1) := by
    rw [World.cell?_setCell_other _ _ _ _ (fun e => hne (congrArg Addr.block e).symm), World.cell?_setCell_other _ _ _ _ (fun e => hne (congrArg Addr.block e).symm)]; exact v2
  obtain ⟨u3, g3⟩ : ∃ u, ((((w1.alloc (.cells #[ct x.1, .slice aoi1 x.2.length capi1] 53)).setCell ⟨G, i * 2, none⟩ (ct y.1)).setCell ⟨G, i * 2 + 1, none⟩ (.slice aok1 y.2.length capk1)).setCell ⟨G, k * 2, none⟩ (ct x.1)).cell? ⟨G, k * 2 + 1, none⟩ = some u := Option.isSome_iff_exists.1 (some_set (some_set (some_set s4)))
  have g4 : (((((w1.alloc (.cells #[ct x.1, .slice aoi1 x.2.length capi1] 53)).setCell ⟨G, i * 2, none⟩ (ct y.1)).setCell ⟨G, i * 2 + 1, none⟩ (.slice aok1 y.2.length capk1)).setCell ⟨G, k * 2, none⟩ (ct x.1)).setCell ⟨G, k * 2 + 1, none⟩ (.slice aoi1 x.2.length capi1)).cell? ⟨G, k * 2 + 1, none⟩ = some (.slice aoi1 x.2.length capi1) := World.cell?_setCell_same' _ _ _ (some_set (some_set (some_set s4)))
  have hneH : Hidden (w1.heap.size ≠ G) := hne
  clear fa hrow s1 s2 s3 s4 hGc v1 v2 hne
  have fG : Hidden (Fr (fun q => q = G) w1 (((((w1.alloc (.cells #[ct x.1, .slice aoi1 x.2.length capi1] 53)).setCell ⟨G, i * 2, none⟩ (ct y.1)).setCell ⟨G, i * 2 + 1, none⟩ (.slice aok1 y.2.length capk1)).setCell ⟨G, k * 2, none⟩ (ct x.1)).setCell ⟨G, k * 2 + 1, none⟩ (.slice aoi1 x.2.length capi1))) := (((((Fr.alloc (fun q => q = G) w1 (.cells #[ct x.1, .slice aoi1 x.2.length capi1] 53)).same (Fr.setCell _ ⟨G, i * 2, none⟩ _)).same (Fr.setCell _ ⟨G, i * 2 + 1, none⟩ _)).same (Fr.setCell _ ⟨G, k * 2, none⟩ _)).same (Fr.setCell _ ⟨G, k * 2 + 1, none⟩ _))
  have hz5 : (((((w1.alloc (.cells #[ct x.1, .slice aoi1 x.2.length capi1] 53)).setCell ⟨G, i * 2, none⟩ (ct y.1)).setCell ⟨G, i * 2 + 1, none⟩ (.slice aok1 y.2.length capk1)).setCell ⟨G, k * 2, none⟩ (ct x.1)).setCell ⟨G, k * 2 + 1, none⟩ (.slice aoi1 x.2.length capi1)).frozen? ⟨G, k * 2 + 1, none⟩ = false := by simp [hz]
  have hzH : Hidden ((((((w1.alloc (.cells #[ct x.1, .slice aoi1 x.2.length capi1] 53)).setCell ⟨G, i * 2, none⟩ (ct y.1)).setCell ⟨G, i * 2 + 1, none⟩ (.slice aok1 y.2.length capk1)).setCell ⟨G, k * 2, none⟩ (ct x.1)).setCell ⟨G, k * 2 + 1, none⟩ (.slice aoi1 x.2.length capi1)).frozen? ⟨G, k * 2 + 1, none⟩ = false) := hz5
  have g4H : Hidden ((((((w1.alloc (.cells #[ct x.1, .slice aoi1 x.2.length capi1] 53)).setCell ⟨G, i * 2, none⟩ (ct y.1)).setCell ⟨G, i * 2 + 1, none⟩ (.slice aok1 y.2.length capk1)).setCell ⟨G, k * 2, none⟩ (ct x.1)).setCell ⟨G, k * 2 + 1, none⟩ (.slice aoi1 x.2.length capi1)).cell? ⟨G, k * 2 + 1, none⟩ = some (.slice aoi1 x.2.length capi1)) := g4
  have hxc : x.2.length ≤ capi1 ∧ capi1 ≤ 9223372036854775807 := by obtain ⟨_, _, e, q1, q⟩ := (show To w1 w.heap.size (.slice aoi1 x.2.length capi1) x.2 from t1H).shape; cases e; exact ⟨q1, q⟩
  obtain ⟨hxc1, hxc2⟩ := hxc
  have tx5 : Hidden (To (((((w1.alloc (.cells #[ct x.1, .slice aoi1 x.2.length capi1] 53)).setCell ⟨G, i * 2, none⟩ (ct y.1)).setCell ⟨G, i * 2 + 1, none⟩ (.slice aok1 y.2.length capk1)).setCell ⟨G, k * 2, none⟩ (ct x.1)).setCell ⟨G, k * 2 + 1, none⟩ (.slice aoi1 x.2.length capi1)) w.heap.size (.slice aoi1 x.2.length capi1) x.2) := (show To w1 w.heap.size _ x.2 from t1H).keep fG (fun q hq e => by
    have e : q = G := e
    rw [e] at hq
    exact (show ∀ q, xi.2.ownBlock = some q → (Value.slice (some ⟨G, 0, none⟩) nn cap1).ownBlock ≠ some q from hneI) G (by rw [← (show Value.slice aoi1 x.2.length capi1 = xi.2 from hviH)]; exact hq) rfl)
  go_wp2_with fail
  obtain ⟨W5, hW5⟩ : ∃ W, W = (((((w1.alloc (.cells #[ct x.1, .slice aoi1 x.2.length capi1] 53)).setCell ⟨G, i * 2, none⟩ (ct y.1)).setCell ⟨G, i * 2 + 1, none⟩ (.slice aok1 y.2.length capk1)).setCell ⟨G, k * 2, none⟩ (ct x.1)).setCell ⟨G, k * 2 + 1, none⟩ (.slice aoi1 x.2.length capi1)) := ⟨_, rfl⟩
  rw [← hW5] at fG hz5 hzH g4H g4 tx5 ⊢
  have hW5H : Hidden (W5 = (((((w1.alloc (.cells #[ct x.1, .slice aoi1 x.2.length capi1] 53)).setCell ⟨G, i * 2, none⟩ (ct y.1)).setCell ⟨G, i * 2 + 1, none⟩ (.slice aok1 y.2.length capk1)).setCell ⟨G, k * 2, none⟩ (ct x.1)).setCell ⟨G, k * 2 + 1, none⟩ (.slice aoi1 x.2.length capi1))) := hW5
  have fw5 : Hidden (Fr (fun _ => False) w W5) := Fr.over f1H fG (fun q hq => by subst hq; exact (show w.heap.size ≤ q ∧ _ from hGneH).1)
  clear hW5 b1 b2 b3 b4 g1 g2 g2a g2b g3 hz d1 d2 d3 d4 c1 c2
  go_loopg [9, 10] x.2.length (fun q tv iv wr => ∃ (m : Nat) (z : Int), iv = .int .i64 z ∧ z = (m : Int) - 1 ∧ m ≤ x.2.length ∧ q = m ∧ To wr W5.heap.size tv ((x.2.drop m).reverse) ∧ Fr (fun _ => False) W5 wr)
  case atStart => exact ⟨x.2.length, _, rfl, by go_num, Nat.le_refl _, rfl, by rw [List.drop_length]; exact To.nil _ _, Fr.refl _ _⟩
  case round =>
    obtain ⟨m, z, rfl, hzm, hm, hk', ht, hf⟩ := hrel
    have hkH' : Hidden (gk = m) := hk'
    have htH : Hidden (To wr W5.heap.size u9 ((x.2.drop m).reverse)) := ht
    have hfH : Hidden (Fr (fun _ => False) W5 wr) := hf
    obtain ⟨aot, capt, htv, lt1, lt2⟩ := ht.shape
    subst htv
    have g4r := hf.cellN g4
    clear ht hk'
    cases m with
    | succ m =>
      obtain rfl : z = (m : Int) := by omega
      obtain ⟨s, hs⟩ : ∃ s, x.2[m]? = some s := ⟨x.2[m]'(by omega), List.getElem?_eq_getElem _⟩
      obtain ⟨bs, os, hbs, cs⟩ := Tl.at (Tl.later (show To W5 _ _ x.2 from tx5).tn.tl hf) hs
      subst hbs
      have hml : (m : Int) < (x.2.length : Int) := by omega
      have hd : (x.2.drop m).reverse = (x.2.drop (m + 1)).reverse ++ [s] := by rw [drop_at hs]; simp
      have hdH : Hidden ((x.2.drop m).reverse = (x.2.drop (m + 1)).reverse ++ [s]) := hd
      clear hs hf hd hzm
      go_wp2_with (at_builtin; refine wpList_app rfl _ _ rfl W5.heap.size _ _ ((x.2.drop (m + 1)).reverse) [s] rfl (To.later htH (Fr.alloc _ _ _)) rfl (Tl.one _ s) (Nat.le_trans (show Fr (fun _ => False) W5 wr from hfH).size (by simp)) (by have : x.2.length < 16 := hxH; simp only [List.length_reverse, List.length_drop, List.length_cons, List.length_nil]; omega) ?_; intro v6 w6 t6 f6 _; have t6H : Hidden (To w6 W5.heap.size v6 ((x.2.drop (m + 1)).reverse ++ [s])) := t6; have g6 : Fr (fun q => (Value.slice aot (x.2.drop (m + 1)).reverse.length capt).ownBlock = some q) wr w6 := (Fr.alloc _ _ _).same f6; have g6H : Hidden (Fr (fun q => (Value.slice aot (x.2.drop (m + 1)).reverse.length capt).ownBlock = some q) wr w6) := g6; clear t6 f6 g6)
      go_roundg m
      case measure => have := (show gk = m + 1 from hkH'); omega
      case rel =>
        refine ⟨m, _, rfl, by go_num, by omega, rfl, ?_, Fr.over hfH g6H (fun q hq => ((show To wr _ _ _ from htH).own q hq).1)⟩
        rw [(show (x.2.drop m).reverse = (x.2.drop (m + 1)).reverse ++ [s] from hdH)]
        exact t6H
    | zero =>
      obtain rfl : z = -1 := by omega
      rw [List.drop_zero] at htH lt1 ⊢
      have hlr : x.2.reverse.length = x.2.length := List.length_reverse
      have hsl : (shuf nl i k x y).length = nl.length := by unfold shuf; simp
      have hnE : newE (shuf nl i k x y) = newE nl := newE_shuf hiH hkH hxH
      have hG5 : G < W5.heap.size := Nat.lt_of_lt_of_le (show w.heap.size ≤ G ∧ G < w1.heap.size from hGneH).2 (show Fr (fun q => q = G) w1 W5 from fG).size
      clear hzm hf g4r
      by_cases hx0 : x.2 = []
      · have htr : turn x.2 = [] := by rw [hx0]; rfl
        have frL : Hidden (Fr (fun _ => False) W5 wr) := hfH
        have ttH : Hidden (To wr W5.heap.size (.slice aot x.2.reverse.length capt) (turn x.2)) := by rw [htr]; rw [hx0] at htH ⊢; exact htH
        have hl0 : x.2.reverse.length = 0 := by rw [hx0]; rfl
        rw [hl0] at ttH ⊢
        have g4r := (show Fr (fun _ => False) W5 wr from frL).cellN g4
        have hzr : wr.frozen? ⟨G, k * 2 + 1, none⟩ = false := by
          rw [World.frozen?_of_block (w := W5) ((show Fr (fun _ => False) W5 wr from frL).block G hG5 (fun f => f))]
          exact hzH
        have hnlH : Hidden (NL (wr.setCell ⟨G, k * 2 + 1, none⟩ (.slice aot 0 capt)) (.slice (some ⟨G, 0, none⟩) nn cap1) (shuf nl i k x y)) := shuf_nl o1H hiH hkH hxkH hvkH (by rw [← (show W5 = _ from hW5H)]; exact frL) ttH hG5
        have fw7 : Fr (fun _ => False) w (wr.setCell ⟨G, k * 2 + 1, none⟩ (.slice aot 0 capt)) := Fr.over (Fr.same fw5 frL) (Fr.setCell _ ⟨G, k * 2 + 1, none⟩ _) (fun q hq => by have e : q = G := hq; rw [e]; exact (show w.heap.size ≤ G ∧ _ from hGneH).1)
        have ko := (show ∀ W, _ → _ from ko2H) _ fw7
        have fw7H : Hidden (Fr (fun _ => False) w (wr.setCell ⟨G, k * 2 + 1, none⟩ (.slice aot 0 capt))) := fw7
        clear fw7
        go_wp2_with fail
        refine ko.mono ?_
        rintro e w8 ⟨ao8, cap8, xs8, rfl, o8, f8⟩
        have f8H : Hidden (Fr (fun _ => False) w w8) := Fr.same fw7H f8
        have hnl8 : Hidden (NL w8 (.slice (some ⟨G, 0, none⟩) nn cap1) (shuf nl i k x y)) := NL.later hnlH f8
        have kn := new_any ao8 cap8 nl w8 (by rw [← (show nn = nl.length from hnnH)]; exact o8.nl) hokH
        rw [← (show nn = nl.length from hnnH)] at kn
        clear ko o8 f8
        go_wp2_with fail
        refine kn.mono ?_
        rintro e w9 ⟨hR1, f9⟩
        have f9H : Hidden (Fr (fun _ => False) w w9) := Fr.same f8H f9
        have kn := new_any (some ⟨G, 0, none⟩) cap1 (shuf nl i k x y) w9 (by rw [hsl, ← (show nn = nl.length from hnnH)]; exact NL.later hnl8 f9) (shuf_ok hiH hkH hokH)
        rw [hsl, ← (show nn = nl.length from hnnH)] at kn
        have f89 : Hidden (Fr (fun _ => False) w8 w9) := f9
        clear f9
        rcases hR1 with ⟨hE, rfl⟩ | ⟨hE, Ba, rfl, hGa⟩
        · go_wp2_with fail
          refine kn.mono ?_
          rintro e w10 ⟨hR2, f10⟩
          rcases hR2 with ⟨hE2, rfl⟩ | ⟨hE2, _⟩
          rotate_left
          · exact absurd (hnE.symm.trans hE2) hE
          have f10H : Hidden (Fr (fun _ => False) w w10) := Fr.same f9H f10
          have ka := alive_any w10
          rw [hnE]
          clear f10 kn
          generalize newE nl = E at *
          go_wp2_with fail
          refine ka.mono ?_
          rintro e w11 ⟨rfl, f11⟩
          have fWH : Hidden (Fr (fun _ => False) w w11) := Fr.same f10H f11
          clear ka f11
          have hga : Hidden (Gp w11 (.pointer none) g0) := gp0 w11
          have hgb : Hidden (Gp w11 (.pointer none) g0) := gp0 w11
          have hoc : ordC (none : Option Addr) g0 = 2 := rfl
          have hoc2 : ordC (none : Option Addr) g0 = 2 := rfl
          have hoq : ordC (none : Option Addr) g0 ≠ 0 := by decide
          have hoq2 := hoq
          have kx := order_err (none) g0 w11 hga hoq
          rw [hoc] at kx
          go_wp2_with fail
          refine kx.mono ?_
          rintro e y1 ⟨rfl, p1⟩
          have p1H : Hidden (Fr (fun _ => False) w11 y1) := p1
          have kx := order_err (none) g0 y1 (Gp.later hgb p1) hoq2
          rw [hoc2] at kx
          clear p1
          go_wp2_with fail
          refine kx.mono ?_
          rintro e y2 ⟨rfl, p2⟩
          have p2H : Hidden (Fr (fun _ => False) w11 y2) := Fr.same p1H p2
          have kx := texts3_is _ _ _ _ _ (Tl.nil y2) (Tl.nil y2) true (by simp)
          clear p2
          go_wp2_with fail
          refine kx.mono ?_
          rintro e y3 ⟨rfl, p3⟩
          have p3H : Hidden (Fr (fun _ => False) w11 y3) := Fr.same p2H p3
          have kx := ring_any (.pointer (none)) g0 y3 (Gp.later hga p3H)
          clear p3
          go_wp2_with fail
          refine kx.mono ?_
          rintro e y4 ⟨⟨aoC, capC, rfl, tC⟩, p4⟩
          have p4H : Hidden (Fr (fun _ => False) w11 y4) := Fr.same p3H p4
          have tCH : Hidden (Tl y4 (.slice aoC (ringS g0).length capC) (ringS g0)) := tC
          have kx := ring_any (.pointer (none)) g0 y4 (Gp.later hgb p4H)
          clear p4 tC
          go_wp2_with fail
          refine kx.mono ?_
          rintro e y5 ⟨⟨aoD, capD, rfl, tD⟩, p5⟩
          have p5H : Hidden (Fr (fun _ => False) w11 y5) := Fr.same p4H p5
          have kx := texts3_is _ _ _ _ _ (Tl.later tCH p5) tD true (by simp)
          clear p5 tD tCH
          go_wp2_with fail
          refine kx.mono ?_
          rintro e y6 ⟨rfl, p6⟩
          have p6H : Hidden (Fr (fun _ => False) w11 y6) := Fr.same p5H p6
          have kx := names_any (.pointer (none)) g0 y6 (Gp.later hga p6H)
          clear p6
          go_wp2_with fail
          refine kx.mono ?_
          rintro e y7 ⟨⟨aoE, capE, rfl, tE⟩, p7⟩
          have p7H : Hidden (Fr (fun _ => False) w11 y7) := Fr.same p6H p7
          have tEH : Hidden (Tl y7 (.slice aoE (g0).ks.length capE) (g0).ks) := tE.tn.tl
          have kx := names_any (.pointer (none)) g0 y7 (Gp.later hgb p7H)
          clear p7 tE
          go_wp2_with fail
          refine kx.mono ?_
          rintro e y8 ⟨⟨aoF, capF, rfl, tF⟩, p8⟩
          have p8H : Hidden (Fr (fun _ => False) w11 y8) := Fr.same p7H p8
          have kx := texts3_is _ _ _ _ _ (Tl.later tEH p8) tF.tn.tl true (by simp)
          clear p8 tF tEH
          go_wp2_with fail
          refine kx.mono ?_
          rintro e y9 ⟨rfl, p9⟩
          have p9H : Hidden (Fr (fun _ => False) w y9) := Fr.same fWH (Fr.same p8H p9)
          clear p9 kx
          go_wp2
          go_ret
          exact ⟨rfl, p9H⟩
        · go_wp2_with fail
          refine kn.mono ?_
          rintro e w10 ⟨hR2, f10⟩
          rcases hR2 with ⟨hE2, _⟩ | ⟨_, Bb, rfl, hGb⟩
          · exact absurd (hnE.trans hE) hE2
          have hgo : gOf (shuf nl i k x y) = gOf nl := gOf_shuf hiH hkH (newE_nodup hE)
          have f10H : Hidden (Fr (fun _ => False) w w10) := Fr.same f9H f10
          have ka := alive_any w10
          have hwf := gOf_wf nl
          have hga0 : Hidden (Gp w10 (.pointer (some ⟨Ba, 0, none⟩)) (gOf nl)) := hGa w10 (f10.mono fun _ _ f => f.elim)
          have hgb0 : Hidden (Gp w10 (.pointer (some ⟨Bb, 0, none⟩)) (gOf nl)) := by have := hGb w10 (Fr.refl _ _); rw [hgo] at this; exact this
          clear f10 kn hGa hGb hgo hE
          generalize gOf nl = g at *
          go_wp2_with fail
          refine ka.mono ?_
          rintro e w11 ⟨rfl, f11⟩
          have fWH : Hidden (Fr (fun _ => False) w w11) := Fr.same f10H f11
          have hga : Hidden (Gp w11 (.pointer (some ⟨Ba, 0, none⟩)) g) := Gp.later hga0 f11
          have hgb : Hidden (Gp w11 (.pointer (some ⟨Bb, 0, none⟩)) g) := Gp.later hgb0 f11
          clear ka f11
          by_cases ho : ordE g = 0
          · have hoq : ordC (some (⟨Ba, 0, none⟩ : Addr)) g = 0 := ho
            have hoq2 : ordC (some (⟨Bb, 0, none⟩ : Addr)) g = 0 := ho
            obtain ⟨R, hRs, _⟩ := (calm_of hwf ho).order
            clear hwf ho
            have kx := order_ok (some ⟨Ba, 0, none⟩) g w11 hga hoq R hRs
            go_wp2_with fail
            refine kx.mono ?_
            rintro e y1 ⟨⟨aoA, capA, rfl, tA⟩, p1⟩
            have tAH : Hidden (Tl y1 (.slice aoA R.length capA) R) := tA.tn.tl
            have p1H : Hidden (Fr (fun _ => False) w11 y1) := p1
            have kx := order_ok (some ⟨Bb, 0, none⟩) g y1 (Gp.later hgb p1) hoq2 R hRs
            clear tA p1
            go_wp2_with fail
            refine kx.mono ?_
            rintro e y2 ⟨⟨aoB, capB, rfl, tB⟩, p2⟩
            have p2H : Hidden (Fr (fun _ => False) w11 y2) := Fr.same p1H p2
            have kx := texts3_is _ _ _ _ _ (Tl.later tAH p2) tB.tn.tl true (by simp)
            clear tB p2 tAH
            go_wp2_with fail
            refine kx.mono ?_
            rintro e y3 ⟨rfl, p3⟩
            have p3H : Hidden (Fr (fun _ => False) w11 y3) := Fr.same p2H p3
            have kx := ring_any (.pointer (some ⟨Ba, 0, none⟩)) g y3 (Gp.later hga p3H)
            clear p3
            go_wp2_with fail
            refine kx.mono ?_
            rintro e y4 ⟨⟨aoC, capC, rfl, tC⟩, p4⟩
            have p4H : Hidden (Fr (fun _ => False) w11 y4) := Fr.same p3H p4
            have tCH : Hidden (Tl y4 (.slice aoC (ringS g).length capC) (ringS g)) := tC
            have kx := ring_any (.pointer (some ⟨Bb, 0, none⟩)) g y4 (Gp.later hgb p4H)
            clear p4 tC
            go_wp2_with fail
            refine kx.mono ?_
            rintro e y5 ⟨⟨aoD, capD, rfl, tD⟩, p5⟩
            have p5H : Hidden (Fr (fun _ => False) w11 y5) := Fr.same p4H p5
            have kx := texts3_is _ _ _ _ _ (Tl.later tCH p5) tD true (by simp)
            clear p5 tD tCH
            go_wp2_with fail
            refine kx.mono ?_
            rintro e y6 ⟨rfl, p6⟩
            have p6H : Hidden (Fr (fun _ => False) w11 y6) := Fr.same p5H p6
            have kx := names_any (.pointer (some ⟨Ba, 0, none⟩)) g y6 (Gp.later hga p6H)
            clear p6
            go_wp2_with fail
            refine kx.mono ?_
            rintro e y7 ⟨⟨aoE, capE, rfl, tE⟩, p7⟩
            have p7H : Hidden (Fr (fun _ => False) w11 y7) := Fr.same p6H p7
            have tEH : Hidden (Tl y7 (.slice aoE (g).ks.length capE) (g).ks) := tE.tn.tl
            have kx := names_any (.pointer (some ⟨Bb, 0, none⟩)) g y7 (Gp.later hgb p7H)
            clear p7 tE
            go_wp2_with fail
            refine kx.mono ?_
            rintro e y8 ⟨⟨aoF, capF, rfl, tF⟩, p8⟩
            have p8H : Hidden (Fr (fun _ => False) w11 y8) := Fr.same p7H p8
            have kx := texts3_is _ _ _ _ _ (Tl.later tEH p8) tF.tn.tl true (by simp)
            clear p8 tF tEH
            go_wp2_with fail
            refine kx.mono ?_
            rintro e y9 ⟨rfl, p9⟩
            have p9H : Hidden (Fr (fun _ => False) w y9) := Fr.same fWH (Fr.same p8H p9)
            clear p9 kx
            go_wp2
            go_ret
            exact ⟨rfl, p9H⟩
          · have hoq : ordC (some (⟨Ba, 0, none⟩ : Addr)) g ≠ 0 := ho
            have hoq2 : ordC (some (⟨Bb, 0, none⟩ : Addr)) g ≠ 0 := ho
            obtain ⟨E, hoc⟩ : ∃ E, ordC (some (⟨Ba, 0, none⟩ : Addr)) g = E := ⟨_, rfl⟩
            have hoc2 : ordC (some (⟨Bb, 0, none⟩ : Addr)) g = E := hoc
            clear hwf ho
            have kx := order_err (some ⟨Ba, 0, none⟩) g w11 hga hoq
            rw [hoc] at kx
            go_wp2_with fail
            refine kx.mono ?_
            rintro e y1 ⟨rfl, p1⟩
            have p1H : Hidden (Fr (fun _ => False) w11 y1) := p1
            have kx := order_err (some ⟨Bb, 0, none⟩) g y1 (Gp.later hgb p1) hoq2
            rw [hoc2] at kx
            clear p1
            go_wp2_with fail
            refine kx.mono ?_
            rintro e y2 ⟨rfl, p2⟩
            have p2H : Hidden (Fr (fun _ => False) w11 y2) := Fr.same p1H p2
            have kx := texts3_is _ _ _ _ _ (Tl.nil y2) (Tl.nil y2) true (by simp)
            clear p2
            go_wp2_with fail
            refine kx.mono ?_
            rintro e y3 ⟨rfl, p3⟩
            have p3H : Hidden (Fr (fun _ => False) w11 y3) := Fr.same p2H p3
            have kx := ring_any (.pointer (some ⟨Ba, 0, none⟩)) g y3 (Gp.later hga p3H)
            clear p3
            go_wp2_with fail
            refine kx.mono ?_
            rintro e y4 ⟨⟨aoC, capC, rfl, tC⟩, p4⟩
            have p4H : Hidden (Fr (fun _ => False) w11 y4) := Fr.same p3H p4
            have tCH : Hidden (Tl y4 (.slice aoC (ringS g).length capC) (ringS g)) := tC
            have kx := ring_any (.pointer (some ⟨Bb, 0, none⟩)) g y4 (Gp.later hgb p4H)
            clear p4 tC
            go_wp2_with fail
            refine kx.mono ?_
            rintro e y5 ⟨⟨aoD, capD, rfl, tD⟩, p5⟩
            have p5H : Hidden (Fr (fun _ => False) w11 y5) := Fr.same p4H p5
            have kx := texts3_is _ _ _ _ _ (Tl.later tCH p5) tD true (by simp)
            clear p5 tD tCH
            go_wp2_with fail
            refine kx.mono ?_
            rintro e y6 ⟨rfl, p6⟩
            have p6H : Hidden (Fr (fun _ => False) w11 y6) := Fr.same p5H p6
            have kx := names_any (.pointer (some ⟨Ba, 0, none⟩)) g y6 (Gp.later hga p6H)
            clear p6
            go_wp2_with fail
            refine kx.mono ?_
            rintro e y7 ⟨⟨aoE, capE, rfl, tE⟩, p7⟩
            have p7H : Hidden (Fr (fun _ => False) w11 y7) := Fr.same p6H p7
            have tEH : Hidden (Tl y7 (.slice aoE (g).ks.length capE) (g).ks) := tE.tn.tl
            have kx := names_any (.pointer (some ⟨Bb, 0, none⟩)) g y7 (Gp.later hgb p7H)
            clear p7 tE
            go_wp2_with fail
            refine kx.mono ?_
            rintro e y8 ⟨⟨aoF, capF, rfl, tF⟩, p8⟩
            have p8H : Hidden (Fr (fun _ => False) w11 y8) := Fr.same p7H p8
            have kx := texts3_is _ _ _ _ _ (Tl.later tEH p8) tF.tn.tl true (by simp)
            clear p8 tF tEH
            go_wp2_with fail
            refine kx.mono ?_
            rintro e y9 ⟨rfl, p9⟩
            have p9H : Hidden (Fr (fun _ => False) w y9) := Fr.same fWH (Fr.same p8H p9)
            clear p9 kx
            go_wp2
            go_ret
            exact ⟨rfl, p9H⟩
      · obtain ⟨s0, r0, hr0⟩ : ∃ s0 r0, x.2.reverse = s0 :: r0 := by
          cases h : x.2.reverse with
          | nil => exact absurd (by simpa using h) hx0
          | cons a b => exact ⟨a, b, rfl⟩
        have htr : turn x.2 = x.2.reverse ++ [s0] := by unfold turn; rw [hr0]; rfl
        have hlp : 0 < x.2.reverse.length := by rw [hr0]; simp
        have hlpz : (0 : Int) < (x.2.reverse.length : Int) := by omega
        obtain ⟨bt, ot, hbt, ct0⟩ := Tl.at (show To wr _ _ _ from htH).tn.tl (j := 0) (x := s0) (by rw [hr0]; rfl)
        subst hbt
        rw [Nat.add_zero] at ct0
        obtain ⟨tl, htl⟩ : ∃ tl, x.2.reverse.length = tl := ⟨_, rfl⟩
        have htlb : Hidden (tl < 16) := by rw [← htl, hlr]; exact hxH
        rw [htl] at htH lt1 hlp hlpz ⊢
        have htH2 : Hidden (To wr W5.heap.size (.slice (some ⟨bt, ot, none⟩) tl capt) x.2.reverse) := htH
        have htlH : Hidden (x.2.reverse.length = tl) := htl
        clear hr0 htl hlr
        have hfz : ∀ W, Fr (fun _ => False) W5 W → W.frozen? ⟨G, k * 2 + 1, none⟩ = false ∧ W.cell? ⟨G, k * 2 + 1, none⟩ = some (.slice aoi1 x.2.length capi1) := fun W hW => ⟨by rw [World.frozen?_of_block (w := W5) (hW.block G hG5 (fun f => f))]; exact hzH, hW.cellN g4⟩
        have hfzH : Hidden (∀ W, Fr (fun _ => False) W5 W → W.frozen? ⟨G, k * 2 + 1, none⟩ = false ∧ W.cell? ⟨G, k * 2 + 1, none⟩ = some (.slice aoi1 x.2.length capi1)) := hfz
        clear hfz
        go_wp2_with (at_builtin; refine wpList_app rfl _ _ rfl W5.heap.size _ _ x.2.reverse [s0] rfl (To.later htH2 (Fr.alloc _ _ _)) rfl (Tl.one _ s0) (Nat.le_trans (show Fr (fun _ => False) W5 wr from hfH).size (by simp)) (by have h1 : x.2.reverse.length = tl := htlH; have h2 : tl < 16 := htlb; simp only [List.length_cons, List.length_nil]; omega) ?_; intro v6 w6 t6 f6 _; have g6 : Fr (fun q => (Value.slice (some ⟨bt, ot, none⟩) tl capt).ownBlock = some q) wr w6 := (Fr.alloc _ _ _).same f6; have frL : Fr (fun _ => False) W5 w6 := Fr.over hfH g6 (fun q hq => ((show To wr _ _ _ from htH2).own q hq).1); have hcc := (show ∀ W, _ → _ from hfzH) w6 frL; have hzr := hcc.1; have g4r := hcc.2; have frL : Hidden (Fr (fun _ => False) W5 w6) := frL; have ttH : Hidden (To w6 W5.heap.size v6 (turn x.2)) := htr ▸ t6; obtain ⟨ao6, cap6, hv6, _, _⟩ := t6.shape; have htr := trivial; clear t6 f6 g6 hcc; subst hv6)
        have el : (x.2.reverse ++ [s0]).length = x.2.length + 1 := by simp
        rw [el] at ttH
        clear el
        have g4r := (show Fr (fun _ => False) W5 w6 from frL).cellN g4
        have hzr : w6.frozen? ⟨G, k * 2 + 1, none⟩ = false := by
          rw [World.frozen?_of_block (w := W5) ((show Fr (fun _ => False) W5 w6 from frL).block G hG5 (fun f => f))]
          exact hzH
        have hnlH : Hidden (NL (w6.setCell ⟨G, k * 2 + 1, none⟩ (.slice ao6 (x.2.length + 1) cap6)) (.slice (some ⟨G, 0, none⟩) nn cap1) (shuf nl i k x y)) := shuf_nl o1H hiH hkH hxkH hvkH (by rw [← (show W5 = _ from hW5H)]; exact frL) ttH hG5
        have fw7 : Fr (fun _ => False) w (w6.setCell ⟨G, k * 2 + 1, none⟩ (.slice ao6 (x.2.length + 1) cap6)) := Fr.over (Fr.same fw5 frL) (Fr.setCell _ ⟨G, k * 2 + 1, none⟩ _) (fun q hq => by have e : q = G := hq; rw [e]; exact (show w.heap.size ≤ G ∧ _ from hGneH).1)
        have ko := (show ∀ W, _ → _ from ko2H) _ fw7
        have fw7H : Hidden (Fr (fun _ => False) w (w6.setCell ⟨G, k * 2 + 1, none⟩ (.slice ao6 (x.2.length + 1) cap6))) := fw7
        clear fw7
        refine ko.mono ?_
        rintro e w8 ⟨ao8, cap8, xs8, rfl, o8, f8⟩
        have f8H : Hidden (Fr (fun _ => False) w w8) := Fr.same fw7H f8
        have hnl8 : Hidden (NL w8 (.slice (some ⟨G, 0, none⟩) nn cap1) (shuf nl i k x y)) := NL.later hnlH f8
        have kn := new_any ao8 cap8 nl w8 (by rw [← (show nn = nl.length from hnnH)]; exact o8.nl) hokH
        rw [← (show nn = nl.length from hnnH)] at kn
        clear ko o8 f8
        go_wp2_with fail
        refine kn.mono ?_
        rintro e w9 ⟨hR1, f9⟩
        have f9H : Hidden (Fr (fun _ => False) w w9) := Fr.same f8H f9
        have kn := new_any (some ⟨G, 0, none⟩) cap1 (shuf nl i k x y) w9 (by rw [hsl, ← (show nn = nl.length from hnnH)]; exact NL.later hnl8 f9) (shuf_ok hiH hkH hokH)
        rw [hsl, ← (show nn = nl.length from hnnH)] at kn
        have f89 : Hidden (Fr (fun _ => False) w8 w9) := f9
        clear f9
        rcases hR1 with ⟨hE, rfl⟩ | ⟨hE, Ba, rfl, hGa⟩
        · go_wp2_with fail
          refine kn.mono ?_
          rintro e w10 ⟨hR2, f10⟩
          rcases hR2 with ⟨hE2, rfl⟩ | ⟨hE2, _⟩
          rotate_left
          · exact absurd (hnE.symm.trans hE2) hE
          have f10H : Hidden (Fr (fun _ => False) w w10) := Fr.same f9H f10
          have ka := alive_any w10
          rw [hnE]
          clear f10 kn
          generalize newE nl = E at *
          go_wp2_with fail
          refine ka.mono ?_
          rintro e w11 ⟨rfl, f11⟩
          have fWH : Hidden (Fr (fun _ => False) w w11) := Fr.same f10H f11
          clear ka f11
          have hga : Hidden (Gp w11 (.pointer none) g0) := gp0 w11
          have hgb : Hidden (Gp w11 (.pointer none) g0) := gp0 w11
          have hoc : ordC (none : Option Addr) g0 = 2 := rfl
          have hoc2 : ordC (none : Option Addr) g0 = 2 := rfl
          have hoq : ordC (none : Option Addr) g0 ≠ 0 := by decide
          have hoq2 := hoq
          have kx := order_err (none) g0 w11 hga hoq
          rw [hoc] at kx
          go_wp2_with fail
          refine kx.mono ?_
          rintro e y1 ⟨rfl, p1⟩
          have p1H : Hidden (Fr (fun _ => False) w11 y1) := p1
          have kx := order_err (none) g0 y1 (Gp.later hgb p1) hoq2
          rw [hoc2] at kx
          clear p1
          go_wp2_with fail
          refine kx.mono ?_
          rintro e y2 ⟨rfl, p2⟩
          have p2H : Hidden (Fr (fun _ => False) w11 y2) := Fr.same p1H p2
          have kx := texts3_is _ _ _ _ _ (Tl.nil y2) (Tl.nil y2) true (by simp)
          clear p2
          go_wp2_with fail
          refine kx.mono ?_
          rintro e y3 ⟨rfl, p3⟩
          have p3H : Hidden (Fr (fun _ => False) w11 y3) := Fr.same p2H p3
          have kx := ring_any (.pointer (none)) g0 y3 (Gp.later hga p3H)
          clear p3
          go_wp2_with fail
          refine kx.mono ?_
          rintro e y4 ⟨⟨aoC, capC, rfl, tC⟩, p4⟩
          have p4H : Hidden (Fr (fun _ => False) w11 y4) := Fr.same p3H p4
          have tCH : Hidden (Tl y4 (.slice aoC (ringS g0).length capC) (ringS g0)) := tC
          have kx := ring_any (.pointer (none)) g0 y4 (Gp.later hgb p4H)
          clear p4 tC
          go_wp2_with fail
          refine kx.mono ?_
          rintro e y5 ⟨⟨aoD, capD, rfl, tD⟩, p5⟩
          have p5H : Hidden (Fr (fun _ => False) w11 y5) := Fr.same p4H p5
          have kx := texts3_is _ _ _ _ _ (Tl.later tCH p5) tD true (by simp)
          clear p5 tD tCH
          go_wp2_with fail
          refine kx.mono ?_
          rintro e y6 ⟨rfl, p6⟩
          have p6H : Hidden (Fr (fun _ => False) w11 y6) := Fr.same p5H p6
          have kx := names_any (.pointer (none)) g0 y6 (Gp.later hga p6H)
          clear p6
          go_wp2_with fail
          refine kx.mono ?_
          rintro e y7 ⟨⟨aoE, capE, rfl, tE⟩, p7⟩
          have p7H : Hidden (Fr (fun _ => False) w11 y7) := Fr.same p6H p7
          have tEH : Hidden (Tl y7 (.slice aoE (g0).ks.length capE) (g0).ks) := tE.tn.tl
          have kx := names_any (.pointer (none)) g0 y7 (Gp.later hgb p7H)
          clear p7 tE
          go_wp2_with fail
          refine kx.mono ?_
          rintro e y8 ⟨⟨aoF, capF, rfl, tF⟩, p8⟩
          have p8H : Hidden (Fr (fun _ => False) w11 y8) := Fr.same p7H p8
          have kx := texts3_is _ _ _ _ _ (Tl.later tEH p8) tF.tn.tl true (by simp)
          clear p8 tF tEH
          go_wp2_with fail
          refine kx.mono ?_
          rintro e y9 ⟨rfl, p9⟩
          have p9H : Hidden (Fr (fun _ => False) w y9) := Fr.same fWH (Fr.same p8H p9)
          clear p9 kx
          go_wp2
          go_ret
          exact ⟨rfl, p9H⟩
        · go_wp2_with fail
          refine kn.mono ?_
          rintro e w10 ⟨hR2, f10⟩
          rcases hR2 with ⟨hE2, _⟩ | ⟨_, Bb, rfl, hGb⟩
          · exact absurd (hnE.trans hE) hE2
          have hgo : gOf (shuf nl i k x y) = gOf nl := gOf_shuf hiH hkH (newE_nodup hE)
          have f10H : Hidden (Fr (fun _ => False) w w10) := Fr.same f9H f10
          have ka := alive_any w10
          have hwf := gOf_wf nl
          have hga0 : Hidden (Gp w10 (.pointer (some ⟨Ba, 0, none⟩)) (gOf nl)) := hGa w10 (f10.mono fun _ _ f => f.elim)
          have hgb0 : Hidden (Gp w10 (.pointer (some ⟨Bb, 0, none⟩)) (gOf nl)) := by have := hGb w10 (Fr.refl _ _); rw [hgo] at this; exact this
          clear f10 kn hGa hGb hgo hE
          generalize gOf nl = g at *
          go_wp2_with fail
          refine ka.mono ?_
          rintro e w11 ⟨rfl, f11⟩
          have fWH : Hidden (Fr (fun _ => False) w w11) := Fr.same f10H f11
          have hga : Hidden (Gp w11 (.pointer (some ⟨Ba, 0, none⟩)) g) := Gp.later hga0 f11
          have hgb : Hidden (Gp w11 (.pointer (some ⟨Bb, 0, none⟩)) g) := Gp.later hgb0 f11
          clear ka f11
          by_cases ho : ordE g = 0
          · have hoq : ordC (some (⟨Ba, 0, none⟩ : Addr)) g = 0 := ho
            have hoq2 : ordC (some (⟨Bb, 0, none⟩ : Addr)) g = 0 := ho
            obtain ⟨R, hRs, _⟩ := (calm_of hwf ho).order
            clear hwf ho
            have kx := order_ok (some ⟨Ba, 0, none⟩) g w11 hga hoq R hRs
            go_wp2_with fail
            refine kx.mono ?_
            rintro e y1 ⟨⟨aoA, capA, rfl, tA⟩, p1⟩
            have tAH : Hidden (Tl y1 (.slice aoA R.length capA) R) := tA.tn.tl
            have p1H : Hidden (Fr (fun _ => False) w11 y1) := p1
            have kx := order_ok (some ⟨Bb, 0, none⟩) g y1 (Gp.later hgb p1) hoq2 R hRs
            clear tA p1
            go_wp2_with fail
            refine kx.mono ?_
            rintro e y2 ⟨⟨aoB, capB, rfl, tB⟩, p2⟩
            have p2H : Hidden (Fr (fun _ => False) w11 y2) := Fr.same p1H p2
            have kx := texts3_is _ _ _ _ _ (Tl.later tAH p2) tB.tn.tl true (by simp)
            clear tB p2 tAH
            go_wp2_with fail
            refine kx.mono ?_
            rintro e y3 ⟨rfl, p3⟩
            have p3H : Hidden (Fr (fun _ => False) w11 y3) := Fr.same p2H p3
            have kx := ring_any (.pointer (some ⟨Ba, 0, none⟩)) g y3 (Gp.later hga p3H)
            clear p3
            go_wp2_with fail
            refine kx.mono ?_
            rintro e y4 ⟨⟨aoC, capC, rfl, tC⟩, p4⟩
            have p4H : Hidden (Fr (fun _ => False) w11 y4) := Fr.same p3H p4
            have tCH : Hidden (Tl y4 (.slice aoC (ringS g).length capC) (ringS g)) := tC
            have kx := ring_any (.pointer (some ⟨Bb, 0, none⟩)) g y4 (Gp.later hgb p4H)
            clear p4 tC
            go_wp2_with fail
            refine kx.mono ?_
            rintro e y5 ⟨⟨aoD, capD, rfl, tD⟩, p5⟩
            have p5H : Hidden (Fr (fun _ => False) w11 y5) := Fr.same p4H p5
            have kx := texts3_is _ _ _ _ _ (Tl.later tCH p5) tD true (by simp)
            clear p5 tD tCH
            go_wp2_with fail
            refine kx.mono ?_
            rintro e y6 ⟨rfl, p6⟩
            have p6H : Hidden (Fr (fun _ => False) w11 y6) := Fr.same p5H p6
            have kx := names_any (.pointer (some ⟨Ba, 0, none⟩)) g y6 (Gp.later hga p6H)
            clear p6
            go_wp2_with fail
            refine kx.mono ?_
            rintro e y7 ⟨⟨aoE, capE, rfl, tE⟩, p7⟩
            have p7H : Hidden (Fr (fun _ => False) w11 y7) := Fr.same p6H p7
            have tEH : Hidden (Tl y7 (.slice aoE (g).ks.length capE) (g).ks) := tE.tn.tl
            have kx := names_any (.pointer (some ⟨Bb, 0, none⟩)) g y7 (Gp.later hgb p7H)
            clear p7 tE
            go_wp2_with fail
            refine kx.mono ?_
            rintro e y8 ⟨⟨aoF, capF, rfl, tF⟩, p8⟩
            have p8H : Hidden (Fr (fun _ => False) w11 y8) := Fr.same p7H p8
            have kx := texts3_is _ _ _ _ _ (Tl.later tEH p8) tF.tn.tl true (by simp)
            clear p8 tF tEH
            go_wp2_with fail
            refine kx.mono ?_
            rintro e y9 ⟨rfl, p9⟩
            have p9H : Hidden (Fr (fun _ => False) w y9) := Fr.same fWH (Fr.same p8H p9)
            clear p9 kx
            go_wp2
            go_ret
            exact ⟨rfl, p9H⟩
          · have hoq : ordC (some (⟨Ba, 0, none⟩ : Addr)) g ≠ 0 := ho
            have hoq2 : ordC (some (⟨Bb, 0, none⟩ : Addr)) g ≠ 0 := ho
            obtain ⟨E, hoc⟩ : ∃ E, ordC (some (⟨Ba, 0, none⟩ : Addr)) g = E := ⟨_, rfl⟩
            have hoc2 : ordC (some (⟨Bb, 0, none⟩ : Addr)) g = E := hoc
            clear hwf ho
            have kx := order_err (some ⟨Ba, 0, none⟩) g w11 hga hoq
            rw [hoc] at kx
            go_wp2_with fail
            refine kx.mono ?_
            rintro e y1 ⟨rfl, p1⟩
            have p1H : Hidden (Fr (fun _ => False) w11 y1) := p1
            have kx := order_err (some ⟨Bb, 0, none⟩) g y1 (Gp.later hgb p1) hoq2
            rw [hoc2] at kx
            clear p1
            go_wp2_with fail
            refine kx.mono ?_
            rintro e y2 ⟨rfl, p2⟩
            have p2H : Hidden (Fr (fun _ => False) w11 y2) := Fr.same p1H p2
            have kx := texts3_is _ _ _ _ _ (Tl.nil y2) (Tl.nil y2) true (by simp)
            clear p2
            go_wp2_with fail
            refine kx.mono ?_
            rintro e y3 ⟨rfl, p3⟩
            have p3H : Hidden (Fr (fun _ => False) w11 y3) := Fr.same p2H p3
            have kx := ring_any (.pointer (some ⟨Ba, 0, none⟩)) g y3 (Gp.later hga p3H)
            clear p3
            go_wp2_with fail
            refine kx.mono ?_
            rintro e y4 ⟨⟨aoC, capC, rfl, tC⟩, p4⟩
            have p4H : Hidden (Fr (fun _ => False) w11 y4) := Fr.same p3H p4
            have tCH : Hidden (Tl y4 (.slice aoC (ringS g).length capC) (ringS g)) := tC
            have kx := ring_any (.pointer (some ⟨Bb, 0, none⟩)) g y4 (Gp.later hgb p4H)
            clear p4 tC
            go_wp2_with fail
            refine kx.mono ?_
            rintro e y5 ⟨⟨aoD, capD, rfl, tD⟩, p5⟩
            have p5H : Hidden (Fr (fun _ => False) w11 y5) := Fr.same p4H p5
            have kx := texts3_is _ _ _ _ _ (Tl.later tCH p5) tD true (by simp)
            clear p5 tD tCH
            go_wp2_with fail
            refine kx.mono ?_
            rintro e y6 ⟨rfl, p6⟩
            have p6H : Hidden (Fr (fun _ => False) w11 y6) := Fr.same p5H p6
            have kx := names_any (.pointer (some ⟨Ba, 0, none⟩)) g y6 (Gp.later hga p6H)
            clear p6
            go_wp2_with fail
            refine kx.mono ?_
            rintro e y7 ⟨⟨aoE, capE, rfl, tE⟩, p7⟩
            have p7H : Hidden (Fr (fun _ => False) w11 y7) := Fr.same p6H p7
            have tEH : Hidden (Tl y7 (.slice aoE (g).ks.length capE) (g).ks) := tE.tn.tl
            have kx := names_any (.pointer (some ⟨Bb, 0, none⟩)) g y7 (Gp.later hgb p7H)
            clear p7 tE
            go_wp2_with fail
            refine kx.mono ?_
            rintro e y8 ⟨⟨aoF, capF, rfl, tF⟩, p8⟩
            have p8H : Hidden (Fr (fun _ => False) w11 y8) := Fr.same p7H p8
            have kx := texts3_is _ _ _ _ _ (Tl.later tEH p8) tF.tn.tl true (by simp)
            clear p8 tF tEH
            go_wp2_with fail
            refine kx.mono ?_
            rintro e y9 ⟨rfl, p9⟩
            have p9H : Hidden (Fr (fun _ => False) w y9) := Fr.same fWH (Fr.same p8H p9)
            clear p9 kx
            go_wp2
            go_ret
            exact ⟨rfl, p9H⟩
theorem walk (v : Value) (nl : List Nd) (i k : Int) (w : World) (hm : NL w v nl) (hok : ∀ n ∈ nl, OkN n.1 ∧ ∀ x ∈ n.2, OkN x) (hsz : nl.length * 40 ≤ 140737488355328 ∧ ∀ n ∈ nl, n.2.length * 16 ≤ 140737488355328) (hi : (Lit.int .i64 i).wf = true) (hk : (Lit.int .i64 k).wf = true) :
    Calls Try.prog 8 #[v, .int .i64 i, .int .i64 k] w fun e w' => e = .returned (.bool true) ∧ Fr (fun _ => False) w w' := by
  obtain ⟨ao, cap, rfl, _⟩ := id hm
  by_cases h1 : i < 0
  · exact no ao cap nl i k w hm (Or.inl h1)
  by_cases h2 : k < 0
  · exact no ao cap nl i k w hm (Or.inr (Or.inl h2))
  by_cases h3 : (nl.length : Int) ≤ i
  · exact no ao cap nl i k w hm (Or.inr (Or.inr (Or.inl h3)))
  by_cases h4 : (nl.length : Int) ≤ k
  · exact no ao cap nl i k w hm (Or.inr (Or.inr (Or.inr (Or.inl h4))))
  obtain ⟨i, rfl⟩ := Int.eq_ofNat_of_zero_le (show 0 ≤ i by omega)
  obtain ⟨k, rfl⟩ := Int.eq_ofNat_of_zero_le (show 0 ≤ k by omega)
  have e1 : nl[i]? = some (nl[i]'(by omega)) := List.getElem?_eq_getElem _
  have e2 : nl[k]? = some (nl[k]'(by omega)) := List.getElem?_eq_getElem _
  by_cases h5 : 16 ≤ (nl[i]'(by omega)).2.length
  · exact no ao cap nl i k w hm (Or.inr (Or.inr (Or.inr (Or.inr ⟨i, _, rfl, e1, h5⟩))))
  · exact yes ao cap nl i k _ _ w hm hok hsz e1 e2 (by omega)
end Go.Proofs.Ytdnghklfeldbpaa.depgraphShuffled
