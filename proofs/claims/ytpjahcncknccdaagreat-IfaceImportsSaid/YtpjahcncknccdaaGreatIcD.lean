/- slices.SortFunc of items by their names. -/
import Derived.Test.YtpjahcncknccdaaGreatIcC
import Derived.Test.YtpjahcncknccdaaGreatShelf4
import Derived.Test.YtpjahcncknccdaaGreatNzC
import Derived.Shelf.SlSortCmp.NoneTotal
namespace Go.Proofs.YtpjahcncknccdaaGreat.Fo.Ic
open Go.RowKit Te Go.Sort Go.Shelf
set_option linter.unusedSimpArgs false
set_option linter.unusedVariables false

/-- An item, and where its parameters lie. -/
abbrev IV := Ty.It × Option Addr × Nat
abbrev encI (x : IV) : List Value := [ci x.1.kind, ct x.1.name, ci x.1.typ, .int .u64 x.1.bits, .slice x.2.1 x.1.params.length x.2.2]
def RP (x : IV) (cs : List Value) : Prop := cs = encI x
abbrev cfI (x y : IV) : Int := U.cmpS x.1.name y.1.name
theorem cmpS_neg (a b : Bs) : U.cmpS a b < 0 ↔ a < b := by
  unfold U.cmpS
  by_cases h : a < b
  · simp [h]
  · rw [if_neg h]
    by_cases g : b < a
    · simp [g, h]
    · simp [g, h]
theorem ltI (x y : IV) : ltOf cfI x y = decide (x.1.name < y.1.name) := by
  unfold ltOf
  exact decide_eq_decide.2 (cmpS_neg _ _)
theorem swoI : SWO (ltOf cfI) where
  irrefl x := by rw [ltI]; simp [Std.lt_irrefl]
  trans x y z h1 h2 := by
    rw [ltI, decide_eq_true_iff] at *
    exact Std.lt_trans h1 h2
  ntrans x y z h1 h2 := by
    rw [ltI, decide_eq_false_iff_not] at *
    intro h3
    rcases Std.lt_trichotomy x.1.name y.1.name with q | q | q
    · exact h1 q
    · rw [← q] at h2; exact h2 h3
    · exact h2 (Std.lt_trans q h3)
set_option maxHeartbeats 1000000 in
theorem closure_any (x y : IV) (W : World) : Calls Tryz.prog 68 #[.agg (encI x).toArray, .agg (encI y).toArray] W fun e w' => e = .returned (.int .i64 (cfI x y)) ∧ ∃ q os', w' = grow (W.drewN q) os' := by
  obtain ⟨⟨k1, n1, t1, b1, p1⟩, a1, c1⟩ := x
  obtain ⟨⟨k2, n2, t2, b2, p2⟩, a2, c2⟩ := y
  show Calls Tryz.prog 68 #[.agg #[ci k1, ct n1, ci t1, .int .u64 b1, .slice a1 p1.length c1], .agg #[ci k2, ct n2, ci t2, .int .u64 b2, .slice a2 p2.length c2]] W fun e w' => e = .returned (.int .i64 (U.cmpS n1 n2)) ∧ ∃ q os', w' = grow (W.drewN q) os'
  have hcon := fun W' => U.cmp_any n1 n2 _ rfl W'
  generalize U.cmpS n1 n2 = r at hcon ⊢
  go_enter Tryz.func68, Tryz.ntmps68
  go_wp2_with (go_at_call 22; refine (hcon _).mono ?_; rintro e w' ⟨rfl, rfl⟩)
  go_ret
  exact ⟨rfl, 0, _, by rw [alloc_eq_grow, alloc_eq_grow, grow_grow]; rfl⟩
theorem itChunks : ∀ (l : List IV), Rw.Chunks RP 5 l (l.flatMap encI)
  | [] => rfl
  | c :: l => ⟨encI c, l.flatMap encI, by rw [List.flatMap_cons], rfl, rfl, itChunks l⟩
theorem chunksIt : ∀ (l : List IV) (cs : List Value), Rw.Chunks RP 5 l cs → cs = l.flatMap encI
  | [], cs, h => h
  | c :: l, cs, ⟨d, rest, e, h1, h2, h3⟩ => by
    have h2 : d = encI c := h2
    rw [e, h2, chunksIt l rest h3, List.flatMap_cons]
theorem flat_get [Inhabited IV] (l : List IV) (j : Nat) (hj : j < l.length * 5) : (l.flatMap encI)[j]? = some ((encI (l.toArray[j / 5]!))[j % 5]!) := by
  have hi : j / 5 < l.length := by omega
  have hx : l[j / 5]? = some l[j / 5] := List.getElem?_eq_getElem hi
  obtain ⟨c, h1, h2, h3⟩ := (itChunks l).get hx
  have h1 : c = encI l[j / 5] := h1
  subst h1
  have hm : j % 5 < (encI l[j / 5]).length := by have : (encI l[j / 5]).length = 5 := rfl; omega
  have := h3 (j % 5) _ (List.getElem?_eq_getElem hm)
  rw [show j / 5 * 5 + j % 5 = j by omega] at this
  rw [this]
  have e : l.toArray[j / 5]! = l[j / 5] := by rw [getElem!_pos l.toArray (j / 5) (by simpa using hi)]; simp
  rw [e, getElem!_pos (encI l[j / 5]) (j % 5) hm]
theorem holds_row [Inhabited IV] {w : World} {g : Nat} {l : List IV} {cur : Array Value} {t : TypeId} (hg : w.heap[g]? = some (.cells cur t (0, 0))) (ht : cur.toList.take (l.length * 5) = l.flatMap encI) : HoldsK encI 5 w g 0 l.toArray := by
  intro j hj
  rw [size_flatK] at hj
  have hj' : j < l.length * 5 := by simpa using hj
  refine ⟨?_, Ty.frozen_row hg _⟩
  rw [Nat.zero_add, cell_of_row w g j cur t (0, 0) hg, get_flatK _ _ _ _ hj]
  have e : cur.toList[j]? = (l.flatMap encI)[j]? := by rw [← ht, List.getElem?_take_of_lt hj']
  rw [← Array.getElem?_toList, e, flat_get l j hj']
  rfl
theorem fr_put [Inhabited IV] {w : World} {blk n : Nat} {d : Array IV} {os : Array Obj} : Fr (fun k => k = blk) w (sortWorldK encI 5 w blk 0 n d os) := by
  refine ⟨rfl, rfl, by simp [sortWorldK, putRowK], fun k hk hne => ?_⟩
  unfold sortWorldK putRowK
  rw [heap_grow_old _ _ (by simpa using hk)]
  have hne' : ¬ blk = k := fun e => hne e.symm
  simp [putRow, mapBlock, Sort.ahead, Array.getElem?_modify, hne']
theorem row_put [Inhabited IV] {w : World} {B g cap n : Nat} {l' : List IV} {cur : Array Value} {os : Array Obj} (hg : w.heap[g]? = some (.cells cur 59 (0, 0))) (hB : B ≤ g) (hcs : cur.size = cap * 5) (hlc : l'.length ≤ cap) (hcm : cap ≤ maxLen) :
    Rw.Row RP 59 5 (sortWorldK encI 5 w g 0 n l'.toArray os) B (.slice (some ⟨g, 0, none⟩) l'.length cap) l' := by
  have hh : (sortWorldK encI 5 w g 0 n l'.toArray os).heap[g]? = some (.cells (putCells id 0 (flatK encI 5 l'.toArray) cur) 59 (0, 0)) := by
    unfold sortWorldK putRowK
    rw [heap_grow_old _ _ (by simpa using lt_of_heap hg)]
    simp [putRow, mapBlock, Sort.ahead, Array.getElem?_modify, hg, onCells]
  refine ⟨l'.flatMap encI, ⟨?_, Or.inr ⟨g, cap, _, rfl, hB, hh, hlc, hcm, by simp [putCells, hcs], ?_⟩⟩, itChunks _⟩
  · rw [(itChunks l').len]
  apply List.ext_getElem?
  intro i
  rw [List.getElem?_take]
  by_cases hi : i < l'.length * 5
  · rw [if_pos hi, flat_get l' i hi, Array.getElem?_toList]
    have hci : i < cur.size := by omega
    simp only [putCells, Array.getElem?_mapIdx, Array.getElem?_eq_getElem hci, Option.map_some]
    have hfs : i < (flatK encI 5 l'.toArray).size := by rw [size_flatK]; simpa using hi
    rw [if_pos ⟨Nat.zero_le _, by omega⟩, Nat.sub_zero, get_flatK _ _ _ _ (by simpa using hi)]
    rfl
  · rw [if_neg hi, List.getElem?_eq_none (by rw [(itChunks l').len]; omega)]
theorem isAgg_item (w : World) : (isAgg 59).run Tryz.prog w = .ok true w := by
  simp [isAgg, go_sem]
theorem size_item (w : World) : (Go.sizeOf 59).run Tryz.prog w = .ok 5 w := by
  simp [Go.sizeOf, go_sem]
  rfl
theorem sort_any (l : List IV) (v : Value) (B : Nat) (w : World) (h : Rw.Row RP 59 5 w B v l) (hlen : l.length ≤ 1048576) :
    Calls Tryz.prog 67 #[v, .func (.func 68) #[] #[]] w fun e w' => e = .returned (.tuple #[]) ∧ ∃ l', l'.Perm l ∧ l'.Pairwise (fun x y => ¬ y.1.name < x.1.name) ∧ Rw.Row RP 59 5 w' B v l' ∧ Fr (fun k => v.ownBlock = some k) w w' := by
  haveI : Inhabited IV := ⟨(⟨0, [], 0, 0, []⟩, none, 0)⟩
  obtain ⟨cells, h1, h2⟩ := h
  have e := chunksIt l cells h2
  have hh := h1
  rcases h1.2 with ⟨rfl, h0⟩ | ⟨g, cap, cur, rfl, hb, hg, hnc, hcm, hcs, ht⟩
  · have hl : l = [] := List.eq_nil_of_length_eq_zero h0
    have := AnyF.slices_SortFunc_none Tryz.sortItems none 0 (.func (.func 68) #[] #[]) w
    refine Calls.mono this ?_
    rintro e w' ⟨rfl, rfl⟩
    exact ⟨rfl, l, List.Perm.refl _, by rw [hl]; exact List.Pairwise.nil, ⟨cells, hh, h2⟩, Fr.refl _ _⟩
  · rw [e] at ht
    have eg : ∀ args w, (callFunc 68 args).run Tryz.prog w = .ok (.enter 68 args) w := enters_of Tryz.func68 (by kernel_rfl) rfl
    have hsz : l.toArray.size < 4611686018427387904 := by simp; omega
    have hcon := AnyQ.slices_SortFunc Tryz.sortItems 5 isAgg_item size_item encI (fun _ => rfl) (fun x v hv => by simp only [encI, List.mem_cons, List.not_mem_nil, or_false] at hv; rcases hv with rfl | rfl | rfl | rfl | rfl <;> rfl) cfI swoI 68 #[] g 0 cap l.toArray w eg (fun m os dk hdk x y => closure_any x y _) (holds_row hg ht) (lt_of_heap hg) hsz
    have hcon : Calls Tryz.prog 67 #[.slice (some ⟨g, 0, none⟩) l.toArray.size cap, .func (.func 68) #[] #[]] w _ := hcon
    rw [List.size_toArray] at hcon
    refine Calls.mono hcon ?_
    rintro e w' ⟨rfl, d', n, os, hp, hs, rfl⟩
    have hds : d'.size = l.length := by simpa using hp.1
    refine ⟨rfl, d'.toList, ?_, ?_, ?_, fr_put.mono fun k _ e => by rw [e]; rfl⟩
    · have := hp.2.2
      rw [show d'.extract 0 l.length = d' by rw [← hds]; simp, show l.toArray.extract 0 l.length = l.toArray by simp] at this
      simpa using this
    · rw [List.pairwise_iff_getElem]
      intro i j hi hj hij
      have := hs i j (Nat.zero_le _) hij (by simpa [hds] using hj)
      rw [ltI, decide_eq_false_iff_not] at this
      have hi' : i < d'.size := by simpa using hi
      have hj' : j < d'.size := by simpa using hj
      rw [getElem!_pos d' i hi', getElem!_pos d' j hj'] at this
      simpa using this
    · have := row_put (l' := d'.toList) (n := n) (os := os) hg hb hcs (by simpa [hds] using hnc) hcm
      rw [show d'.toList.length = l.length by simpa using hds] at this
      simpa using this
end Go.Proofs.YtpjahcncknccdaaGreat.Fo.Ic
