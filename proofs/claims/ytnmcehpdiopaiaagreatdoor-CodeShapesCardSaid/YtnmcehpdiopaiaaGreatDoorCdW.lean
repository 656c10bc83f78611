/- A function that is being gone through, in memory: least, note. -/
import Derived.Test.YtnmcehpdiopaiaaGreatDoorCdNAll
import Derived.Test.YtnmcehpdiopaiaaGreatDoorCdP
import Derived.Test.YtnmcehpdiopaiaaGreatDoorShelf3
import Derived.Deep.RegionHeld3
namespace Go.Proofs.YtnmcehpdiopaiaaGreatDoor.Cd
open Go.RowKit Ty
set_option linter.unusedSimpArgs false
set_option linter.unusedVariables false

def stN : Option (Bool × Sp) → Int
  | none => 0
  | some (false, _) => 1
  | some (true, _) => 2
def shO : Option (Bool × Sp) → Sp
  | none => ⟨[], []⟩
  | some (_, s) => s
def shC (s : Sp) : List Value := [ct (encSt s.st), ct (encTr s.tr), ci (s.tr.length : Int)]
abbrev shV (s : Sp) : Value := .agg #[ct (encSt s.st), ct (encTr s.tr), ci (s.tr.length : Int)]
def stC (L : Cs) : List Value := L.map fun c => .int .u8 (stN c)
def ahC (L : Cs) : List Value := L.flatMap fun c => shC (shO c)
/-- The walk's box and its two rows. -/
structure Wk (w : World) (q gs ga n : Nat) (v0 v1 v2 v3 v4 v5 : Value) (L : Cs) : Prop where
  box : w.heap[q]? = some (.cells #[v0, v1, v2, v3, v4, v5, .slice (some ⟨gs, 0, none⟩) n n, .slice (some ⟨ga, 0, none⟩) n n] 74 (0, 0))
  st : w.heap[gs]? = some (.cells (stC L).toArray 5 (0, 0))
  ah : w.heap[ga]? = some (.cells (ahC L).toArray 77 (0, 0))
  len : L.length = n
  qs : q ≠ gs
  qa : q ≠ ga
  sa : gs ≠ ga
theorem Wk.keep {S : Nat → Prop} {w w' : World} {q gs ga n : Nat} {v0 v1 v2 v3 v4 v5 : Value} {L : Cs} (h : Wk w q gs ga n v0 v1 v2 v3 v4 v5 L) (f : Fr S w w') (h1 : ¬ S q) (h2 : ¬ S gs) (h3 : ¬ S ga) : Wk w' q gs ga n v0 v1 v2 v3 v4 v5 L :=
  ⟨f.heap h.box h1, f.heap h.st h2, f.heap h.ah h3, h.len, h.qs, h.qa, h.sa⟩
theorem Wk.keepN {w w' : World} {q gs ga n : Nat} {v0 v1 v2 v3 v4 v5 : Value} {L : Cs} (h : Wk w q gs ga n v0 v1 v2 v3 v4 v5 L) (f : Fr (fun _ => False) w w') : Wk w' q gs ga n v0 v1 v2 v3 v4 v5 L := h.keep f (fun f => f) (fun f => f) (fun f => f)
theorem box8 {w : World} {b : Nat} {x0 x1 x2 x3 x4 x5 x6 x7 : Value} {t : TypeId} (hb : w.heap[b]? = some (.cells #[x0, x1, x2, x3, x4, x5, x6, x7] t (0, 0))) :
    w.cell? ⟨b, 0, none⟩ = some x0 ∧ w.cell? ⟨b, 1, none⟩ = some x1 ∧ w.cell? ⟨b, 2, none⟩ = some x2 ∧ w.cell? ⟨b, 3, none⟩ = some x3 ∧ w.cell? ⟨b, 4, none⟩ = some x4 ∧ w.cell? ⟨b, 5, none⟩ = some x5 ∧ w.cell? ⟨b, 6, none⟩ = some x6 ∧ w.cell? ⟨b, 7, none⟩ = some x7 :=
  ⟨cell_of_row _ _ 0 _ _ _ hb, cell_of_row _ _ 1 _ _ _ hb, cell_of_row _ _ 2 _ _ _ hb, cell_of_row _ _ 3 _ _ _ hb, cell_of_row _ _ 4 _ _ _ hb, cell_of_row _ _ 5 _ _ _ hb, cell_of_row _ _ 6 _ _ _ hb, cell_of_row _ _ 7 _ _ _ hb⟩
def lsI (L : Cs) : Int := match leastS L with
  | none => -1
  | some (k, _) => k
theorem lsI_next (L : Cs) : (match (leastS L).map (fun x : Nat × Sp => (x.1 + 1, x.2)) with | none => (-1 : Int) | some (k, _) => ((k : Nat) : Int)) = if lsI L == -1 then -1 else lsI L + 1 := by
  unfold lsI
  cases leastS L with
  | none => rfl
  | some x =>
    obtain ⟨k, s⟩ := x
    have : ((k : Int) == -1) = false := by rw [beq_eq_false_iff_ne]; omega
    simp only [Option.map_some, this]
    simp
theorem index_least : ∀ (L : Cs), Lib.indexByte (Lib.bytesOf (L.map stN)) 1 = lsI L
  | [] => rfl
  | none :: L => by
    show (if (UInt8.ofNat (stN none).toNat == (1 : UInt8)) = true then (0 : Int) else if Lib.indexByte (Lib.bytesOf (L.map stN)) 1 == -1 then -1 else Lib.indexByte (Lib.bytesOf (L.map stN)) 1 + 1) = (match (leastS L).map (fun x : Nat × Sp => (x.1 + 1, x.2)) with | none => (-1 : Int) | some (k, _) => ((k : Nat) : Int))
    rw [index_least L, lsI_next, if_neg (by decide)]
  | some (true, s) :: L => by
    show (if (UInt8.ofNat (stN (some (true, s))).toNat == (1 : UInt8)) = true then (0 : Int) else if Lib.indexByte (Lib.bytesOf (L.map stN)) 1 == -1 then -1 else Lib.indexByte (Lib.bytesOf (L.map stN)) 1 + 1) = (match (leastS L).map (fun x : Nat × Sp => (x.1 + 1, x.2)) with | none => (-1 : Int) | some (k, _) => ((k : Nat) : Int))
    rw [index_least L, lsI_next, if_neg (by show ¬ (UInt8.ofNat (2 : Int).toNat == (1 : UInt8)) = true; decide)]
  | some (false, s) :: L => rfl
theorem st_at {w : World} {gs : Nat} {L : Cs} {t : TypeId} (h : w.heap[gs]? = some (.cells (stC L).toArray t (0, 0))) {k : Nat} {c : Option (Bool × Sp)} (hk : L[k]? = some c) : w.cell? ⟨gs, k, none⟩ = some (.int .u8 (stN c)) := by
  rw [cell_of_row _ _ k _ _ _ h]
  simp [stC, hk]
theorem ahC_get : ∀ (L : Cs) (k : Nat) (c : Option (Bool × Sp)), L[k]? = some c → ∀ (j : Nat) (u : Value), (shC (shO c))[j]? = some u → (ahC L)[k * 3 + j]? = some u
  | [], k, c, h, _, _, _ => by simp at h
  | y :: r, 0, c, h, j, u, hu => by
    simp at h
    subst h
    have hj : j < (shC (shO y)).length := (List.getElem?_eq_some_iff.1 hu).1
    unfold ahC
    rw [List.flatMap_cons, List.getElem?_append_left (by omega), Nat.zero_mul, Nat.zero_add]
    exact hu
  | y :: r, k + 1, c, h, j, u, hu => by
    have hl : (shC (shO y)).length = 3 := rfl
    unfold ahC
    rw [List.flatMap_cons, List.getElem?_append_right (by rw [hl]; omega), hl, show (k + 1) * 3 + j - 3 = k * 3 + j by omega]
    exact ahC_get r k c (by simpa using h) j u hu
theorem ah_at {w : World} {ga : Nat} {L : Cs} {t : TypeId} (h : w.heap[ga]? = some (.cells (ahC L).toArray t (0, 0))) {k : Nat} {c : Option (Bool × Sp)} (hk : L[k]? = some c) :
    w.cell? ⟨ga, k * 3, none⟩ = some (ct (encSt (shO c).st)) ∧ w.cell? ⟨ga, k * 3 + 1, none⟩ = some (ct (encTr (shO c).tr)) ∧ w.cell? ⟨ga, k * 3 + 2, none⟩ = some (ci ((shO c).tr.length : Int)) := by
  refine ⟨?_, ?_, ?_⟩
  · rw [cell_of_row _ _ _ _ _ _ h]; simpa using ahC_get L k c hk 0 _ rfl
  · rw [cell_of_row _ _ _ _ _ _ h]; simpa using ahC_get L k c hk 1 _ rfl
  · rw [cell_of_row _ _ _ _ _ _ h]; simpa using ahC_get L k c hk 2 _ rfl
set_option maxRecDepth 20000 in
theorem least_any (q gs ga n : Nat) (v0 v1 v2 v3 v4 v5 : Value) (L : Cs) (w : World) (h : Wk w q gs ga n v0 v1 v2 v3 v4 v5 L) : Calls Tryz.prog 37 #[.pointer (some ⟨q, 0, none⟩)] w fun e w' => e = .returned (ci (lsI L)) ∧ w' = w := by
  have c6 := (box8 h.box).2.2.2.2.2.2.1
  have kb := Tryz.bytes_IndexByte_at ⟨gs, 0, none⟩ n n (L.map stN) 1 w (by simp [h.len]) (fun i hi => by
    have hl : i < L.length := by rw [h.len]; exact hi
    have := st_at h.st (List.getElem?_eq_getElem hl)
    rw [show (⟨gs, 0, none⟩ : Addr).add i = ⟨gs, i, none⟩ by cases i <;> simp [Addr.add], this]
    simp [List.getD, List.getElem?_map, List.getElem?_eq_getElem hl])
  rw [show ((1 : Int).toNat.toUInt8) = (1 : UInt8) from rfl, index_least] at kb
  generalize lsI L = R at kb ⊢
  clear h
  go_enter Tryz.func37, Tryz.ntmps37
  go_wp2_with (go_at_call 58; refine kb.mono ?_; rintro e w1 ⟨rfl, rfl⟩)
  go_ret
  exact ⟨rfl, rfl⟩
set_option maxRecDepth 20000 in
set_option maxHeartbeats 2000000 in
theorem note_old (q gs ga n k : Nat) (v0 v1 v2 v3 v4 v5 : Value) (L : Cs) (s s' : Sp) (g : Bool) (w : World) (h : Wk w q gs ga n v0 v1 v2 v3 v4 v5 L) (hk : L[k]? = some (some (g, s'))) (ho : OkS s) (ho' : OkS s') (hn : n ≤ 1000000) :
    Calls Tryz.prog 39 #[.pointer (some ⟨q, 0, none⟩), .agg #[ci (k : Int), ct (encSt s.st), ct (encTr s.tr), ci (s.tr.length : Int)]] w fun e w' => e = .returned (.bool (decide (s' = s))) ∧ Fr (fun _ => False) w w' := by
  have hkn : k < n := by rw [← h.len]; exact (List.getElem?_eq_some_iff.1 hk).1
  obtain ⟨_, _, _, _, _, _, c6, c7⟩ := box8 h.box
  have cs := st_at h.st hk
  obtain ⟨a0, a1, a2⟩ := ah_at h.ah hk
  have hst : (stN (some (g, s')) == 0) = false := by cases g <;> rfl
  generalize stN (some (g, s')) = z at cs hst
  simp only [shO] at a0 a1 a2
  have key : (s' = s ∧ encSt s'.st = encSt s.st ∧ encTr s'.tr = encTr s.tr) ∨ (s' ≠ s ∧ encSt s'.st ≠ encSt s.st) ∨ (s' ≠ s ∧ encSt s'.st = encSt s.st ∧ encTr s'.tr ≠ encTr s.tr) := by
    by_cases e : s' = s
    · exact Or.inl ⟨e, by rw [e], by rw [e]⟩
    · by_cases e1 : encSt s'.st = encSt s.st
      · exact Or.inr (Or.inr ⟨e, e1, fun e2 => e (sp_inj ho' ho e1 e2)⟩)
      · exact Or.inr (Or.inl ⟨e, e1⟩)
  clear h hk ho ho'
  obtain ⟨W, hW⟩ : ∃ W, W = w.alloc (.cells #[ci (k : Int), ct (encSt s.st), ct (encTr s.tr), ci (s.tr.length : Int)] 103 (0, 0)) := ⟨_, rfl⟩
  have fW : Fr (fun _ => False) w W := by rw [hW]; exact Fr.alloc _ _ _
  obtain ⟨b0, b1, b2, b3⟩ := box4 (show W.heap[w.heap.size]? = some (.cells #[ci (k : Int), ct (encSt s.st), ct (encTr s.tr), ci (s.tr.length : Int)] 103 (0, 0)) by rw [hW]; exact alloc_new _ _)
  replace c6 := fW.cellN c6
  replace c7 := fW.cellN c7
  replace cs := fW.cellN cs
  replace a0 := fW.cellN a0
  replace a1 := fW.cellN a1
  replace a2 := fW.cellN a2
  have fWH : Hidden (Fr (fun _ => False) w W) := fW
  clear fW
  rcases key with ⟨e, e1, e2⟩ | ⟨e, e1⟩ | ⟨e, e1, e2⟩
  · subst e
    rw [decide_eq_true rfl]
    clear e1 e2
    generalize encSt s'.st = x at *
    generalize encTr s'.tr = y at *
    generalize (s'.tr.length : Int) = m at *
    go_enter Tryz.func39, Tryz.ntmps39
    go_upto_region 1 with fail
    rw [← hW]
    clear hW
    go_region_held3 (fun w' => w'.cell? ⟨q, 6, none⟩ = some (.slice (some ⟨gs, 0, none⟩) n n) ∧ w'.cell? ⟨w.heap.size, 0, none⟩ = some (ci (k : Int)) ∧ w'.cell? ⟨gs, k, none⟩ = some (.int .u8 z)) (first | (refine ⟨by with_reducible assumption, by with_reducible assumption, by with_reducible assumption⟩) | go_keep) (fail)
    go_upto_region 3 with fail
    have fd : Fr (fun _ => False) W W.drew := Fr.drew _ _
    replace c7 := fd.cellN c7
    replace a0 := fd.cellN a0
    replace a1 := fd.cellN a1
    replace a2 := fd.cellN a2
    replace b0 := fd.cellN b0
    replace b1 := fd.cellN b1
    replace b2 := fd.cellN b2
    replace b3 := fd.cellN b3
    have fWH2 : Hidden (Fr (fun _ => False) w W.drew) := (show Fr (fun _ => False) w W from fWH).same fd
    clear fd fWH
    generalize W.drew = V at *
    go_region_held3 (fun w' => w'.cell? ⟨q, 7, none⟩ = some (.slice (some ⟨ga, 0, none⟩) n n) ∧ w'.cell? ⟨w.heap.size, 0, none⟩ = some (ci (k : Int)) ∧ w'.cell? ⟨w.heap.size, 1, none⟩ = some (ct x) ∧ w'.cell? ⟨w.heap.size, 2, none⟩ = some (ct y) ∧ w'.cell? ⟨w.heap.size, 3, none⟩ = some (ci m) ∧ w'.cell? ⟨ga, k * 3, none⟩ = some (ct x) ∧ w'.cell? ⟨ga, k * 3 + 1, none⟩ = some (ct y) ∧ w'.cell? ⟨ga, k * 3 + 2, none⟩ = some (ci m)) (first | (refine ⟨by with_reducible assumption, by with_reducible assumption, by with_reducible assumption, by with_reducible assumption, by with_reducible assumption, by with_reducible assumption, by with_reducible assumption, by with_reducible assumption⟩) | go_keep) (fail)
    all_goals
      go_wp2_with fail
      go_ret
      exact ⟨rfl, (show Fr (fun _ => False) w V from fWH2).same (Fr.drew _ _)⟩
  · rw [decide_eq_false e]
    generalize encSt s'.st = x at *
    generalize encTr s'.tr = y at *
    generalize (s'.tr.length : Int) = m at *
    generalize encSt s.st = x1 at *
    generalize encTr s.tr = y1 at *
    generalize (s.tr.length : Int) = m1 at *
    have e1b : (x == x1) = false := by simpa using e1
    clear e e1
    go_enter Tryz.func39, Tryz.ntmps39
    go_upto_region 1 with fail
    rw [← hW]
    clear hW
    go_region_held3 (fun w' => w'.cell? ⟨q, 6, none⟩ = some (.slice (some ⟨gs, 0, none⟩) n n) ∧ w'.cell? ⟨w.heap.size, 0, none⟩ = some (ci (k : Int)) ∧ w'.cell? ⟨gs, k, none⟩ = some (.int .u8 z)) (first | (refine ⟨by with_reducible assumption, by with_reducible assumption, by with_reducible assumption⟩) | go_keep) (fail)
    go_upto_region 3 with fail
    have fd : Fr (fun _ => False) W W.drew := Fr.drew _ _
    replace c7 := fd.cellN c7
    replace a0 := fd.cellN a0
    replace a1 := fd.cellN a1
    replace a2 := fd.cellN a2
    replace b0 := fd.cellN b0
    replace b1 := fd.cellN b1
    replace b2 := fd.cellN b2
    replace b3 := fd.cellN b3
    have fWH2 : Hidden (Fr (fun _ => False) w W.drew) := (show Fr (fun _ => False) w W from fWH).same fd
    clear fd fWH
    generalize W.drew = V at *
    go_region_held3 (fun w' => w'.cell? ⟨q, 7, none⟩ = some (.slice (some ⟨ga, 0, none⟩) n n) ∧ w'.cell? ⟨w.heap.size, 0, none⟩ = some (ci (k : Int)) ∧ w'.cell? ⟨w.heap.size, 1, none⟩ = some (ct x1) ∧ w'.cell? ⟨w.heap.size, 2, none⟩ = some (ct y1) ∧ w'.cell? ⟨w.heap.size, 3, none⟩ = some (ci m1) ∧ w'.cell? ⟨ga, k * 3, none⟩ = some (ct x) ∧ w'.cell? ⟨ga, k * 3 + 1, none⟩ = some (ct y) ∧ w'.cell? ⟨ga, k * 3 + 2, none⟩ = some (ci m)) (first | (refine ⟨by with_reducible assumption, by with_reducible assumption, by with_reducible assumption, by with_reducible assumption, by with_reducible assumption, by with_reducible assumption, by with_reducible assumption, by with_reducible assumption⟩) | go_keep) (fail)
    all_goals
      go_wp2_with fail
      go_ret
      exact ⟨rfl, (show Fr (fun _ => False) w V from fWH2).same (Fr.drew _ _)⟩
  · rw [decide_eq_false e]
    rw [e1] at a0
    generalize encTr s'.tr = y at *
    generalize (s'.tr.length : Int) = m at *
    clear e1
    generalize encSt s.st = x1 at *
    generalize encTr s.tr = y1 at *
    generalize (s.tr.length : Int) = m1 at *
    have e2b : (y == y1) = false := by simpa using e2
    clear e e2
    go_enter Tryz.func39, Tryz.ntmps39
    go_upto_region 1 with fail
    rw [← hW]
    clear hW
    go_region_held3 (fun w' => w'.cell? ⟨q, 6, none⟩ = some (.slice (some ⟨gs, 0, none⟩) n n) ∧ w'.cell? ⟨w.heap.size, 0, none⟩ = some (ci (k : Int)) ∧ w'.cell? ⟨gs, k, none⟩ = some (.int .u8 z)) (first | (refine ⟨by with_reducible assumption, by with_reducible assumption, by with_reducible assumption⟩) | go_keep) (fail)
    go_upto_region 3 with fail
    have fd : Fr (fun _ => False) W W.drew := Fr.drew _ _
    replace c7 := fd.cellN c7
    replace a0 := fd.cellN a0
    replace a1 := fd.cellN a1
    replace a2 := fd.cellN a2
    replace b0 := fd.cellN b0
    replace b1 := fd.cellN b1
    replace b2 := fd.cellN b2
    replace b3 := fd.cellN b3
    have fWH2 : Hidden (Fr (fun _ => False) w W.drew) := (show Fr (fun _ => False) w W from fWH).same fd
    clear fd fWH
    generalize W.drew = V at *
    go_region_held3 (fun w' => w'.cell? ⟨q, 7, none⟩ = some (.slice (some ⟨ga, 0, none⟩) n n) ∧ w'.cell? ⟨w.heap.size, 0, none⟩ = some (ci (k : Int)) ∧ w'.cell? ⟨w.heap.size, 1, none⟩ = some (ct x1) ∧ w'.cell? ⟨w.heap.size, 2, none⟩ = some (ct y1) ∧ w'.cell? ⟨w.heap.size, 3, none⟩ = some (ci m1) ∧ w'.cell? ⟨ga, k * 3, none⟩ = some (ct x1) ∧ w'.cell? ⟨ga, k * 3 + 1, none⟩ = some (ct y) ∧ w'.cell? ⟨ga, k * 3 + 2, none⟩ = some (ci m)) (first | (refine ⟨by with_reducible assumption, by with_reducible assumption, by with_reducible assumption, by with_reducible assumption, by with_reducible assumption, by with_reducible assumption, by with_reducible assumption, by with_reducible assumption⟩) | go_keep) (fail)
    all_goals
      go_wp2_with fail
      go_ret
      exact ⟨rfl, (show Fr (fun _ => False) w V from fWH2).same (Fr.drew _ _)⟩
end Go.Proofs.YtnmcehpdiopaiaaGreatDoor.Cd
