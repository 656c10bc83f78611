/- Texts of ours, in one. -/
import Derived.Test.YtoiglopilpoafaaGreatDoorPk13
import Derived.Deep.RegionHeld3
namespace Go.Proofs.YtoiglopilpoafaaGreatDoor.Cd
open Go.RowKit Ty
set_option linter.unusedSimpArgs false
set_option linter.unusedVariables false

def stN : Option (Bool × Sp) → Int
  | none => 0
  | some (false, _) => 1
  | some (true, _) => 2
def shO : Option (Bool × Sp) → Sp
  | none => ⟨[], []⟩
  | some (_, s) => s
def shC (s : Sp) : List Value := [ct (encSt s.st), ct (encTr s.tr), ci (s.tr.length : Int)]
abbrev shV (s : Sp) : Value := .agg #[ct (encSt s.st), ct (encTr s.tr), ci (s.tr.length : Int)]
def stC (L : Cs) : List Value := L.map fun c => .int .u8 (stN c)
def ahC (L : Cs) : List Value := L.flatMap fun c => shC (shO c)
/-- The walk's box and its two rows. -/
structure Wk (w : World) (q gs ga n : Nat) (v0 v1 v2 v3 v4 v5 : Value) (L : Cs) : Prop where
  box : w.heap[q]? = some (.cells #[v0, v1, v2, v3, v4, v5, .slice (some ⟨gs, 0, none⟩) n n, .slice (some ⟨ga, 0, none⟩) n n] 143 (0, 0))
  st : w.heap[gs]? = some (.cells (stC L).toArray 5 (0, 0))
  ah : w.heap[ga]? = some (.cells (ahC L).toArray 148 (0, 0))
  len : L.length = n
  qs : q ≠ gs
  qa : q ≠ ga
  sa : gs ≠ ga
theorem Wk.keep {S : Nat → Prop} {w w' : World} {q gs ga n : Nat} {v0 v1 v2 v3 v4 v5 : Value} {L : Cs} (h : Wk w q gs ga n v0 v1 v2 v3 v4 v5 L) (f : Fr S w w') (h1 : ¬ S q) (h2 : ¬ S gs) (h3 : ¬ S ga) : Wk w' q gs ga n v0 v1 v2 v3 v4 v5 L :=
  ⟨f.heap h.box h1, f.heap h.st h2, f.heap h.ah h3, h.len, h.qs, h.qa, h.sa⟩
theorem Wk.keepN {w w' : World} {q gs ga n : Nat} {v0 v1 v2 v3 v4 v5 : Value} {L : Cs} (h : Wk w q gs ga n v0 v1 v2 v3 v4 v5 L) (f : Fr (fun _ => False) w w') : Wk w' q gs ga n v0 v1 v2 v3 v4 v5 L := h.keep f (fun f => f) (fun f => f) (fun f => f)
theorem box8 {w : World} {b : Nat} {x0 x1 x2 x3 x4 x5 x6 x7 : Value} {t : TypeId} (hb : w.heap[b]? = some (.cells #[x0, x1, x2, x3, x4, x5, x6, x7] t (0, 0))) :
    w.cell? ⟨b, 0, none⟩ = some x0 ∧ w.cell? ⟨b, 1, none⟩ = some x1 ∧ w.cell? ⟨b, 2, none⟩ = some x2 ∧ w.cell? ⟨b, 3, none⟩ = some x3 ∧ w.cell? ⟨b, 4, none⟩ = some x4 ∧ w.cell? ⟨b, 5, none⟩ = some x5 ∧ w.cell? ⟨b, 6, none⟩ = some x6 ∧ w.cell? ⟨b, 7, none⟩ = some x7 :=
  ⟨cell_of_row _ _ 0 _ _ _ hb, cell_of_row _ _ 1 _ _ _ hb, cell_of_row _ _ 2 _ _ _ hb, cell_of_row _ _ 3 _ _ _ hb, cell_of_row _ _ 4 _ _ _ hb, cell_of_row _ _ 5 _ _ _ hb, cell_of_row _ _ 6 _ _ _ hb, cell_of_row _ _ 7 _ _ _ hb⟩
def lsI (L : Cs) : Int := match leastS L with
  | none => -1
  | some (k, _) => k
theorem lsI_next (L : Cs) : (match (leastS L).map (fun x : Nat × Sp => (x.1 + 1, x.2)) with | none => (-1 : Int) | some (k, _) => ((k : Nat) : Int)) = if lsI L == -1 then -1 else lsI L + 1 := by
  unfold lsI
  cases leastS L with
  | none => rfl
  | some x =>
    obtain ⟨k, s⟩ := x
    have : ((k : Int) == -1) = false := by rw [beq_eq_false_iff_ne]; omega
    simp only [Option.map_some, this]
    simp
theorem index_least : ∀ (L : Cs), Lib.indexByte (Lib.bytesOf (L.map stN)) 1 = lsI L
  | [] => rfl
  | none :: L => by
    show (if (UInt8.ofNat (stN none).toNat == (1 : UInt8)) = true then (0 : Int) else if Lib.indexByte (Lib.bytesOf (L.map stN)) 1 == -1 then -1 else Lib.indexByte (Lib.bytesOf (L.map stN)) 1 + 1) = (match (leastS L).map (fun x : Nat × Sp => (x.1 + 1, x.2)) with | none => (-1 : Int) | some (k, _) => ((k : Nat) : Int))
    rw [index_least L, lsI_next, if_neg (by decide)]
  | some (true, s) :: L => by
    show (if (UInt8.ofNat (stN (some (true, s))).toNat == (1 : UInt8)) = true then (0 : Int) else if Lib.indexByte (Lib.bytesOf (L.map stN)) 1 == -1 then -1 else Lib.indexByte (Lib.bytesOf (L.map stN)) 1 + 1) = (match (leastS L).map (fun x : Nat × Sp => (x.1 + 1, x.2)) with | none => (-1 : Int) | some (k, _) => ((k : Nat) : Int))
    rw [index_least L, lsI_next, if_neg (by show ¬ (UInt8.ofNat (2 : Int).toNat == (1 : UInt8)) = true; decide)]
  | some (false, s) :: L => rfl
theorem st_at {w : World} {gs : Nat} {L : Cs} {t : TypeId} (h : w.heap[gs]? = some (.cells (stC L).toArray t (0, 0))) {k : Nat} {c : Option (Bool × Sp)} (hk : L[k]? = some c) : w.cell? ⟨gs, k, none⟩ = some (.int .u8 (stN c)) := by
  rw [cell_of_row _ _ k _ _ _ h]
  simp [stC, hk]
theorem ahC_get : ∀ (L : Cs) (k : Nat) (c : Option (Bool × Sp)), L[k]? = some c → ∀ (j : Nat) (u : Value), (shC (shO c))[j]? = some u → (ahC L)[k * 3 + j]? = some u
  | [], k, c, h, _, _, _ => by simp at h
  | y :: r, 0, c, h, j, u, hu => by
    simp at h
    subst h
    have hj : j < (shC (shO y)).length := (List.getElem?_eq_some_iff.1 hu).1
    unfold ahC
    rw [List.flatMap_cons, List.getElem?_append_left (by omega), Nat.zero_mul, Nat.zero_add]
    exact hu
  | y :: r, k + 1, c, h, j, u, hu => by
    have hl : (shC (shO y)).length = 3 := rfl
    unfold ahC
    rw [List.flatMap_cons, List.getElem?_append_right (by rw [hl]; omega), hl, show (k + 1) * 3 + j - 3 = k * 3 + j by omega]
    exact ahC_get r k c (by simpa using h) j u hu
theorem ah_at {w : World} {ga : Nat} {L : Cs} {t : TypeId} (h : w.heap[ga]? = some (.cells (ahC L).toArray t (0, 0))) {k : Nat} {c : Option (Bool × Sp)} (hk : L[k]? = some c) :
    w.cell? ⟨ga, k * 3, none⟩ = some (ct (encSt (shO c).st)) ∧ w.cell? ⟨ga, k * 3 + 1, none⟩ = some (ct (encTr (shO c).tr)) ∧ w.cell? ⟨ga, k * 3 + 2, none⟩ = some (ci ((shO c).tr.length : Int)) := by
  refine ⟨?_, ?_, ?_⟩
  · rw [cell_of_row _ _ _ _ _ _ h]; simpa using ahC_get L k c hk 0 _ rfl
  · rw [cell_of_row _ _ _ _ _ _ h]; simpa using ahC_get L k c hk 1 _ rfl
  · rw [cell_of_row _ _ _ _ _ _ h]; simpa using ahC_get L k c hk 2 _ rfl
set_option maxRecDepth 20000 in
theorem least_any (q gs ga n : Nat) (v0 v1 v2 v3 v4 v5 : Value) (L : Cs) (w : World) (h : Wk w q gs ga n v0 v1 v2 v3 v4 v5 L) : Calls Tryz.prog 72 #[.pointer (some ⟨q, 0, none⟩)] w fun e w' => e = .returned (ci (lsI L)) ∧ w' = w := by
  have c6 := (box8 h.box).2.2.2.2.2.2.1
  have kb := Tryz.bytes_IndexByte_at ⟨gs, 0, none⟩ n n (L.map stN) 1 w (by simp [h.len]) (fun i hi => by
    have hl : i < L.length := by rw [h.len]; exact hi
    have := st_at h.st (List.getElem?_eq_getElem hl)
    rw [show (⟨gs, 0, none⟩ : Addr).add i = ⟨gs, i, none⟩ by cases i <;> simp [Addr.add], this]
    simp [List.getD, List.getElem?_map, List.getElem?_eq_getElem hl])
  rw [show ((1 : Int).toNat.toUInt8) = (1 : UInt8) from rfl, index_least] at kb
  generalize lsI L = R at kb ⊢
  clear h
  go_enter Tryz.func72, Tryz.ntmps72
  go_wp2_with (go_at_call 92; refine kb.mono ?_; rintro e w1 ⟨rfl, rfl⟩)
  go_ret
  exact ⟨rfl, rfl⟩
set_option maxRecDepth 20000 in
set_option maxHeartbeats 2000000 in
theorem note_old (q gs ga n k : Nat) (v0 v1 v2 v3 v4 v5 : Value) (L : Cs) (s s' : Sp) (g : Bool) (w : World) (h : Wk w q gs ga n v0 v1 v2 v3 v4 v5 L) (hk : L[k]? = some (some (g, s'))) (ho : OkS s) (ho' : OkS s') (hn : n ≤ 1000000) :
    Calls Tryz.prog 74 #[.pointer (some ⟨q, 0, none⟩), .agg #[ci (k : Int), ct (encSt s.st), ct (encTr s.tr), ci (s.tr.length : Int)]] w fun e w' => e = .returned (.bool (decide (s' = s))) ∧ Fr (fun _ => False) w w' := by
  have hkn : k < n := by rw [← h.len]; exact (List.getElem?_eq_some_iff.1 hk).1
  obtain ⟨_, _, _, _, _, _, c6, c7⟩ := box8 h.box
  have cs := st_at h.st hk
  obtain ⟨a0, a1, a2⟩ := ah_at h.ah hk
  have hst : (stN (some (g, s')) == 0) = false := by cases g <;> rfl
  generalize stN (some (g, s')) = z at cs hst
  simp only [shO] at a0 a1 a2
  have key : (s' = s ∧ encSt s'.st = encSt s.st ∧ encTr s'.tr = encTr s.tr) ∨ (s' ≠ s ∧ encSt s'.st ≠ encSt s.st) ∨ (s' ≠ s ∧ encSt s'.st = encSt s.st ∧ encTr s'.tr ≠ encTr s.tr) := by
    by_cases e : s' = s
    · exact Or.inl ⟨e, by rw [e], by rw [e]⟩
    · by_cases e1 : encSt s'.st = encSt s.st
      · exact Or.inr (Or.inr ⟨e, e1, fun e2 => e (sp_inj ho' ho e1 e2)⟩)
      · exact Or.inr (Or.inl ⟨e, e1⟩)
  clear h hk ho ho'
  obtain ⟨W, hW⟩ : ∃ W, W = w.alloc (.cells #[ci (k : Int), ct (encSt s.st), ct (encTr s.tr), ci (s.tr.length : Int)] 150 (0, 0)) := ⟨_, rfl⟩
  have fW : Fr (fun _ => False) w W := by rw [hW]; exact Fr.alloc _ _ _
  obtain ⟨b0, b1, b2, b3⟩ := box4 (show W.heap[w.heap.size]? = some (.cells #[ci (k : Int), ct (encSt s.st), ct (encTr s.tr), ci (s.tr.length : Int)] 150 (0, 0)) by rw [hW]; exact alloc_new _ _)
  replace c6 := fW.cellN c6
  replace c7 := fW.cellN c7
  replace cs := fW.cellN cs
  replace a0 := fW.cellN a0
  replace a1 := fW.cellN a1
  replace a2 := fW.cellN a2
  have fWH : Hidden (Fr (fun _ => False) w W) := fW
  clear fW
  rcases key with ⟨e, e1, e2⟩ | ⟨e, e1⟩ | ⟨e, e1, e2⟩
  · subst e
    rw [decide_eq_true rfl]
    clear e1 e2
    generalize encSt s'.st = x at *
    generalize encTr s'.tr = y at *
    generalize (s'.tr.length : Int) = m at *
    go_enter Tryz.func74, Tryz.ntmps74
    go_upto_region 1 with fail
    rw [← hW]
    clear hW
    go_region_held3 (fun w' => w'.cell? ⟨q, 6, none⟩ = some (.slice (some ⟨gs, 0, none⟩) n n) ∧ w'.cell? ⟨w.heap.size, 0, none⟩ = some (ci (k : Int)) ∧ w'.cell? ⟨gs, k, none⟩ = some (.int .u8 z)) (first | (refine ⟨by with_reducible assumption, by with_reducible assumption, by with_reducible assumption⟩) | go_keep) (fail)
    go_upto_region 3 with fail
    have fd : Fr (fun _ => False) W W.drew := Fr.drew _ _
    replace c7 := fd.cellN c7
    replace a0 := fd.cellN a0
    replace a1 := fd.cellN a1
    replace a2 := fd.cellN a2
    replace b0 := fd.cellN b0
    replace b1 := fd.cellN b1
    replace b2 := fd.cellN b2
    replace b3 := fd.cellN b3
    have fWH2 : Hidden (Fr (fun _ => False) w W.drew) := (show Fr (fun _ => False) w W from fWH).same fd
    clear fd fWH
    generalize W.drew = V at *
    go_region_held3 (fun w' => w'.cell? ⟨q, 7, none⟩ = some (.slice (some ⟨ga, 0, none⟩) n n) ∧ w'.cell? ⟨w.heap.size, 0, none⟩ = some (ci (k : Int)) ∧ w'.cell? ⟨w.heap.size, 1, none⟩ = some (ct x) ∧ w'.cell? ⟨w.heap.size, 2, none⟩ = some (ct y) ∧ w'.cell? ⟨w.heap.size, 3, none⟩ = some (ci m) ∧ w'.cell? ⟨ga, k * 3, none⟩ = some (ct x) ∧ w'.cell? ⟨ga, k * 3 + 1, none⟩ = some (ct y) ∧ w'.cell? ⟨ga, k * 3 + 2, none⟩ = some (ci m)) (first | (refine ⟨by with_reducible assumption, by with_reducible assumption, by with_reducible assumption, by with_reducible assumption, by with_reducible assumption, by with_reducible assumption, by with_reducible assumption, by with_reducible assumption⟩) | go_keep) (fail)
    all_goals
      go_wp2_with fail
      go_ret
      exact ⟨rfl, (show Fr (fun _ => False) w V from fWH2).same (Fr.drew _ _)⟩
  · rw [decide_eq_false e]
    generalize encSt s'.st = x at *
    generalize encTr s'.tr = y at *
    generalize (s'.tr.length : Int) = m at *
    generalize encSt s.st = x1 at *
    generalize encTr s.tr = y1 at *
    generalize (s.tr.length : Int) = m1 at *
    have e1b : (x == x1) = false := by simpa using e1
    clear e e1
    go_enter Tryz.func74, Tryz.ntmps74
    go_upto_region 1 with fail
    rw [← hW]
    clear hW
    go_region_held3 (fun w' => w'.cell? ⟨q, 6, none⟩ = some (.slice (some ⟨gs, 0, none⟩) n n) ∧ w'.cell? ⟨w.heap.size, 0, none⟩ = some (ci (k : Int)) ∧ w'.cell? ⟨gs, k, none⟩ = some (.int .u8 z)) (first | (refine ⟨by with_reducible assumption, by with_reducible assumption, by with_reducible assumption⟩) | go_keep) (fail)
    go_upto_region 3 with fail
    have fd : Fr (fun _ => False) W W.drew := Fr.drew _ _
    replace c7 := fd.cellN c7
    replace a0 := fd.cellN a0
    replace a1 := fd.cellN a1
    replace a2 := fd.cellN a2
    replace b0 := fd.cellN b0
    replace b1 := fd.cellN b1
    replace b2 := fd.cellN b2
    replace b3 := fd.cellN b3
    have fWH2 : Hidden (Fr (fun _ => False) w W.drew) := (show Fr (fun _ => False) w W from fWH).same fd
    clear fd fWH
    generalize W.drew = V at *
    go_region_held3 (fun w' => w'.cell? ⟨q, 7, none⟩ = some (.slice (some ⟨ga, 0, none⟩) n n) ∧ w'.cell? ⟨w.heap.size, 0, none⟩ = some (ci (k : Int)) ∧ w'.cell? ⟨w.heap.size, 1, none⟩ = some (ct x1) ∧ w'.cell? ⟨w.heap.size, 2, none⟩ = some (ct y1) ∧ w'.cell? ⟨w.heap.size, 3, none⟩ = some (ci m1) ∧ w'.cell? ⟨ga, k * 3, none⟩ = some (ct x) ∧ w'.cell? ⟨ga, k * 3 + 1, none⟩ = some (ct y) ∧ w'.cell? ⟨ga, k * 3 + 2, none⟩ = some (ci m)) (first | (refine ⟨by with_reducible assumption, by with_reducible assumption, by with_reducible assumption, by with_reducible assumption, by with_reducible assumption, by with_reducible assumption, by with_reducible assumption, by with_reducible assumption⟩) | go_keep) (fail)
    all_goals
      go_wp2_with fail
      go_ret
      exact ⟨rfl, (show Fr (fun _ => False) w V from fWH2).same (Fr.drew _ _)⟩
  · rw [decide_eq_false e]
    rw [e1] at a0
    generalize encTr s'.tr = y at *
    generalize (s'.tr.length : Int) = m at *
    clear e1
    generalize encSt s.st = x1 at *
    generalize encTr s.tr = y1 at *
    generalize (s.tr.length : Int) = m1 at *
    have e2b : (y == y1) = false := by simpa using e2
    clear e e2
    go_enter Tryz.func74, Tryz.ntmps74
    go_upto_region 1 with fail
    rw [← hW]
    clear hW
    go_region_held3 (fun w' => w'.cell? ⟨q, 6, none⟩ = some (.slice (some ⟨gs, 0, none⟩) n n) ∧ w'.cell? ⟨w.heap.size, 0, none⟩ = some (ci (k : Int)) ∧ w'.cell? ⟨gs, k, none⟩ = some (.int .u8 z)) (first | (refine ⟨by with_reducible assumption, by with_reducible assumption, by with_reducible assumption⟩) | go_keep) (fail)
    go_upto_region 3 with fail
    have fd : Fr (fun _ => False) W W.drew := Fr.drew _ _
    replace c7 := fd.cellN c7
    replace a0 := fd.cellN a0
    replace a1 := fd.cellN a1
    replace a2 := fd.cellN a2
    replace b0 := fd.cellN b0
    replace b1 := fd.cellN b1
    replace b2 := fd.cellN b2
    replace b3 := fd.cellN b3
    have fWH2 : Hidden (Fr (fun _ => False) w W.drew) := (show Fr (fun _ => False) w W from fWH).same fd
    clear fd fWH
    generalize W.drew = V at *
    go_region_held3 (fun w' => w'.cell? ⟨q, 7, none⟩ = some (.slice (some ⟨ga, 0, none⟩) n n) ∧ w'.cell? ⟨w.heap.size, 0, none⟩ = some (ci (k : Int)) ∧ w'.cell? ⟨w.heap.size, 1, none⟩ = some (ct x1) ∧ w'.cell? ⟨w.heap.size, 2, none⟩ = some (ct y1) ∧ w'.cell? ⟨w.heap.size, 3, none⟩ = some (ci m1) ∧ w'.cell? ⟨ga, k * 3, none⟩ = some (ct x1) ∧ w'.cell? ⟨ga, k * 3 + 1, none⟩ = some (ct y) ∧ w'.cell? ⟨ga, k * 3 + 2, none⟩ = some (ci m)) (first | (refine ⟨by with_reducible assumption, by with_reducible assumption, by with_reducible assumption, by with_reducible assumption, by with_reducible assumption, by with_reducible assumption, by with_reducible assumption, by with_reducible assumption⟩) | go_keep) (fail)
    all_goals
      go_wp2_with fail
      go_ret
      exact ⟨rfl, (show Fr (fun _ => False) w V from fWH2).same (Fr.drew _ _)⟩
end Go.Proofs.YtoiglopilpoafaaGreatDoor.Cd

namespace Go.Proofs.YtoiglopilpoafaaGreatDoor.Cd
open Go.RowKit Ty
set_option linter.unusedSimpArgs false
set_option linter.unusedVariables false

theorem stC_set (L : Cs) (k : Nat) (g : Bool) (s : Sp) : (stC L).toArray.setIfInBounds k (.int .u8 (stN (some (g, s)))) = (stC (L.set k (some (g, s)))).toArray := by
  simp [stC, List.map_set]
theorem ahC_set : ∀ (L : Cs) (k : Nat) (c : Option (Bool × Sp)) (x y z : Value), shC (shO c) = [x, y, z] → k < L.length → (((ahC L).set (k * 3) x).set (k * 3 + 1) y).set (k * 3 + 2) z = ahC (L.set k c)
  | [], k, c, x, y, z, _, h => by simp at h
  | d :: r, 0, c, x, y, z, e, _ => by
    simp only [ahC, List.flatMap_cons, List.set_cons_zero, e]
    simp [shC]
  | d :: r, k + 1, c, x, y, z, e, h => by
    have ih := ahC_set r k c x y z e (by simpa using h)
    have e3 : (k + 1) * 3 = k * 3 + 1 + 1 + 1 := by omega
    simp only [ahC, List.flatMap_cons, List.set_cons_succ] at ih ⊢
    rw [← ih, e3]
    simp [shC]
theorem ahA_set (L : Cs) (k : Nat) (c : Option (Bool × Sp)) (x y z : Value) (e : shC (shO c) = [x, y, z]) (h : k < L.length) : (((ahC L).toArray.setIfInBounds (k * 3) x).setIfInBounds (k * 3 + 1) y).setIfInBounds (k * 3 + 2) z = (ahC (L.set k c)).toArray := by
  rw [← ahC_set L k c x y z e h]
  simp
theorem note_put {V : World} {gs ga k : Nat} {L : Cs} {s : Sp} {t1 t2 : TypeId} (hs : V.heap[gs]? = some (.cells (stC L).toArray t1 (0, 0))) (ha : V.heap[ga]? = some (.cells (ahC L).toArray t2 (0, 0))) (hne : gs ≠ ga) (hk : k < L.length) :
    ∃ V2, V2 = ((((V.setCell ⟨gs, k, none⟩ (.int .u8 1)).setCell ⟨ga, k * 3, none⟩ (ct (encSt s.st))).setCell ⟨ga, k * 3 + 1, none⟩ (ct (encTr s.tr))).setCell ⟨ga, k * 3 + 2, none⟩ (ci (s.tr.length : Int))).drew ∧
      V2.heap[gs]? = some (.cells (stC (L.set k (some (false, s)))).toArray t1 (0, 0)) ∧ V2.heap[ga]? = some (.cells (ahC (L.set k (some (false, s)))).toArray t2 (0, 0)) ∧ Fr (fun b => b = gs ∨ b = ga) V V2 := by
  have f0 := Fr.setCell V ⟨gs, k, none⟩ (.int .u8 1)
  have f1 := Fr.setCell (V.setCell ⟨gs, k, none⟩ (.int .u8 1)) ⟨ga, k * 3, none⟩ (ct (encSt s.st))
  have f2 := Fr.setCell ((V.setCell ⟨gs, k, none⟩ (.int .u8 1)).setCell ⟨ga, k * 3, none⟩ (ct (encSt s.st))) ⟨ga, k * 3 + 1, none⟩ (ct (encTr s.tr))
  have f3 := Fr.setCell (((V.setCell ⟨gs, k, none⟩ (.int .u8 1)).setCell ⟨ga, k * 3, none⟩ (ct (encSt s.st))).setCell ⟨ga, k * 3 + 1, none⟩ (ct (encTr s.tr))) ⟨ga, k * 3 + 2, none⟩ (ci (s.tr.length : Int))
  have f4 := (f1.same f2).same f3
  have h0 := heap_setCell_same V gs k _ t1 (.int .u8 1) hs
  have g0 := f0.heap ha (fun e => hne e.symm)
  have g1 := heap_setCell_same _ ga (k * 3) _ t2 (ct (encSt s.st)) g0
  have g2 := heap_setCell_same _ ga (k * 3 + 1) _ t2 (ct (encTr s.tr)) g1
  have g3 := heap_setCell_same _ ga (k * 3 + 2) _ t2 (ci (s.tr.length : Int)) g2
  refine ⟨_, rfl, ?_, ?_, ?_⟩
  · have := f4.heap h0 (fun e => hne e)
    rw [← stC_set L k false s]
    exact this
  · rw [← ahA_set L k (some (false, s)) _ _ _ rfl hk]
    exact g3
  · exact ((f0.mono (fun b _ e => Or.inl e)).same (f4.mono (fun b _ e => Or.inr e))).same (Fr.drew _ _)
theorem cell_other {w : World} {a b : Addr} {v u : Value} (h : w.cell? a = some u) (hn : a.block ≠ b.block) : (w.setCell b v).cell? a = some u := (Fr.setCell w b v).cell h hn
set_option maxRecDepth 20000 in
set_option maxHeartbeats 2000000 in
theorem note_new (q gs ga n k : Nat) (v0 v1 v2 v3 v4 v5 : Value) (L : Cs) (s : Sp) (w : World) (h : Wk w q gs ga n v0 v1 v2 v3 v4 v5 L) (hk : L[k]? = some none) (hn : n ≤ 1000000) :
    Calls Tryz.prog 74 #[.pointer (some ⟨q, 0, none⟩), .agg #[ci (k : Int), ct (encSt s.st), ct (encTr s.tr), ci (s.tr.length : Int)]] w fun e w' => e = .returned (.bool true) ∧ Wk w' q gs ga n v0 v1 v2 v3 v4 v5 (L.set k (some (false, s))) ∧ Fr (fun b => b = gs ∨ b = ga) w w' := by
  have hkn : k < n := by rw [← h.len]; exact (List.getElem?_eq_some_iff.1 hk).1
  have hH : Hidden (Wk w q gs ga n v0 v1 v2 v3 v4 v5 L) := h
  obtain ⟨_, _, _, _, _, _, c6, c7⟩ := box8 h.box
  have cs := st_at h.st hk
  obtain ⟨a0, a1, a2⟩ := ah_at h.ah hk
  have hqlt := lt_of_heap h.box
  have hslt := lt_of_heap h.st
  have halt := lt_of_heap h.ah
  have n1 := h.qs
  have n2 := h.qa
  have n3 := h.sa
  have n4 : w.heap.size ≠ gs := by omega
  have n5 : w.heap.size ≠ ga := by omega
  simp only [shO, stN] at a0 a1 a2 cs
  obtain ⟨W, hW⟩ : ∃ W, W = w.alloc (.cells #[ci (k : Int), ct (encSt s.st), ct (encTr s.tr), ci (s.tr.length : Int)] 150 (0, 0)) := ⟨_, rfl⟩
  have fW : Fr (fun _ => False) w W := by rw [hW]; exact Fr.alloc _ _ _
  obtain ⟨b0, b1, b2, b3⟩ := box4 (show W.heap[w.heap.size]? = some (.cells #[ci (k : Int), ct (encSt s.st), ct (encTr s.tr), ci (s.tr.length : Int)] 150 (0, 0)) by rw [hW]; exact alloc_new _ _)
  have fz := fun j => frozen_of_row (fW.heap h.st (fun f => f)) j
  have fy := fun j => frozen_of_row (fW.heap h.ah (fun f => f)) j
  replace c6 := fW.cellN c6
  replace c7 := fW.cellN c7
  replace cs := fW.cellN cs
  replace a0 := fW.cellN a0
  replace a1 := fW.cellN a1
  replace a2 := fW.cellN a2
  have z0 := fz k
  have y0 := fy (k * 3)
  have y1 := fy (k * 3 + 1)
  have y2 := fy (k * 3 + 2)
  have fWH : Hidden (Fr (fun _ => False) w W) := fW
  clear fW h fz fy hk hqlt hslt halt
  obtain ⟨x, hx⟩ : ∃ x, encSt s.st = x := ⟨_, rfl⟩
  obtain ⟨y, hy⟩ : ∃ y, encTr s.tr = y := ⟨_, rfl⟩
  obtain ⟨m, hm⟩ : ∃ m, (s.tr.length : Int) = m := ⟨_, rfl⟩
  rw [hx] at hW b1
  rw [hy] at hW b2
  rw [hm] at hW b3
  rw [hx, hy, hm]
  have hx : Hidden (encSt s.st = x) := hx
  have hy : Hidden (encTr s.tr = y) := hy
  have hm : Hidden ((s.tr.length : Int) = m) := hm
  go_enter Tryz.func74, Tryz.ntmps74
  go_upto_region 1 with fail
  rw [← hW]
  clear hW
  go_region_held3 (fun w' => w'.cell? ⟨q, 6, none⟩ = some (.slice (some ⟨gs, 0, none⟩) n n) ∧ w'.cell? ⟨w.heap.size, 0, none⟩ = some (ci (k : Int)) ∧ w'.cell? ⟨gs, k, none⟩ = some (.int .u8 0)) (first | (refine ⟨by with_reducible assumption, by with_reducible assumption, by with_reducible assumption⟩) | go_keep) (fail)
  go_upto_region 2 with fail
  have fd : Fr (fun _ => False) W W.drew := Fr.drew _ _
  replace c6 := fd.cellN c6
  replace c7 := fd.cellN c7
  replace cs := fd.cellN cs
  replace a0 := fd.cellN a0
  replace a1 := fd.cellN a1
  replace a2 := fd.cellN a2
  replace b0 := fd.cellN b0
  replace b1 := fd.cellN b1
  replace b2 := fd.cellN b2
  replace b3 := fd.cellN b3
  have z0 : W.drew.frozen? ⟨gs, k, none⟩ = false := z0
  have y0 : W.drew.frozen? ⟨ga, k * 3, none⟩ = false := y0
  have y1 : W.drew.frozen? ⟨ga, k * 3 + 1, none⟩ = false := y1
  have y2 : W.drew.frozen? ⟨ga, k * 3 + 2, none⟩ = false := y2
  have fWH2 : Hidden (Fr (fun _ => False) w W.drew) := (show Fr (fun _ => False) w W from fWH).same fd
  clear fd fWH
  generalize W.drew = V at *
  go_region_held3 (fun w' => w'.cell? ⟨q, 6, none⟩ = some (.slice (some ⟨gs, 0, none⟩) n n) ∧ w'.cell? ⟨q, 7, none⟩ = some (.slice (some ⟨ga, 0, none⟩) n n) ∧ w'.cell? ⟨w.heap.size, 0, none⟩ = some (ci (k : Int)) ∧ w'.cell? ⟨w.heap.size, 1, none⟩ = some (ct x) ∧ w'.cell? ⟨w.heap.size, 2, none⟩ = some (ct y) ∧ w'.cell? ⟨w.heap.size, 3, none⟩ = some (ci m)) (first | (refine ⟨by with_reducible assumption, by with_reducible assumption, by with_reducible assumption, by with_reducible assumption, by with_reducible assumption, by with_reducible assumption⟩) | (refine ⟨?_, ?_, ?_, ?_, ?_, ?_⟩ <;> (repeat (first | (with_reducible assumption) | (refine cell_other ?_ (by first | exact n1 | exact n2 | exact n4 | exact n5)) | (refine (Fr.drew (fun _ => False) _).cellN ?_)))) | go_keep) (fail)
  go_upto_region 3 with fail
  obtain ⟨V2, hV2, hs2, ha2, f2⟩ := note_put (s := s) ((show Fr (fun _ => False) w V from fWH2).heap (show Wk w q gs ga n v0 v1 v2 v3 v4 v5 L from hH).st (fun f => f)) ((show Fr (fun _ => False) w V from fWH2).heap (show Wk w q gs ga n v0 v1 v2 v3 v4 v5 L from hH).ah (fun f => f)) n3 (by rw [(show Wk w q gs ga n v0 v1 v2 v3 v4 v5 L from hH).len]; exact hkn)
  rw [show encSt s.st = x from hx, show encTr s.tr = y from hy, show (s.tr.length : Int) = m from hm] at hV2
  rw [← hV2]
  clear hV2
  have hq2 : V2.heap[q]? = _ := f2.heap ((show Fr (fun _ => False) w V from fWH2).heap (show Wk w q gs ga n v0 v1 v2 v3 v4 v5 L from hH).box (fun f => f)) (fun e => by rcases e with e | e; exact n1 e; exact n2 e)
  have no : ∀ b, b ≠ gs → b ≠ ga → ¬ (b = gs ∨ b = ga) := fun b h1 h2 e => by rcases e with e | e; exact h1 e; exact h2 e
  have d0 := f2.cell b0 (no _ n4 n5)
  have d1 := f2.cell b1 (no _ n4 n5)
  have d2 := f2.cell b2 (no _ n4 n5)
  have d3 := f2.cell b3 (no _ n4 n5)
  have d7 := f2.cell c7 (no _ n1 n2)
  obtain ⟨i0, i1, i2⟩ := ah_at ha2 (k := k) (c := some (false, s)) (List.getElem?_set_self (by rw [(show Wk w q gs ga n v0 v1 v2 v3 v4 v5 L from hH).len]; exact hkn))
  simp only [shO] at i0 i1 i2
  rw [show encSt s.st = x from hx] at i0
  rw [show encTr s.tr = y from hy] at i1
  rw [show (s.tr.length : Int) = m from hm] at i2
  have finH : Hidden (Wk V2 q gs ga n v0 v1 v2 v3 v4 v5 (L.set k (some (false, s))) ∧ Fr (fun b => b = gs ∨ b = ga) w V2) := ⟨⟨hq2, hs2, ha2, by rw [List.length_set]; exact (show Wk w q gs ga n v0 v1 v2 v3 v4 v5 L from hH).len, n1, n2, n3⟩, ((show Fr (fun _ => False) w V from fWH2).mono (fun _ _ f => f.elim)).same f2⟩
  clear hq2 hs2 ha2 f2 no b0 b1 b2 b3 c6 c7 cs a0 a1 a2 z0 y0 y1 y2 fWH2 hH hx hy hm
  go_region_held3 (fun w' => w'.cell? ⟨q, 7, none⟩ = some (.slice (some ⟨ga, 0, none⟩) n n) ∧ w'.cell? ⟨w.heap.size, 0, none⟩ = some (ci (k : Int)) ∧ w'.cell? ⟨w.heap.size, 1, none⟩ = some (ct x) ∧ w'.cell? ⟨w.heap.size, 2, none⟩ = some (ct y) ∧ w'.cell? ⟨w.heap.size, 3, none⟩ = some (ci m) ∧ w'.cell? ⟨ga, k * 3, none⟩ = some (ct x) ∧ w'.cell? ⟨ga, k * 3 + 1, none⟩ = some (ct y) ∧ w'.cell? ⟨ga, k * 3 + 2, none⟩ = some (ci m)) (first | (refine ⟨by with_reducible assumption, by with_reducible assumption, by with_reducible assumption, by with_reducible assumption, by with_reducible assumption, by with_reducible assumption, by with_reducible assumption, by with_reducible assumption⟩) | go_keep) (fail)
  all_goals
    go_wp2_with fail
    go_ret
    obtain ⟨f1, f2⟩ := finH
    exact ⟨rfl, f1.keepN (Fr.drew _ _), f2.same (Fr.drew _ _)⟩
end Go.Proofs.YtoiglopilpoafaaGreatDoor.Cd

namespace Go.Proofs.YtoiglopilpoafaaGreatDoor.Cd
open Go.RowKit Ty
set_option linter.unusedSimpArgs false
set_option linter.unusedVariables false

/-- Where an instruction leads, or its error. -/
def wayS (f : Fu) (p : Fm) (k : Nat) (s : Sp) : Int × List (Nat × Sp) :=
  match stepS f p (f.cd.getD k default) s with
  | none => (51, [])
  | some (a, b) =>
    if (a.isSome && decide (f.cd.length ≤ k + 1)) || (b.isSome && decide ((f.cd.length : Int) ≤ (f.cd.getD k default).n)) then (51, [])
    else if anyO a || anyO b then (3, [])
    else (0, (match a with | none => [] | some x => [(k + 1, x)]) ++ (match b with | none => [] | some x => [((f.cd.getD k default).n.toNat, x)]))
def notesS (L : Cs) : List (Nat × Sp) → Option Cs
  | [] => some L
  | (j, s) :: r => match noteS L j s with
    | none => none
    | some L' => notesS L' r
def roundE : Option Cs → Except Int Cs
  | none => .error 22
  | some L => .ok L
def nextR (f : Fu) (p : Fm) (j k : Nat) : Except Int Cs → Option Rs
  | .error e => some (.er k e)
  | .ok L' => goS f p j L'
theorem goS_next {f : Fu} {p : Fm} {j k : Nat} {s : Sp} {L : Cs} (h : leastS L = some (k, s)) : goS f p (j + 1) L = nextR f p j k (roundS f p L k s) := by
  rw [goS, h]
  simp only []
  unfold nextR
  rfl
theorem roundS_way (f : Fu) (p : Fm) (L : Cs) (k : Nat) (s : Sp) : roundS f p L k s = if (wayS f p k s).1 ≠ 0 then .error (wayS f p k s).1 else roundE (notesS (L.set k (some (true, s))) (wayS f p k s).2) := by
  unfold roundS wayS roundE
  cases stepS f p (f.cd.getD k default) s with
  | none => rfl
  | some x =>
    obtain ⟨a, b⟩ := x
    simp only []
    split
    · rfl
    split
    · rfl
    cases a with
    | none =>
      cases b with
      | none => simp [noteO, notesS]
      | some y =>
        simp only [noteO, notesS, List.nil_append, ne_eq, not_true_eq_false, if_false]
        cases noteS (List.set L k (some (true, s))) (f.cd.getD k default).n.toNat y with
        | none => rfl
        | some L' => rfl
    | some x =>
      simp only [noteO, ne_eq, not_true_eq_false, if_false]
      cases b with
      | none =>
        simp only [notesS, List.append_nil]
        cases noteS (List.set L k (some (true, s))) (k + 1) x with
        | none => rfl
        | some L' => rfl
      | some y =>
        simp only [notesS, List.cons_append, List.nil_append]
        cases noteS (List.set L k (some (true, s))) (k + 1) x with
        | none => rfl
        | some L' =>
          simp only [noteO]
          cases noteS L' (f.cd.getD k default).n.toNat y with
          | none => rfl
          | some L2 => rfl
/-- No shape that is noted is more than there may be. -/
theorem round_over {f : Fu} {p : Fm} {L L' : Cs} {k : Nat} {s : Sp} (hL : ∀ (j : Nat) g x, L[j]? = some (some (g, x)) → over x = false) (hk : L[k]? = some (some (false, s))) (h : roundS f p L k s = .ok L') : ∀ (j : Nat) g x, L'[j]? = some (some (g, x)) → over x = false := by
  unfold roundS at h
  split at h
  · cases h
  rename_i a b hs
  split at h
  · cases h
  split at h
  · cases h
  rename_i c2
  split at h
  · cases h
  rename_i L1 h1
  split at h
  · cases h
  rename_i L2 h2
  cases h
  simp only [Bool.or_eq_true, not_or, Bool.not_eq_true] at c2
  have note_all : ∀ {A B : Cs} {j' : Nat} {z : Option Sp}, noteO A j' z = some B → anyO z = false → (∀ (j : Nat) g x, A[j]? = some (some (g, x)) → over x = false) → ∀ (j : Nat) g x, B[j]? = some (some (g, x)) → over x = false := by
    intro A B j' z hz ok hA j g x hx
    cases z with
    | none => cases hz; exact hA j g x hx
    | some z =>
      have hz : noteS A j' z = some B := hz
      unfold noteS at hz
      split at hz
      · cases hz
      · cases hz
        rw [List.getElem?_set] at hx
        split at hx
        · split at hx
          · cases hx; exact ok
          · cases hx
        · exact hA j g x hx
      · split at hz
        · cases hz; exact hA j g x hx
        · cases hz
  refine note_all h2 c2.2 (note_all h1 c2.1 ?_)
  intro j g x hx
  rw [List.getElem?_set] at hx
  split at hx
  · split at hx
    · cases hx; exact hL _ _ _ hk
    · cases hx
  · exact hL j g x hx
theorem ahC_same : ∀ (L : Cs) (k : Nat) (c d : Option (Bool × Sp)), L[k]? = some c → shO d = shO c → ahC (L.set k d) = ahC L
  | [], k, c, d, h, _ => by simp at h
  | x :: r, 0, c, d, h, e => by
    simp at h
    subst h
    show shC (shO d) ++ ahC r = shC (shO x) ++ ahC r
    rw [e]
  | x :: r, k + 1, c, d, h, e => by
    show shC (shO x) ++ ahC (r.set k d) = shC (shO x) ++ ahC r
    rw [ahC_same r k c d (by simpa using h) e]
theorem stC_put (L : Cs) (k : Nat) (d : Option (Bool × Sp)) : (stC L).toArray.setIfInBounds k (.int .u8 (stN d)) = (stC (L.set k d)).toArray := by
  simp [stC, List.map_set]
theorem Wk.mark {w : World} {q gs ga n : Nat} {v0 v1 v2 v3 v4 v5 : Value} {L : Cs} (h : Wk w q gs ga n v0 v1 v2 v3 v4 v5 L) {k : Nat} {c d : Option (Bool × Sp)} (hk : L[k]? = some c) (e : shO d = shO c) :
    Wk (w.setCell ⟨gs, k, none⟩ (.int .u8 (stN d))) q gs ga n v0 v1 v2 v3 v4 v5 (L.set k d) := by
  have f0 := Fr.setCell w ⟨gs, k, none⟩ (.int .u8 (stN d))
  have h0 := heap_setCell_same w gs k _ 5 (.int .u8 (stN d)) h.st
  refine ⟨f0.heap h.box h.qs, ?_, ?_, by rw [List.length_set]; exact h.len, h.qs, h.qa, h.sa⟩
  · rw [← stC_put]; exact h0
  · rw [ahC_same L k c d hk e]; exact f0.heap h.ah (fun e => h.sa e.symm)
theorem note_any (q gs ga n k : Nat) (v0 v1 v2 v3 v4 v5 : Value) (L : Cs) (s : Sp) (w : World) (h : Wk w q gs ga n v0 v1 v2 v3 v4 v5 L) (hk : k < n) (hok : ∀ (j : Nat) g x, L[j]? = some (some (g, x)) → OkS x) (ho : OkS s) (hn : n ≤ 1000000) :
    Calls Tryz.prog 74 #[.pointer (some ⟨q, 0, none⟩), .agg #[ci (k : Int), ct (encSt s.st), ct (encTr s.tr), ci (s.tr.length : Int)]] w fun e w' => e = .returned (.bool (noteS L k s).isSome) ∧ Fr (fun b => b = gs ∨ b = ga) w w' ∧ ∀ L2, noteS L k s = some L2 → Wk w' q gs ga n v0 v1 v2 v3 v4 v5 L2 := by
  obtain ⟨c, hc⟩ : ∃ c, L[k]? = some c := ⟨_, List.getElem?_eq_getElem (by rw [h.len]; exact hk)⟩
  cases c with
  | none =>
    have e : noteS L k s = some (L.set k (some (false, s))) := by unfold noteS; rw [hc]
    rw [e]
    exact (note_new q gs ga n k v0 v1 v2 v3 v4 v5 L s w h hc hn).mono (fun e w' g => ⟨g.1, g.2.2, fun L2 e2 => by cases e2; exact g.2.1⟩)
  | some z =>
    obtain ⟨g, s'⟩ := z
    have e : noteS L k s = if s' = s then some L else none := by unfold noteS; rw [hc]
    rw [e]
    have kn := note_old q gs ga n k v0 v1 v2 v3 v4 v5 L s s' g w h hc ho (hok _ _ _ hc) hn
    by_cases e1 : s' = s
    · rw [if_pos e1]
      rw [decide_eq_true e1] at kn
      exact kn.mono (fun e w' g => ⟨g.1, g.2.mono (fun _ _ f => f.elim), fun L2 e2 => by cases e2; exact h.keepN g.2⟩)
    · rw [if_neg e1]
      rw [decide_eq_false e1] at kn
      exact kn.mono (fun e w' g => ⟨g.1, g.2.mono (fun _ _ f => f.elim), fun L2 e2 => by cases e2⟩)
theorem note_oks {L L2 : Cs} {k : Nat} {s : Sp} (h : noteS L k s = some L2) (hok : ∀ (j : Nat) g x, L[j]? = some (some (g, x)) → OkS x) (ho : OkS s) : ∀ (j : Nat) g x, L2[j]? = some (some (g, x)) → OkS x := by
  intro j g x hx
  unfold noteS at h
  split at h
  · cases h
  · cases h
    rw [List.getElem?_set] at hx
    split at hx
    · split at hx
      · cases hx; exact ho
      · cases hx
    · exact hok j g x hx
  · split at h
    · cases h; exact hok j g x hx
    · cases h
end Go.Proofs.YtoiglopilpoafaaGreatDoor.Cd
