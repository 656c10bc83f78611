/- The first instruction of bytes: the program's firstIns. -/
import Derived.Test.YtoiglopilpoafaaGreatDoorPk42
import Derived.Test.YtoiglopilpoafaaGreatDoorPk30
import Derived.Test.YtoiglopilpoafaaGreatDoorPk28
namespace Go.Proofs.YtoiglopilpoafaaGreatDoor.Cd
open Go.RowKit Ty
set_option linter.unusedSimpArgs false
set_option linter.unusedVariables false

/-- What firstIns answers of bytes of which there is at least one. -/
def fstB (c : UInt8) (r : Bs) : Bool := !(decide (sizeS (c.toNat : Int) = 0 ∨ ((c :: r).length : Int) < sizeS (c.toNat : Int)))
def fstI (c : UInt8) (r : Bs) : In := if fstB c r then rawI (c :: r) else default
def fstO (c : UInt8) (r : Bs) : Bool := fstB c r && rightS (rawI (c :: r))
theorem firstS_eq (c : UInt8) (r : Bs) : firstS (c :: r) = if fstO c r then some (fstI c r) else none := by
  unfold firstS fstO fstI fstB
  simp only []
  by_cases h : sizeS (c.toNat : Int) = 0 ∨ ((c :: r).length : Int) < sizeS (c.toNat : Int)
  · rw [if_pos h, decide_eq_true h]; simp
  · rw [if_neg h, decide_eq_false h]; simp
theorem size_cases (op : Int) : sizeS op = 0 ∨ (op = 1 ∧ sizeS op = 10) ∨ ((op == 1) = false ∧ (wd op = 0 ∧ sizeS op = 1 ∨ wd op = 1 ∧ sizeS op = 2 ∨ wd op = 2 ∧ sizeS op = 3)) := by
  unfold sizeS
  by_cases hk : known op = true
  · rw [if_pos hk]
    by_cases h1 : op = 1
    · right; left; exact ⟨h1, by rw [if_pos h1]⟩
    · right; right
      refine ⟨by simp [h1], ?_⟩
      rw [if_neg h1]
      have : wd op ≤ 2 := by
        unfold wd
        by_cases q1 : op = 2 ∨ op = 3 ∨ op = 6 ∨ op = 7
        · rw [if_pos q1]; omega
        · rw [if_neg q1]
          by_cases q2 : op = 4 ∨ op = 5 ∨ op = 8 ∨ op = 9 ∨ op = 10 ∨ op = 15
          · rw [if_pos q2]; omega
          · rw [if_neg q2]; omega
      omega
  · left; rw [if_neg hk]
theorem box4_set2 {w : World} {b : Nat} {x0 x1 x2 x3 : Value} {t : TypeId} (h : w.heap[b]? = some (.cells #[x0, x1, x2, x3] t (0, 0))) (v2 v3 : Value) :
    ((w.setCell ⟨b, 2, none⟩ v2).setCell ⟨b, 3, none⟩ v3).heap[b]? = some (.cells #[x0, x1, v2, v3] t (0, 0)) := by
  have h0 : (w.setCell ⟨b, 2, none⟩ v2).heap[b]? = some (.cells #[x0, x1, v2, x3] t (0, 0)) := heap_setCell_same _ b 2 _ t v2 h
  exact heap_setCell_same _ b 3 _ t v3 h0
theorem box4_set1 {w : World} {b : Nat} {x0 x1 x2 x3 : Value} {t : TypeId} (h : w.heap[b]? = some (.cells #[x0, x1, x2, x3] t (0, 0))) (v1 : Value) :
    (w.setCell ⟨b, 1, none⟩ v1).heap[b]? = some (.cells #[x0, v1, x2, x3] t (0, 0)) := heap_setCell_same _ b 1 _ t v1 h
theorem BL.sub {w : World} {b off cap m : Nat} {l : Bs} (k : Nat) (h : BL w (some ⟨b, off, none⟩) cap l) (hk : k + m ≤ l.length) (hc : k < cap) : BL w (some ⟨b, off + k, none⟩) (cap - k) ((l.drop k).take m) := by
  obtain ⟨h1, h2, h3, h4⟩ := h
  have hl : ((l.drop k).take m).length = m := by rw [List.length_take, List.length_drop]; omega
  refine ⟨by omega, by omega, (fun e => by cases e), ?_⟩
  rcases h4 with rfl | ⟨b', off', e, h4⟩
  · left; simp
  · right
    cases e
    refine ⟨b, off + k, rfl, fun i c hc => ?_⟩
    rw [List.getElem?_take] at hc
    split at hc
    · rw [List.getElem?_drop] at hc
      have := h4 _ _ hc
      rw [show off + k + i = off + (k + i) by omega]
      exact this
    · cases hc
theorem cell_ot {w : World} {a b : Addr} {v u : Value} (h : w.cell? a = some u) (hn : a.block ≠ b.block) : (w.setCell b v).cell? a = some u := (Fr.setCell w b v).cell h hn
theorem info_in4 : (Tryz.prog.info? 69).map (·.size) = some 4 := by kernel_rfl
set_option maxRecDepth 20000 in
set_option maxHeartbeats 4000000 in
theorem first_any (b off cap n : Nat) (c : UInt8) (r : Bs) (hn : (c :: r).length = n) (w : World) (h : BL w (some ⟨b, off, none⟩) cap (c :: r)) :
    Calls Tryz.prog 82 #[.slice (some ⟨b, off, none⟩) n cap] w fun e w' => e = .returned (.tuple #[inV (fstI c r), .bool (fstO c r)]) ∧ Fr (fun _ => False) w w' := by
  have hcap : n ≤ cap := by rw [← hn]; exact h.1
  have hcm : cap ≤ 9223372036854775807 := by have := h.2.1; simpa [maxLen] using this
  have hn1 : 1 ≤ n := by rw [← hn]; simp
  have hH : Hidden (BL w (some ⟨b, off, none⟩) cap (c :: r)) := h
  have hnH : Hidden ((c :: r).length = n) := hn
  have hcell : ∀ i x, (c :: r)[i]? = some x → w.cell? ⟨b, off + i, none⟩ = some (.int .u8 (x.toNat : Int)) := by
    obtain ⟨b', off', e, h4⟩ := h.2.2.2.resolve_left (by simp)
    cases e
    exact h4
  have c0 : w.cell? ⟨b, off, none⟩ = some (.int .u8 (c.toNat : Int)) := hcell 0 c rfl
  have hcellH : Hidden (∀ i x, (c :: r)[i]? = some x → w.cell? ⟨b, off + i, none⟩ = some (.int .u8 (x.toNat : Int))) := hcell
  have hc8 := c.toNat_lt
  have hw8 : IntKind.i64.wrap (c.toNat : Int) = (c.toNat : Int) := wrap_small _ (by omega) (by omega)
  obtain ⟨op, hop⟩ : ∃ op : Int, op = (c.toNat : Int) := ⟨_, rfl⟩
  have hopH : Hidden (op = (c.toNat : Int)) := hop
  have ks := fun W => size_any ⟨op, 0, 0, 0⟩ W
  have hsz := size_cases op
  rw [← hop] at c0 hw8
  have c0' : (w.alloc (.cells #[ci 0, ci 0, ci 0, .int .u64 0] 69 (0, 0))).cell? ⟨b, off, none⟩ = some (.int .u8 op) := (Fr.alloc (fun _ => False) _ _).cellN c0
  clear h hn hcell hop c0
  simp only [] at ks
  have bad : ∀ z : Int, z = sizeS op → (z = 0 ∨ (n : Int) < z) → fstB c r = false := by
    intro z hz hb
    unfold fstB
    rw [← (show op = _ from hopH), ← hz, show (c :: r).length = n from hnH]
    simp only [Bool.not_eq_false', decide_eq_true_eq]
    exact hb
  have badH : Hidden (∀ z : Int, z = sizeS op → (z = 0 ∨ (n : Int) < z) → fstB c r = false) := bad
  clear bad
  rcases hsz with h0 | ⟨h1, hz⟩ | ⟨h1, ⟨hwd, hz⟩ | ⟨hwd, hz⟩ | ⟨hwd, hz⟩⟩
  · -- no instruction
    rw [h0] at ks
    have hb := (show ∀ z : Int, _ → _ → _ from badH) 0 h0.symm (Or.inl rfl)
    have e1 : fstI c r = default := by unfold fstI; rw [hb]; rfl
    have e2 : fstO c r = false := by unfold fstO; rw [hb]; rfl
    rw [e1, e2]
    clear h0 hb e1 e2
    go_enter Tryz.func82, Tryz.ntmps82
    go_wp2_with fail
    go_at_call 83
    refine (ks _).mono ?_
    rintro e w1 ⟨rfl, f1⟩
    have R1 : w1.heap[w.heap.size]? = some (.cells #[ci 0, ci 0, ci 0, .int .u64 0] 69 (0, 0)) := f1.heap (heap_alloc2_old _ _ _) (fun f => f)
    have X1 : w1.heap[w.heap.size + 1]? = some (.cells #[ci op, ci 0, ci 0, .int .u64 0] 69 (0, 0)) := f1.heap (heap_alloc2_new _ _ _) (fun f => f)
    have fw1 : Fr (fun _ => False) w w1 := ((Fr.alloc _ _ _).same (Fr.alloc _ _ _)).same f1
    have R1H : Hidden _ := R1
    have X1H : Hidden _ := X1
    obtain ⟨r0, r1, r2, r3⟩ := box4 R1
    obtain ⟨x0, x1, x2, x3⟩ := box4 X1
    have fz0 := fz_row R1 0
    have fz1 := fz_row R1 1
    have fz2 := fz_row R1 2
    have fz3 := fz_row R1 3
    have fx1 := fz_row X1 1
    have fx2 := fz_row X1 2
    have fx3 := fz_row X1 3
    clear f1 R1 X1 c0'
    go_wp2_with fail
    exact post_cs rfl rfl w.heap.size _ rfl (run_loadVar_row _ _ _ _ _ _ _ (four_put (show w1.heap[w.heap.size]? = _ from R1H) _ _ _ _) Tryz.underlying69 rfl info_in4) ⟨by rfl, fw1.over (four_fr _ _ _ _ _ _) (fun k e => by omega)⟩
  · obtain rfl : op = 1 := h1
    rw [hz] at ks
    by_cases hlen : (n : Int) < 10
    · have hb := (show ∀ z : Int, _ → _ → _ from badH) 10 hz.symm (Or.inr hlen)
      have e1 : fstI c r = default := by unfold fstI; rw [hb]; rfl
      have e2 : fstO c r = false := by unfold fstO; rw [hb]; rfl
      rw [e1, e2]
      have hlt : decide ((n : Int) < 10) = true := by simpa using hlen
      clear hb e1 e2 hlen
      go_enter Tryz.func82, Tryz.ntmps82
      go_wp2_with fail
      go_at_call 83
      refine (ks _).mono ?_
      rintro e w1 ⟨rfl, f1⟩
      have R1 : w1.heap[w.heap.size]? = some (.cells #[ci 0, ci 0, ci 0, .int .u64 0] 69 (0, 0)) := f1.heap (heap_alloc2_old _ _ _) (fun f => f)
      have X1 : w1.heap[w.heap.size + 1]? = some (.cells #[ci 1, ci 0, ci 0, .int .u64 0] 69 (0, 0)) := f1.heap (heap_alloc2_new _ _ _) (fun f => f)
      have fw1 : Fr (fun _ => False) w w1 := ((Fr.alloc _ _ _).same (Fr.alloc _ _ _)).same f1
      have R1H : Hidden _ := R1
      have X1H : Hidden _ := X1
      obtain ⟨r0, r1, r2, r3⟩ := box4 R1
      obtain ⟨x0, x1, x2, x3⟩ := box4 X1
      have fz0 := fz_row R1 0
      have fz1 := fz_row R1 1
      have fz2 := fz_row R1 2
      have fz3 := fz_row R1 3
      have fx1 := fz_row X1 1
      have fx2 := fz_row X1 2
      have fx3 := fz_row X1 3
      clear f1 R1 X1 c0'
      go_wp2_with fail
      exact post_cs rfl rfl w.heap.size _ rfl (run_loadVar_row _ _ _ _ _ _ _ (four_put (show w1.heap[w.heap.size]? = _ from R1H) _ _ _ _) Tryz.underlying69 rfl info_in4) ⟨by rfl, fw1.over (four_fr _ _ _ _ _ _) (fun k e => by omega)⟩
    · have hlen' : 10 ≤ n := by omega
      have hg : fstB c r = true := by
        unfold fstB
        rw [← (show (1 : Int) = _ from hopH), hz, show (c :: r).length = n from hnH]
        simp; omega
      obtain ⟨t1, ht1⟩ : ∃ t1, r[0]? = some t1 := ⟨_, List.getElem?_eq_getElem (by have : (c :: r).length = n := hnH; simp at this; omega)⟩
      have hgd : r.getD 0 0 = t1 := by rw [List.getD_eq_getElem?_getD, ht1]; rfl
      have d1 : w.cell? ⟨b, off + 1, none⟩ = some (.int .u8 (t1.toNat : Int)) := (show ∀ i x, _ → _ from hcellH) 1 t1 (by simpa using ht1)
      obtain ⟨M, hM⟩ : ∃ M, M = numGo 0 ((r.drop 1).take 8) := ⟨_, rfl⟩
      have hMlt : M < 18446744073709551616 := by
        have := numGo_lt ((r.drop 1).take 8) 0
        rw [← hM, List.length_take] at this
        have h2 : 256 ^ (min 8 (r.drop 1).length) ≤ 256 ^ 8 := Nat.pow_le_pow_right (by decide) (by omega)
        omega
      obtain ⟨tt, htt⟩ : ∃ tt : Int, tt = (t1.toNat : Int) := ⟨_, rfl⟩
      have hc8t := t1.toNat_lt
      have hw8t : IntKind.i64.wrap tt = tt := by rw [htt]; exact wrap_small _ (by omega) (by omega)
      have e1 : fstI c r = ⟨1, 0, tt, (M : Int)⟩ := by
        unfold fstI
        rw [hg, if_pos rfl]
        unfold rawI
        simp only []
        have hc1 : c.toNat = 1 := by have h3 : (1 : Int) = (c.toNat : Int) := hopH; omega
        rw [if_pos hc1, hgd, ← hM, ← htt]
      have e2 : fstO c r = rightS ⟨1, 0, tt, (M : Int)⟩ := by
        unfold fstO
        rw [hg, Bool.true_and]
        unfold fstI at e1
        rw [hg, if_pos rfl] at e1
        rw [e1]
      rw [e1, e2]
      have hbM : U64 (M : Int) := ⟨by omega, by omega⟩
      have kr := fun W => right_any ⟨1, 0, tt, (M : Int)⟩ hbM W
      have hlt : decide ((n : Int) < 10) = false := by simpa using hlen
      have kn : ∀ W, Fr (fun _ => False) w W → Calls Tryz.prog 101 #[.slice (some ⟨b, off + 2, none⟩) 8 (cap - 2)] W fun e w' => e = .returned (.int .u64 (M : Int)) ∧ w' = W := by
        intro W hW
        have hb := BL.sub (m := 8) 2 ((show BL w _ cap _ from hH).keep hW) (by rw [show (c :: r).length = n from hnH]; omega) (by omega)
        have := num_any _ 8 _ _ (by rw [List.length_take, List.length_drop, show (c :: r).length = n from hnH]; omega) (by decide) W hb
        rw [show (c :: r).drop 2 = r.drop 1 from rfl, ← hM] at this
        exact this
      have hbl : b < w.heap.size := World.block_lt_of_cell? w _ d1
      have nbX : b ≠ w.heap.size + 1 := by omega
      rw [← htt] at d1
      clear hg e1 e2 hlen hM ht1 hgd htt hc8t
      go_enter Tryz.func82, Tryz.ntmps82
      go_wp2_with fail
      go_at_call 83
      refine (ks _).mono ?_
      rintro e w1 ⟨rfl, f1⟩
      have R1 : w1.heap[w.heap.size]? = some (.cells #[ci 0, ci 0, ci 0, .int .u64 0] 69 (0, 0)) := f1.heap (heap_alloc2_old _ _ _) (fun f => f)
      have X1 : w1.heap[w.heap.size + 1]? = some (.cells #[ci 1, ci 0, ci 0, .int .u64 0] 69 (0, 0)) := f1.heap (heap_alloc2_new _ _ _) (fun f => f)
      have fw1 : Fr (fun _ => False) w w1 := ((Fr.alloc _ _ _).same (Fr.alloc _ _ _)).same f1
      have R1H : Hidden _ := R1
      have X1H : Hidden _ := X1
      obtain ⟨r0, r1, r2, r3⟩ := box4 R1
      obtain ⟨x0, x1, x2, x3⟩ := box4 X1
      have fz0 := fz_row R1 0
      have fz1 := fz_row R1 1
      have fz2 := fz_row R1 2
      have fz3 := fz_row R1 3
      have fx1 := fz_row X1 1
      have fx2 := fz_row X1 2
      have fx3 := fz_row X1 3
      clear f1 R1 X1 c0'
      replace d1 := fw1.cellN d1
      have kn1 : ∀ W, Fr (fun _ => False) w1 W → _ := fun W hW => kn W (fw1.same hW)
      obtain ⟨U, hU⟩ : ∃ U, U = ((w1.setCell ⟨w.heap.size + 1, 2, none⟩ (ci tt)).setCell ⟨w.heap.size + 1, 3, none⟩ (.int .u64 (M : Int))).drew := ⟨_, rfl⟩
      have fS := ((Fr.setCell w1 ⟨w.heap.size + 1, 2, none⟩ (ci tt)).same (Fr.setCell _ ⟨w.heap.size + 1, 3, none⟩ (.int .u64 (M : Int)))).same (Fr.drew _ _)
      have XU : U.heap[w.heap.size + 1]? = some (.cells #[ci 1, ci 0, ci tt, .int .u64 (M : Int)] 69 (0, 0)) := by rw [hU]; exact box4_set2 (show w1.heap[w.heap.size + 1]? = _ from X1H) _ _
      have RU : U.heap[w.heap.size]? = some (.cells #[ci 0, ci 0, ci 0, .int .u64 0] 69 (0, 0)) := by rw [hU]; exact fS.heap (show w1.heap[w.heap.size]? = _ from R1H) (fun e => by have : w.heap.size = w.heap.size + 1 := e; omega)
      have fwU : Hidden (Fr (fun _ => False) w U) := by show Fr _ _ _; rw [hU]; exact fw1.over fS (fun k e => by have : k = w.heap.size + 1 := e; omega)
      have hUH : Hidden (U = _) := hU
      have hnkn : Hidden (∀ W, Fr (fun _ => False) w1 W → _) := kn1
      clear fw1 hU kn fS
      have i1 : 1 < n := by omega
      have i2 : (1 : Int) < (n : Int) := by omega
      have i3 : 10 ≤ cap := by omega
      have i4 : (10 : Int) ≤ (cap : Int) := by omega
      have i5 : 1 ≤ cap := by omega
      have i6 : (2 : Int) ≤ (cap : Int) := by omega
      have i7 : 2 ≤ cap := by omega
      have i8 : ¬ cap = 2 := by omega
      go_upto_region 7 with fail
      go_region_held3 (fun w' => w'.cell? ⟨b, off + 1, none⟩ = some (.int .u8 tt)) (first | (with_reducible assumption) | (exact (Fr.drew (fun _ => False) _).cellN (cell_ot (cell_ot d1 nbX) nbX)) | go_keep) (first
        | (go_at_call 101; (first | with_reducible refine (kn1 _ (Fr.refl _ _)).mono ?_ | with_reducible refine (kn1 _ (Fr.drew _ _)).mono ?_); rintro e w2 ⟨rfl, rfl⟩))
      all_goals
        go_wp2_with fail
        rw [← (show U = _ from hUH)]
        clear x0 x1 x2 x3 r0 r1 r2 r3 fz0 fz1 fz2 fz3 fx1 fx2 fx3 hUH
        obtain ⟨y0, y1, y2, y3⟩ := box4 XU
        obtain ⟨s0, s1, s2, s3⟩ := box4 RU
        have fz0 := fz_row RU 0
        have fz1 := fz_row RU 1
        have fz2 := fz_row RU 2
        have fz3 := fz_row RU 3
        have RUH : Hidden _ := RU
        have XUH : Hidden _ := XU
        have nGX : w.heap.size + 1 ≠ w.heap.size := by omega
        clear RU XU
        go_region_with (first
          | (go_at_call 53; refine (kr _).mono ?_; rintro e w3 ⟨rfl, f3⟩
             (try (have RW := f3.heap (show U.heap[w.heap.size]? = _ from RUH) (fun f => f); obtain ⟨s0, s1, s2, s3⟩ := box4 RW; have fz0 := fz_row RW 0; have fz1 := fz_row RW 1; have fz2 := fz_row RW 2; have fz3 := fz_row RW 3; have RW3H : Hidden _ := RW; clear RW))
             (try (have XW := f3.heap (show U.heap[w.heap.size + 1]? = _ from XUH) (fun f => f); obtain ⟨z0, z1, z2, z3⟩ := box4 XW; clear XW))))
        all_goals
          go_wp2_with fail
          exact post_cs rfl rfl w.heap.size _ rfl (run_loadVar_row _ _ _ _ _ _ _ (four_put (show w3.heap[w.heap.size]? = _ from RW3H) _ _ _ _) Tryz.underlying69 rfl info_in4) ⟨by rfl, ((show Fr (fun _ => False) w U from fwU).same ((Fr.drew _ _).same f3)).over (four_fr _ _ _ _ _ _) (fun k e => by omega)⟩
  · rw [hz] at ks
    by_cases hlen : (n : Int) < 1
    · have hb := (show ∀ z : Int, _ → _ → _ from badH) 1 hz.symm (Or.inr hlen)
      have e1 : fstI c r = default := by unfold fstI; rw [hb]; rfl
      have e2 : fstO c r = false := by unfold fstO; rw [hb]; rfl
      rw [e1, e2]
      have hlt : decide ((n : Int) < 1) = true := by simpa using hlen
      clear hb e1 e2 hlen
      go_enter Tryz.func82, Tryz.ntmps82
      go_wp2_with fail
      go_at_call 83
      refine (ks _).mono ?_
      rintro e w1 ⟨rfl, f1⟩
      have R1 : w1.heap[w.heap.size]? = some (.cells #[ci 0, ci 0, ci 0, .int .u64 0] 69 (0, 0)) := f1.heap (heap_alloc2_old _ _ _) (fun f => f)
      have X1 : w1.heap[w.heap.size + 1]? = some (.cells #[ci op, ci 0, ci 0, .int .u64 0] 69 (0, 0)) := f1.heap (heap_alloc2_new _ _ _) (fun f => f)
      have fw1 : Fr (fun _ => False) w w1 := ((Fr.alloc _ _ _).same (Fr.alloc _ _ _)).same f1
      have R1H : Hidden _ := R1
      have X1H : Hidden _ := X1
      obtain ⟨r0, r1, r2, r3⟩ := box4 R1
      obtain ⟨x0, x1, x2, x3⟩ := box4 X1
      have fz0 := fz_row R1 0
      have fz1 := fz_row R1 1
      have fz2 := fz_row R1 2
      have fz3 := fz_row R1 3
      have fx1 := fz_row X1 1
      have fx2 := fz_row X1 2
      have fx3 := fz_row X1 3
      clear f1 R1 X1 c0'
      go_wp2_with fail
      exact post_cs rfl rfl w.heap.size _ rfl (run_loadVar_row _ _ _ _ _ _ _ (four_put (show w1.heap[w.heap.size]? = _ from R1H) _ _ _ _) Tryz.underlying69 rfl info_in4) ⟨by rfl, fw1.over (four_fr _ _ _ _ _ _) (fun k e => by omega)⟩
    · have hlen' : 1 ≤ n := by omega
      have hg : fstB c r = true := by
        unfold fstB
        rw [← (show op = _ from hopH), hz, show (c :: r).length = n from hnH]
        simp; omega
      obtain ⟨M, hM⟩ : ∃ M, M = numGo 0 (r.take 0) := ⟨_, rfl⟩
      have hMlt : M < 65536 := by
        have := numGo_lt (r.take 0) 0
        rw [← hM, List.length_take] at this
        have h2 : 256 ^ (min 0 r.length) ≤ 256 ^ 2 := Nat.pow_le_pow_right (by decide) (by omega)
        omega
      have e1 : fstI c r = ⟨op, (M : Int), 0, 0⟩ := by
        unfold fstI
        rw [hg, if_pos rfl]
        unfold rawI
        simp only []
        have hc1 : ¬ c.toNat = 1 := by
          have : (op == 1) = false := h1
          simp only [beq_eq_false_iff_ne] at this
          have h3 : op = (c.toNat : Int) := hopH
          omega
        rw [if_neg hc1, ← (show op = _ from hopH), hwd, ← hM]
      have e2 : fstO c r = rightS ⟨op, (M : Int), 0, 0⟩ := by
        unfold fstO
        rw [hg, Bool.true_and]
        unfold fstI at e1
        rw [hg, if_pos rfl] at e1
        rw [e1]
      rw [e1, e2]
      have hwM : IntKind.i64.wrap (M : Int) = (M : Int) := wrap_small _ (by omega) (by omega)
      have hw64 : wrap64 (M : Int) = (M : Int) := by unfold wrap64; omega
      have kr := fun W => right_any ⟨op, (M : Int), 0, 0⟩ (show U64 0 from ⟨by decide, by decide⟩) W
      have hlt : decide ((n : Int) < 1) = false := by simpa using hlen
      have kn : ∀ W, Fr (fun _ => False) w W → ∀ ao' cap', BL W ao' cap' (r.take 0) → Calls Tryz.prog 101 #[.slice ao' 0 cap'] W fun e w' => e = .returned (.int .u64 (M : Int)) ∧ w' = W := by
        intro W hW ao' cap' hb
        have := num_any ao' 0 cap' (r.take 0) (by rw [List.length_take]; have : (c :: r).length = n := hnH; simp at this; omega) (by decide) W hb
        rw [← hM] at this
        exact this
      clear hg e1 e2 hlen hM
      go_enter Tryz.func82, Tryz.ntmps82
      go_wp2_with fail
      go_at_call 83
      refine (ks _).mono ?_
      rintro e w1 ⟨rfl, f1⟩
      have R1 : w1.heap[w.heap.size]? = some (.cells #[ci 0, ci 0, ci 0, .int .u64 0] 69 (0, 0)) := f1.heap (heap_alloc2_old _ _ _) (fun f => f)
      have X1 : w1.heap[w.heap.size + 1]? = some (.cells #[ci op, ci 0, ci 0, .int .u64 0] 69 (0, 0)) := f1.heap (heap_alloc2_new _ _ _) (fun f => f)
      have fw1 : Fr (fun _ => False) w w1 := ((Fr.alloc _ _ _).same (Fr.alloc _ _ _)).same f1
      have R1H : Hidden _ := R1
      have X1H : Hidden _ := X1
      obtain ⟨r0, r1, r2, r3⟩ := box4 R1
      obtain ⟨x0, x1, x2, x3⟩ := box4 X1
      have fz0 := fz_row R1 0
      have fz1 := fz_row R1 1
      have fz2 := fz_row R1 2
      have fz3 := fz_row R1 3
      have fx1 := fz_row X1 1
      have fx2 := fz_row X1 2
      have fx3 := fz_row X1 3
      clear f1 R1 X1 c0'
      have hbl : BL w1 (some ⟨b, off + 1, none⟩) (cap - 1) (r.take 0) := ⟨Nat.zero_le _, (by have : cap ≤ maxLen := (show BL w _ cap _ from hH).2.1; omega), (fun e => by cases e), Or.inl rfl⟩
      have hbl0 : BL w1 (some ⟨b, off, none⟩) 0 (r.take 0) := ⟨Nat.zero_le _, Nat.zero_le _, (fun e => by cases e), Or.inl rfl⟩
      go_wp2_with fail
      all_goals
        go_at_call 101
        first
          | with_reducible refine (kn w1 fw1 _ _ hbl).mono ?_
          | with_reducible refine (kn w1 fw1 (some ⟨b, off, none⟩) 0 hbl0).mono ?_
        rintro e w2 ⟨rfl, hw2⟩
        subst hw2
        clear kn hbl hbl0
        obtain ⟨U, hU⟩ : ∃ U, U = w2.setCell ⟨w.heap.size + 1, 1, none⟩ (ci (M : Int)) := ⟨_, rfl⟩
        have XU : U.heap[w.heap.size + 1]? = some (.cells #[ci op, ci (M : Int), ci 0, .int .u64 0] 69 (0, 0)) := by rw [hU]; exact box4_set1 (show w2.heap[w.heap.size + 1]? = _ from X1H) _
        have RU : U.heap[w.heap.size]? = some (.cells #[ci 0, ci 0, ci 0, .int .u64 0] 69 (0, 0)) := by rw [hU]; exact (Fr.setCell w2 ⟨w.heap.size + 1, 1, none⟩ _).heap (show w2.heap[w.heap.size]? = _ from R1H) (fun e => by have : w.heap.size = w.heap.size + 1 := e; omega)
        have fwU : Hidden (Fr (fun _ => False) w U) := by show Fr _ _ _; rw [hU]; exact fw1.over (Fr.setCell w2 ⟨w.heap.size + 1, 1, none⟩ _) (fun k e => by have : k = w.heap.size + 1 := e; omega)
        have hUH : Hidden (U = _) := hU
        clear fw1 hU
        go_wp2_with fail
        rw [← (show U = _ from hUH)]
        clear x0 x1 x2 x3 r0 r1 r2 r3 fz0 fz1 fz2 fz3 fx1 fx2 fx3 hUH
        obtain ⟨y0, y1, y2, y3⟩ := box4 XU
        obtain ⟨s0, s1, s2, s3⟩ := box4 RU
        have fz0 := fz_row RU 0
        have fz1 := fz_row RU 1
        have fz2 := fz_row RU 2
        have fz3 := fz_row RU 3
        have RUH : Hidden _ := RU
        have XUH : Hidden _ := XU
        have nGX : w.heap.size + 1 ≠ w.heap.size := by omega
        clear RU XU
        go_region_with (first
          | (go_at_call 53; refine (kr _).mono ?_; rintro e w3 ⟨rfl, f3⟩
             (try (have RW := f3.heap (show U.heap[w.heap.size]? = _ from RUH) (fun f => f); obtain ⟨s0, s1, s2, s3⟩ := box4 RW; have fz0 := fz_row RW 0; have fz1 := fz_row RW 1; have fz2 := fz_row RW 2; have fz3 := fz_row RW 3; have RW3H : Hidden _ := RW; clear RW))
             (try (have XW := f3.heap (show U.heap[w.heap.size + 1]? = _ from XUH) (fun f => f); obtain ⟨z0, z1, z2, z3⟩ := box4 XW; clear XW))))
        all_goals
          go_wp2_with fail
          exact post_cs rfl rfl w.heap.size _ rfl (run_loadVar_row _ _ _ _ _ _ _ (four_put (show w3.heap[w.heap.size]? = _ from RW3H) _ _ _ _) Tryz.underlying69 rfl info_in4) ⟨by rfl, ((show Fr (fun _ => False) w U from fwU).same ((Fr.drew _ _).same f3)).over (four_fr _ _ _ _ _ _) (fun k e => by omega)⟩
  · rw [hz] at ks
    by_cases hlen : (n : Int) < 2
    · have hb := (show ∀ z : Int, _ → _ → _ from badH) 2 hz.symm (Or.inr hlen)
      have e1 : fstI c r = default := by unfold fstI; rw [hb]; rfl
      have e2 : fstO c r = false := by unfold fstO; rw [hb]; rfl
      rw [e1, e2]
      have hlt : decide ((n : Int) < 2) = true := by simpa using hlen
      clear hb e1 e2 hlen
      go_enter Tryz.func82, Tryz.ntmps82
      go_wp2_with fail
      go_at_call 83
      refine (ks _).mono ?_
      rintro e w1 ⟨rfl, f1⟩
      have R1 : w1.heap[w.heap.size]? = some (.cells #[ci 0, ci 0, ci 0, .int .u64 0] 69 (0, 0)) := f1.heap (heap_alloc2_old _ _ _) (fun f => f)
      have X1 : w1.heap[w.heap.size + 1]? = some (.cells #[ci op, ci 0, ci 0, .int .u64 0] 69 (0, 0)) := f1.heap (heap_alloc2_new _ _ _) (fun f => f)
      have fw1 : Fr (fun _ => False) w w1 := ((Fr.alloc _ _ _).same (Fr.alloc _ _ _)).same f1
      have R1H : Hidden _ := R1
      have X1H : Hidden _ := X1
      obtain ⟨r0, r1, r2, r3⟩ := box4 R1
      obtain ⟨x0, x1, x2, x3⟩ := box4 X1
      have fz0 := fz_row R1 0
      have fz1 := fz_row R1 1
      have fz2 := fz_row R1 2
      have fz3 := fz_row R1 3
      have fx1 := fz_row X1 1
      have fx2 := fz_row X1 2
      have fx3 := fz_row X1 3
      clear f1 R1 X1 c0'
      go_wp2_with fail
      exact post_cs rfl rfl w.heap.size _ rfl (run_loadVar_row _ _ _ _ _ _ _ (four_put (show w1.heap[w.heap.size]? = _ from R1H) _ _ _ _) Tryz.underlying69 rfl info_in4) ⟨by rfl, fw1.over (four_fr _ _ _ _ _ _) (fun k e => by omega)⟩
    · have hlen' : 2 ≤ n := by omega
      have hg : fstB c r = true := by
        unfold fstB
        rw [← (show op = _ from hopH), hz, show (c :: r).length = n from hnH]
        simp; omega
      obtain ⟨M, hM⟩ : ∃ M, M = numGo 0 (r.take 1) := ⟨_, rfl⟩
      have hMlt : M < 65536 := by
        have := numGo_lt (r.take 1) 0
        rw [← hM, List.length_take] at this
        have h2 : 256 ^ (min 1 r.length) ≤ 256 ^ 2 := Nat.pow_le_pow_right (by decide) (by omega)
        omega
      have e1 : fstI c r = ⟨op, (M : Int), 0, 0⟩ := by
        unfold fstI
        rw [hg, if_pos rfl]
        unfold rawI
        simp only []
        have hc1 : ¬ c.toNat = 1 := by
          have : (op == 1) = false := h1
          simp only [beq_eq_false_iff_ne] at this
          have h3 : op = (c.toNat : Int) := hopH
          omega
        rw [if_neg hc1, ← (show op = _ from hopH), hwd, ← hM]
      have e2 : fstO c r = rightS ⟨op, (M : Int), 0, 0⟩ := by
        unfold fstO
        rw [hg, Bool.true_and]
        unfold fstI at e1
        rw [hg, if_pos rfl] at e1
        rw [e1]
      rw [e1, e2]
      have hwM : IntKind.i64.wrap (M : Int) = (M : Int) := wrap_small _ (by omega) (by omega)
      have hw64 : wrap64 (M : Int) = (M : Int) := by unfold wrap64; omega
      have kr := fun W => right_any ⟨op, (M : Int), 0, 0⟩ (show U64 0 from ⟨by decide, by decide⟩) W
      have hlt : decide ((n : Int) < 2) = false := by simpa using hlen
      have kn : ∀ W, Fr (fun _ => False) w W → ∀ ao' cap', BL W ao' cap' (r.take 1) → Calls Tryz.prog 101 #[.slice ao' 1 cap'] W fun e w' => e = .returned (.int .u64 (M : Int)) ∧ w' = W := by
        intro W hW ao' cap' hb
        have := num_any ao' 1 cap' (r.take 1) (by rw [List.length_take]; have : (c :: r).length = n := hnH; simp at this; omega) (by decide) W hb
        rw [← hM] at this
        exact this
      clear hg e1 e2 hlen hM
      go_enter Tryz.func82, Tryz.ntmps82
      go_wp2_with fail
      go_at_call 83
      refine (ks _).mono ?_
      rintro e w1 ⟨rfl, f1⟩
      have R1 : w1.heap[w.heap.size]? = some (.cells #[ci 0, ci 0, ci 0, .int .u64 0] 69 (0, 0)) := f1.heap (heap_alloc2_old _ _ _) (fun f => f)
      have X1 : w1.heap[w.heap.size + 1]? = some (.cells #[ci op, ci 0, ci 0, .int .u64 0] 69 (0, 0)) := f1.heap (heap_alloc2_new _ _ _) (fun f => f)
      have fw1 : Fr (fun _ => False) w w1 := ((Fr.alloc _ _ _).same (Fr.alloc _ _ _)).same f1
      have R1H : Hidden _ := R1
      have X1H : Hidden _ := X1
      obtain ⟨r0, r1, r2, r3⟩ := box4 R1
      obtain ⟨x0, x1, x2, x3⟩ := box4 X1
      have fz0 := fz_row R1 0
      have fz1 := fz_row R1 1
      have fz2 := fz_row R1 2
      have fz3 := fz_row R1 3
      have fx1 := fz_row X1 1
      have fx2 := fz_row X1 2
      have fx3 := fz_row X1 3
      clear f1 R1 X1 c0'
      have hbl : BL w1 (some ⟨b, off + 1, none⟩) (cap - 1) (r.take 1) := (BL.sub (m := 1) 1 ((show BL w _ cap _ from hH).keep fw1) (by rw [show (c :: r).length = n from hnH]; omega) (by omega))
      have hbl0 : BL w1 (some ⟨b, off, none⟩) 0 (r.take 0) := ⟨Nat.zero_le _, Nat.zero_le _, (fun e => by cases e), Or.inl rfl⟩
      go_wp2_with fail
      all_goals
        go_at_call 101
        first
          | with_reducible refine (kn w1 fw1 _ _ hbl).mono ?_
          | with_reducible refine (kn w1 fw1 (some ⟨b, off, none⟩) 0 hbl0).mono ?_
        rintro e w2 ⟨rfl, hw2⟩
        subst hw2
        clear kn hbl hbl0
        obtain ⟨U, hU⟩ : ∃ U, U = w2.setCell ⟨w.heap.size + 1, 1, none⟩ (ci (M : Int)) := ⟨_, rfl⟩
        have XU : U.heap[w.heap.size + 1]? = some (.cells #[ci op, ci (M : Int), ci 0, .int .u64 0] 69 (0, 0)) := by rw [hU]; exact box4_set1 (show w2.heap[w.heap.size + 1]? = _ from X1H) _
        have RU : U.heap[w.heap.size]? = some (.cells #[ci 0, ci 0, ci 0, .int .u64 0] 69 (0, 0)) := by rw [hU]; exact (Fr.setCell w2 ⟨w.heap.size + 1, 1, none⟩ _).heap (show w2.heap[w.heap.size]? = _ from R1H) (fun e => by have : w.heap.size = w.heap.size + 1 := e; omega)
        have fwU : Hidden (Fr (fun _ => False) w U) := by show Fr _ _ _; rw [hU]; exact fw1.over (Fr.setCell w2 ⟨w.heap.size + 1, 1, none⟩ _) (fun k e => by have : k = w.heap.size + 1 := e; omega)
        have hUH : Hidden (U = _) := hU
        clear fw1 hU
        go_wp2_with fail
        rw [← (show U = _ from hUH)]
        clear x0 x1 x2 x3 r0 r1 r2 r3 fz0 fz1 fz2 fz3 fx1 fx2 fx3 hUH
        obtain ⟨y0, y1, y2, y3⟩ := box4 XU
        obtain ⟨s0, s1, s2, s3⟩ := box4 RU
        have fz0 := fz_row RU 0
        have fz1 := fz_row RU 1
        have fz2 := fz_row RU 2
        have fz3 := fz_row RU 3
        have RUH : Hidden _ := RU
        have XUH : Hidden _ := XU
        have nGX : w.heap.size + 1 ≠ w.heap.size := by omega
        clear RU XU
        go_region_with (first
          | (go_at_call 53; refine (kr _).mono ?_; rintro e w3 ⟨rfl, f3⟩
             (try (have RW := f3.heap (show U.heap[w.heap.size]? = _ from RUH) (fun f => f); obtain ⟨s0, s1, s2, s3⟩ := box4 RW; have fz0 := fz_row RW 0; have fz1 := fz_row RW 1; have fz2 := fz_row RW 2; have fz3 := fz_row RW 3; have RW3H : Hidden _ := RW; clear RW))
             (try (have XW := f3.heap (show U.heap[w.heap.size + 1]? = _ from XUH) (fun f => f); obtain ⟨z0, z1, z2, z3⟩ := box4 XW; clear XW))))
        all_goals
          go_wp2_with fail
          exact post_cs rfl rfl w.heap.size _ rfl (run_loadVar_row _ _ _ _ _ _ _ (four_put (show w3.heap[w.heap.size]? = _ from RW3H) _ _ _ _) Tryz.underlying69 rfl info_in4) ⟨by rfl, ((show Fr (fun _ => False) w U from fwU).same ((Fr.drew _ _).same f3)).over (four_fr _ _ _ _ _ _) (fun k e => by omega)⟩
  · rw [hz] at ks
    by_cases hlen : (n : Int) < 3
    · have hb := (show ∀ z : Int, _ → _ → _ from badH) 3 hz.symm (Or.inr hlen)
      have e1 : fstI c r = default := by unfold fstI; rw [hb]; rfl
      have e2 : fstO c r = false := by unfold fstO; rw [hb]; rfl
      rw [e1, e2]
      have hlt : decide ((n : Int) < 3) = true := by simpa using hlen
      clear hb e1 e2 hlen
      go_enter Tryz.func82, Tryz.ntmps82
      go_wp2_with fail
      go_at_call 83
      refine (ks _).mono ?_
      rintro e w1 ⟨rfl, f1⟩
      have R1 : w1.heap[w.heap.size]? = some (.cells #[ci 0, ci 0, ci 0, .int .u64 0] 69 (0, 0)) := f1.heap (heap_alloc2_old _ _ _) (fun f => f)
      have X1 : w1.heap[w.heap.size + 1]? = some (.cells #[ci op, ci 0, ci 0, .int .u64 0] 69 (0, 0)) := f1.heap (heap_alloc2_new _ _ _) (fun f => f)
      have fw1 : Fr (fun _ => False) w w1 := ((Fr.alloc _ _ _).same (Fr.alloc _ _ _)).same f1
      have R1H : Hidden _ := R1
      have X1H : Hidden _ := X1
      obtain ⟨r0, r1, r2, r3⟩ := box4 R1
      obtain ⟨x0, x1, x2, x3⟩ := box4 X1
      have fz0 := fz_row R1 0
      have fz1 := fz_row R1 1
      have fz2 := fz_row R1 2
      have fz3 := fz_row R1 3
      have fx1 := fz_row X1 1
      have fx2 := fz_row X1 2
      have fx3 := fz_row X1 3
      clear f1 R1 X1 c0'
      go_wp2_with fail
      exact post_cs rfl rfl w.heap.size _ rfl (run_loadVar_row _ _ _ _ _ _ _ (four_put (show w1.heap[w.heap.size]? = _ from R1H) _ _ _ _) Tryz.underlying69 rfl info_in4) ⟨by rfl, fw1.over (four_fr _ _ _ _ _ _) (fun k e => by omega)⟩
    · have hlen' : 3 ≤ n := by omega
      have hg : fstB c r = true := by
        unfold fstB
        rw [← (show op = _ from hopH), hz, show (c :: r).length = n from hnH]
        simp; omega
      obtain ⟨M, hM⟩ : ∃ M, M = numGo 0 (r.take 2) := ⟨_, rfl⟩
      have hMlt : M < 65536 := by
        have := numGo_lt (r.take 2) 0
        rw [← hM, List.length_take] at this
        have h2 : 256 ^ (min 2 r.length) ≤ 256 ^ 2 := Nat.pow_le_pow_right (by decide) (by omega)
        omega
      have e1 : fstI c r = ⟨op, (M : Int), 0, 0⟩ := by
        unfold fstI
        rw [hg, if_pos rfl]
        unfold rawI
        simp only []
        have hc1 : ¬ c.toNat = 1 := by
          have : (op == 1) = false := h1
          simp only [beq_eq_false_iff_ne] at this
          have h3 : op = (c.toNat : Int) := hopH
          omega
        rw [if_neg hc1, ← (show op = _ from hopH), hwd, ← hM]
      have e2 : fstO c r = rightS ⟨op, (M : Int), 0, 0⟩ := by
        unfold fstO
        rw [hg, Bool.true_and]
        unfold fstI at e1
        rw [hg, if_pos rfl] at e1
        rw [e1]
      rw [e1, e2]
      have hwM : IntKind.i64.wrap (M : Int) = (M : Int) := wrap_small _ (by omega) (by omega)
      have hw64 : wrap64 (M : Int) = (M : Int) := by unfold wrap64; omega
      have kr := fun W => right_any ⟨op, (M : Int), 0, 0⟩ (show U64 0 from ⟨by decide, by decide⟩) W
      have hlt : decide ((n : Int) < 3) = false := by simpa using hlen
      have kn : ∀ W, Fr (fun _ => False) w W → ∀ ao' cap', BL W ao' cap' (r.take 2) → Calls Tryz.prog 101 #[.slice ao' 2 cap'] W fun e w' => e = .returned (.int .u64 (M : Int)) ∧ w' = W := by
        intro W hW ao' cap' hb
        have := num_any ao' 2 cap' (r.take 2) (by rw [List.length_take]; have : (c :: r).length = n := hnH; simp at this; omega) (by decide) W hb
        rw [← hM] at this
        exact this
      clear hg e1 e2 hlen hM
      go_enter Tryz.func82, Tryz.ntmps82
      go_wp2_with fail
      go_at_call 83
      refine (ks _).mono ?_
      rintro e w1 ⟨rfl, f1⟩
      have R1 : w1.heap[w.heap.size]? = some (.cells #[ci 0, ci 0, ci 0, .int .u64 0] 69 (0, 0)) := f1.heap (heap_alloc2_old _ _ _) (fun f => f)
      have X1 : w1.heap[w.heap.size + 1]? = some (.cells #[ci op, ci 0, ci 0, .int .u64 0] 69 (0, 0)) := f1.heap (heap_alloc2_new _ _ _) (fun f => f)
      have fw1 : Fr (fun _ => False) w w1 := ((Fr.alloc _ _ _).same (Fr.alloc _ _ _)).same f1
      have R1H : Hidden _ := R1
      have X1H : Hidden _ := X1
      obtain ⟨r0, r1, r2, r3⟩ := box4 R1
      obtain ⟨x0, x1, x2, x3⟩ := box4 X1
      have fz0 := fz_row R1 0
      have fz1 := fz_row R1 1
      have fz2 := fz_row R1 2
      have fz3 := fz_row R1 3
      have fx1 := fz_row X1 1
      have fx2 := fz_row X1 2
      have fx3 := fz_row X1 3
      clear f1 R1 X1 c0'
      have hbl : BL w1 (some ⟨b, off + 1, none⟩) (cap - 1) (r.take 2) := (BL.sub (m := 2) 1 ((show BL w _ cap _ from hH).keep fw1) (by rw [show (c :: r).length = n from hnH]; omega) (by omega))
      have hbl0 : BL w1 (some ⟨b, off, none⟩) 0 (r.take 0) := ⟨Nat.zero_le _, Nat.zero_le _, (fun e => by cases e), Or.inl rfl⟩
      go_wp2_with fail
      all_goals
        go_at_call 101
        first
          | with_reducible refine (kn w1 fw1 _ _ hbl).mono ?_
          | with_reducible refine (kn w1 fw1 (some ⟨b, off, none⟩) 0 hbl0).mono ?_
        rintro e w2 ⟨rfl, hw2⟩
        subst hw2
        clear kn hbl hbl0
        obtain ⟨U, hU⟩ : ∃ U, U = w2.setCell ⟨w.heap.size + 1, 1, none⟩ (ci (M : Int)) := ⟨_, rfl⟩
        have XU : U.heap[w.heap.size + 1]? = some (.cells #[ci op, ci (M : Int), ci 0, .int .u64 0] 69 (0, 0)) := by rw [hU]; exact box4_set1 (show w2.heap[w.heap.size + 1]? = _ from X1H) _
        have RU : U.heap[w.heap.size]? = some (.cells #[ci 0, ci 0, ci 0, .int .u64 0] 69 (0, 0)) := by rw [hU]; exact (Fr.setCell w2 ⟨w.heap.size + 1, 1, none⟩ _).heap (show w2.heap[w.heap.size]? = _ from R1H) (fun e => by have : w.heap.size = w.heap.size + 1 := e; omega)
        have fwU : Hidden (Fr (fun _ => False) w U) := by show Fr _ _ _; rw [hU]; exact fw1.over (Fr.setCell w2 ⟨w.heap.size + 1, 1, none⟩ _) (fun k e => by have : k = w.heap.size + 1 := e; omega)
        have hUH : Hidden (U = _) := hU
        clear fw1 hU
        go_wp2_with fail
        rw [← (show U = _ from hUH)]
        clear x0 x1 x2 x3 r0 r1 r2 r3 fz0 fz1 fz2 fz3 fx1 fx2 fx3 hUH
        obtain ⟨y0, y1, y2, y3⟩ := box4 XU
        obtain ⟨s0, s1, s2, s3⟩ := box4 RU
        have fz0 := fz_row RU 0
        have fz1 := fz_row RU 1
        have fz2 := fz_row RU 2
        have fz3 := fz_row RU 3
        have RUH : Hidden _ := RU
        have XUH : Hidden _ := XU
        have nGX : w.heap.size + 1 ≠ w.heap.size := by omega
        clear RU XU
        go_region_with (first
          | (go_at_call 53; refine (kr _).mono ?_; rintro e w3 ⟨rfl, f3⟩
             (try (have RW := f3.heap (show U.heap[w.heap.size]? = _ from RUH) (fun f => f); obtain ⟨s0, s1, s2, s3⟩ := box4 RW; have fz0 := fz_row RW 0; have fz1 := fz_row RW 1; have fz2 := fz_row RW 2; have fz3 := fz_row RW 3; have RW3H : Hidden _ := RW; clear RW))
             (try (have XW := f3.heap (show U.heap[w.heap.size + 1]? = _ from XUH) (fun f => f); obtain ⟨z0, z1, z2, z3⟩ := box4 XW; clear XW))))
        all_goals
          go_wp2_with fail
          exact post_cs rfl rfl w.heap.size _ rfl (run_loadVar_row _ _ _ _ _ _ _ (four_put (show w3.heap[w.heap.size]? = _ from RW3H) _ _ _ _) Tryz.underlying69 rfl info_in4) ⟨by rfl, ((show Fr (fun _ => False) w U from fwU).same ((Fr.drew _ _).same f3)).over (four_fr _ _ _ _ _ _) (fun k e => by omega)⟩
end Go.Proofs.YtoiglopilpoafaaGreatDoor.Cd
