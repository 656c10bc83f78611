/- Texts of ours, in one. -/
import Derived.Test.YtoiglopilpoafaaGreatDoorPk14
import Derived.Test.YtoiglopilpoafaaGreatDoorPk15
import Derived.Test.YtoiglopilpoafaaGreatDoorPk11
import Derived.Deep.DeepCutAuto
namespace Go.Proofs.YtoiglopilpoafaaGreatDoor.Cd
open Go.RowKit Ty
set_option linter.unusedSimpArgs false
set_option linter.unusedVariables false

set_option maxRecDepth 20000 in
theorem with_any (x y x' : Bs) (m : Int) (w : World) : Calls Tryz.prog 95 #[.agg #[ct x, ct y, ci m], ct x'] w fun e w' => e = .returned (.agg #[ct x', ct y, ci m]) ∧ Fr (fun _ => False) w w' := by
  go_enter Tryz.func95, Tryz.ntmps95
  go_wp2_with fail
  refine post_one rfl rfl _ #[ct x', ct y, ci m] 148 _ rfl ?_ Tryz.underlying148 rfl (by kernel_rfl) ⟨rfl, (Fr.alloc _ _ _).same (Fr.alloc _ _ _)⟩
  exact alloc_at _ _ _ (by simp)
theorem box3 {w : World} {b : Nat} {x0 x1 x2 : Value} {t : TypeId} (hb : w.heap[b]? = some (.cells #[x0, x1, x2] t (0, 0))) :
    w.cell? ⟨b, 0, none⟩ = some x0 ∧ w.cell? ⟨b, 1, none⟩ = some x1 ∧ w.cell? ⟨b, 2, none⟩ = some x2 :=
  ⟨cell_of_row _ _ 0 _ _ _ hb, cell_of_row _ _ 1 _ _ _ hb, cell_of_row _ _ 2 _ _ _ hb⟩
theorem box9 {w : World} {b : Nat} {x0 x1 x2 x3 x4 x5 x6 x7 x8 : Value} {t : TypeId} (hb : w.heap[b]? = some (.cells #[x0, x1, x2, x3, x4, x5, x6, x7, x8] t (0, 0))) :
    w.cell? ⟨b, 0, none⟩ = some x0 ∧ w.cell? ⟨b, 1, none⟩ = some x1 ∧ w.cell? ⟨b, 2, none⟩ = some x2 ∧ w.cell? ⟨b, 3, none⟩ = some x3 ∧ w.cell? ⟨b, 4, none⟩ = some x4 ∧ w.cell? ⟨b, 5, none⟩ = some x5 ∧ w.cell? ⟨b, 6, none⟩ = some x6 ∧ w.cell? ⟨b, 7, none⟩ = some x7 ∧ w.cell? ⟨b, 8, none⟩ = some x8 :=
  ⟨cell_of_row _ _ 0 _ _ _ hb, cell_of_row _ _ 1 _ _ _ hb, cell_of_row _ _ 2 _ _ _ hb, cell_of_row _ _ 3 _ _ _ hb, cell_of_row _ _ 4 _ _ _ hb, cell_of_row _ _ 5 _ _ _ hb, cell_of_row _ _ 6 _ _ _ hb, cell_of_row _ _ 7 _ _ _ hb, cell_of_row _ _ 8 _ _ _ hb⟩
/-- What ways answers of an instruction that is neither try nor untry. -/
def wyR (k n : Nat) (hs fit en : Bool) (nu N : Int) (T : List Int) (s : Sp) : Int × List (Int × Sp) :=
  if hs = false ∨ (en = false ∧ k + 1 = n) ∨ fit = false then (51, [])
  else if 512 < T.length then (3, [])
  else (0, (if en then [] else [((k : Int) + 1, ⟨T, s.tr⟩)]) ++ (if nu = 4 then [(N, ⟨T, s.tr⟩)] else []))
def wyC (x : Int × Sp) : List Value := [ci x.1, ct (encSt x.2.st), ct (encTr x.2.tr), ci (x.2.tr.length : Int)]
/-- A row of ways of the call's own. -/
def Wy (w : World) (B : Nat) (v : Value) (l : List (Int × Sp)) : Prop := w.ownsRow B 150 4 v l.length (l.flatMap wyC)
theorem Wy.nil (w : World) (B : Nat) : Wy w B (.slice none 0 0) [] := own_nil w B _ 4
theorem Wy.keepN {w w' : World} {B : Nat} {v : Value} {l : List (Int × Sp)} (h : Wy w B v l) (hf : Fr (fun _ => False) w w') : Wy w' B v l := own_keep h hf (fun _ _ f => f)
theorem info_way : (Tryz.prog.info? 150).map (fun i => (i.zero, i.size, i.bytes)) = some (some (.agg #[.int .i64 0, .string ⟨#[]⟩, .string ⟨#[]⟩, .int .i64 0]), 4, 48) := by kernel_rfl
theorem wpl_way {w : World} {ops : Array Oper} {rest : List Oper} {o : Oper} {a : Act} {Q : Exit → Act → World → Prop} (hgd : o.guard = none) (s x : Operand)
    (ho : o.op = .call { callee := .builtin .append, args := #[s, x], argTypes := #[144, 144] }) (B : Nat) (v : Value) (l : List (Int × Sp)) (c : Int × Sp) (g : Nat)
    (hs : a.eval s = v) (hr : Wy w B v l) (hx : a.eval x = .slice (some ⟨g, 0, none⟩) 1 1) (hc : ∀ (j : Nat) (u : Value), (wyC c)[j]? = some u → w.cell? ⟨g, j, none⟩ = some u) (hl : l.length ≤ 1000) (hB : B ≤ w.heap.size)
    (h : ∀ v' w', Wy w' B v' (l ++ [c]) → Ap w w' v v' → wpList Tryz.prog ops Q rest (a.put o.dst v') w') : wpList Tryz.prog ops Q (o :: rest) a w := by
  refine wpl_append hgd s x 144 150 _ 4 48 Tryz.underlying144 info_way rfl (by decide) ho B v l.length (l.flatMap wyC) ⟨g, 0, none⟩ 1 1 (wyC c) hs hr hx rfl ?_ ?_ ?_ ?_ hB ?_
  · intro j u hu
    have := hc j u hu
    cases j <;> simpa [Addr.add] using this
  · intro u hu
    simp only [wyC, List.mem_cons, List.not_mem_nil, or_false] at hu
    rcases hu with rfl | rfl | rfl | rfl <;> rfl
  · simp only [maxLen]; omega
  · omega
  · intro v' w' h1 h2 h3
    refine h v' w' ?_ (Ap.of h2 h3)
    show w'.ownsRow B _ 4 v' (l ++ [c]).length ((l ++ [c]).flatMap wyC)
    rw [List.flatMap_append, show (l ++ [c]).length = l.length + 1 by rw [List.length_append]; rfl]
    simpa using h1
set_option maxRecDepth 20000 in
set_option maxHeartbeats 4000000 in
theorem ways_w (q gs ga n k b3 o3 c3 : Nat) (v0 v1 v2 v4 v5 : Value) (L : Cs) (s : Sp) (st' : Bs) (T : List Int) (g : Bool) (op N t b by' lo' hi' nu ta pu tr : Int) (nm : Bs) (en hs fit : Bool) (w : World)
    (h : Wk w q gs ga n v0 v1 v2 (.slice (some ⟨b3, o3, none⟩) n c3) v4 v5 L) (hk : L[k]? = some (some (g, s))) (hn : n ≤ 1000000) (hc3 : n ≤ c3) (hc3m : c3 ≤ 9223372036854775807)
    (i0 : w.cell? ⟨b3, o3 + k * 4, none⟩ = some (ci op)) (i1 : w.cell? ⟨b3, o3 + k * 4 + 1, none⟩ = some (ci N)) (i2 : w.cell? ⟨b3, o3 + k * 4 + 2, none⟩ = some (ci t)) (i3 : w.cell? ⟨b3, o3 + k * 4 + 3, none⟩ = some (.int .u64 b))
    (hop : (op == 15) = false) (hop2 : (op == 16) = false) (htr : tr = 0) (hm : s.tr.length ≤ 32) (hT : fit = true → st' = encSt T) (hTl : st'.length ≤ 1000000)
    (kr : ∀ W, Calls Tryz.prog 71 #[ci op] W fun e w' => e = .returned (.tuple #[.agg #[ct nm, ci by', ci lo', ci hi', ci nu, ci ta, ci pu, ci tr, .bool en], .bool true]) ∧ Fr (fun _ => False) W w')
    (kh : ∀ W, Fr (fun _ => False) w W → Calls Tryz.prog 93 #[.pointer (some ⟨q, 0, none⟩), .agg #[ci op, ci N, ci t, .int .u64 b], ci nu] W fun e w' => e = .returned (.bool hs) ∧ Fr (fun _ => False) W w')
    (ks : hs = true → ∀ W, Fr (fun _ => False) w W → Calls Tryz.prog 94 #[.pointer (some ⟨q, 0, none⟩), .agg #[ci op, ci N, ci t, .int .u64 b], .agg #[ct nm, ci by', ci lo', ci hi', ci nu, ci ta, ci pu, ci tr, .bool en], ct (encSt s.st)] W fun e w' => e = .returned (.tuple #[ct st', .bool fit]) ∧ Fr (fun _ => False) W w') :
    Calls Tryz.prog 73 #[.pointer (some ⟨q, 0, none⟩), ci (k : Int)] w fun e w' => ∃ v, e = .returned (.tuple #[v, ci (wyR k n hs fit en nu N T s).1]) ∧ Fr (fun _ => False) w w' ∧ Wy w' w.heap.size v (wyR k n hs fit en nu N T s).2 := by
  subst htr
  have hkn : k < n := by rw [← h.len]; exact (List.getElem?_eq_some_iff.1 hk).1
  obtain ⟨_, _, _, d3, _, _, d6, d7⟩ := box8 h.box
  obtain ⟨a0, a1, a2⟩ := ah_at h.ah hk
  simp only [shO] at a0 a1 a2
  obtain ⟨x, hx⟩ : ∃ x, x = encSt s.st := ⟨_, rfl⟩
  obtain ⟨y, hy⟩ : ∃ y, y = encTr s.tr := ⟨_, rfl⟩
  obtain ⟨m, hmm⟩ : ∃ m, m = s.tr.length := ⟨_, rfl⟩
  rw [← hx] at a0 ks
  rw [← hy] at a1
  rw [← hmm] at a2 hm
  have hxH : Hidden (x = encSt s.st) := hx
  have hyH : Hidden (y = encTr s.tr) := hy
  have hmH : Hidden (m = s.tr.length) := hmm
  have hkz : (k : Int) < (n : Int) := by omega
  have q3 := World.new_ne w _ d3
  have q7 := World.new_ne w _ d7
  have p0 := World.new_ne w _ i0
  have p1 := World.new_ne w _ a0
  clear h hk hx hy hmm d6
  go_enter Tryz.func73, Tryz.ntmps73
  go_upto_region 1 with fail
  go_cut [6, 7] (fun p6 p7 wx => ∃ g6 g7, p6 = .pointer (some ⟨g6, 0, none⟩) ∧ p7 = .pointer (some ⟨g7, 0, none⟩) ∧ wx.heap[g6]? = some (.cells #[ci op, ci N, ci t, .int .u64 b] 69 (0, 0)) ∧ wx.heap[g7]? = some (.cells #[ct x, ct y, ci (m : Int)] 148 (0, 0)) ∧ Fr (fun _ => False) w wx)
  case first =>
    go_region_held3 (fun w' => w'.cell? ⟨q, 3, none⟩ = some (.slice (some ⟨b3, o3, none⟩) n c3) ∧ w'.cell? ⟨q, 7, none⟩ = some (.slice (some ⟨ga, 0, none⟩) n n) ∧ w'.cell? ⟨b3, o3 + k * 4, none⟩ = some (ci op) ∧ w'.cell? ⟨b3, o3 + k * 4 + 1, none⟩ = some (ci N) ∧ w'.cell? ⟨b3, o3 + k * 4 + 2, none⟩ = some (ci t) ∧ w'.cell? ⟨b3, o3 + k * 4 + 3, none⟩ = some (.int .u64 b) ∧ w'.cell? ⟨ga, k * 3, none⟩ = some (ct x) ∧ w'.cell? ⟨ga, k * 3 + 1, none⟩ = some (ct y) ∧ w'.cell? ⟨ga, k * 3 + 2, none⟩ = some (ci (m : Int))) (first | (refine ⟨by with_reducible assumption, by with_reducible assumption, by with_reducible assumption, by with_reducible assumption, by with_reducible assumption, by with_reducible assumption, by with_reducible assumption, by with_reducible assumption, by with_reducible assumption⟩) | go_keep) (fail)
    · go_wp2_with fail
      go_meet
      exact ⟨_, _, rfl, rfl, (Fr.drew (fun _ => False) _).heap (heap_alloc2_old _ _ _) (fun f => f), (Fr.drew (fun _ => False) _).heap (heap_alloc2_new _ _ _) (fun f => f), ((Fr.alloc _ _ _).same (Fr.alloc _ _ _)).same (Fr.drew _ _)⟩
    · go_wp2_with fail
      go_meet
      exact ⟨_, _, rfl, rfl, (Fr.drew (fun _ => False) _).heap (heap_alloc2_new _ _ _) (fun f => f), (Fr.drew (fun _ => False) _).heap (heap_alloc2_old _ _ _) (fun f => f), ((Fr.alloc _ _ _).same (Fr.alloc _ _ _)).same (Fr.drew _ _)⟩
  case rest =>
    obtain ⟨g6, g7, rfl, rfl, h6, h7, fc⟩ := hcut
    obtain ⟨r0, r1, r2, r3⟩ := box4 h6
    obtain ⟨t0, t1, t2⟩ := box3 h7
    have h6H : Hidden (wc.heap[g6]? = some (.cells #[ci op, ci N, ci t, .int .u64 b] 69 (0, 0))) := h6
    have h7H : Hidden (wc.heap[g7]? = some (.cells #[ct x, ct y, ci (m : Int)] 148 (0, 0))) := h7
    have fcH : Hidden (Fr (fun _ => False) w wc) := fc
    have e3 := fc.cellN d3
    clear h6 h7 q3 q7 p0 p1 a0 a1 a2 i0 i1 i2 i3 d3 d7
    go_upto_region 3 with (first
      | (go_at_call 71; refine (kr _).mono ?_; rintro e w1 ⟨rfl, f1⟩))
    obtain ⟨V, hV⟩ : ∃ V, V = w1.alloc (.cells #[ct nm, ci by', ci lo', ci hi', ci nu, ci ta, ci pu, ci 0, .bool en] 136 (0, 0)) := ⟨_, rfl⟩
    have fV : Fr (fun _ => False) wc V := by rw [hV]; exact f1.same (Fr.alloc _ _ _)
    have hrow : V.heap[w1.heap.size]? = some (.cells #[ct nm, ci by', ci lo', ci hi', ci nu, ci ta, ci pu, ci 0, .bool en] 136 (0, 0)) := by rw [hV]; exact alloc_new _ _
    obtain ⟨s0, s1, s2, s3, s4, s5, s6, s7, s8⟩ := box9 hrow
    have hrowH : Hidden (V.heap[w1.heap.size]? = some (.cells #[ct nm, ci by', ci lo', ci hi', ci nu, ci ta, ci pu, ci 0, .bool en] 136 (0, 0))) := hrow
    replace r0 := fV.cellN r0
    replace r1 := fV.cellN r1
    replace r2 := fV.cellN r2
    replace r3 := fV.cellN r3
    replace t0 := fV.cellN t0
    replace t1 := fV.cellN t1
    replace t2 := fV.cellN t2
    replace e3 := fV.cellN e3
    have h6V : Hidden (V.heap[g6]? = some (.cells #[ci op, ci N, ci t, .int .u64 b] 69 (0, 0))) := fV.heap h6H (fun f => f)
    have h7V : Hidden (V.heap[g7]? = some (.cells #[ct x, ct y, ci (m : Int)] 148 (0, 0))) := fV.heap h7H (fun f => f)
    have fwV : Hidden (Fr (fun _ => False) w V) := (show Fr (fun _ => False) w wc from fcH).same fV
    generalize w1.heap.size = g8 at *
    rw [← hV]
    clear hV fV hrow h6H h7H fcH f1 kr
    have khV : ∀ W, Fr (fun _ => False) V W → Calls Tryz.prog 93 #[.pointer (some ⟨q, 0, none⟩), .agg #[ci op, ci N, ci t, .int .u64 b], ci nu] W fun e w' => e = .returned (.bool hs) ∧ Fr (fun _ => False) W w' := fun W hW => kh W ((show Fr (fun _ => False) w V from fwV).same hW)
    clear kh
    have hw2 : IntKind.i64.wrap (m : Int) = (m : Int) := by rw [IntKind.wrap_i64]; omega
    have hm2 : decide ((m : Int) < 0) = false := by simp
    go_cut [70] (fun c wx => c = .bool (!hs || (!en && decide (k + 1 = n))) ∧ Fr (fun _ => False) V wx)
    case first =>
      refine wp_region_grow (by kernel_rfl) (by kernel_rfl) ?_
      have hw1 : IntKind.i64.wrap ((k : Int) + 1) = (k : Int) + 1 := by rw [IntKind.wrap_i64]; omega
      by_cases hl : k + 1 = n
      · have hkn2 : ((k : Int) + 1 == (n : Int)) = true := by simp; omega
        have hlH : Hidden (k + 1 = n) := hl
        clear hl
        cases hs <;> cases en
        all_goals
          (repeat (first | (refine grow_op (v := ?_) ?_ ?_ ?_; rotate_left; (focus (first | exact wanted_none rfl | (go_simp; done))); (focus (intro w' hw'; have r0 := hw'.cellN r0; have r1 := hw'.cellN r1; have r2 := hw'.cellN r2; have r3 := hw'.cellN r3; have t2 := hw'.cellN t2; have s4 := hw'.cellN s4; have s7 := hw'.cellN s7; have s8 := hw'.cellN s8; have e3 := hw'.cellN e3; (go_simp; first | with_reducible rfl | (go_at_call 93; refine calls_grow hw' ?_; first | (have q := khV w' hw'; with_reducible exact q))))); (intro a' ha; simp only [Act.put, List.setIfInBounds_toArray, List.set_cons_zero, List.set_cons_succ] at ha; subst ha)) | (refine grow_no ?_ ?_; (focus (first | (go_simp; done) | rfl)); (intro a' ha; simp only [Act.put, List.setIfInBounds_toArray, List.set_cons_zero, List.set_cons_succ] at ha; subst ha)))); refine grow_nil ?_; intro w2 k2
          go_wp2_with fail
          go_meet
          exact ⟨congrArg Value.bool (by rw [decide_eq_true (show k + 1 = n from hlH)]; rfl), k2⟩
      · have hkn2 : ((k : Int) + 1 == (n : Int)) = false := by rw [beq_eq_false_iff_ne]; omega
        have hlH : Hidden (¬ k + 1 = n) := hl
        clear hl
        cases hs <;> cases en
        all_goals
          (repeat (first | (refine grow_op (v := ?_) ?_ ?_ ?_; rotate_left; (focus (first | exact wanted_none rfl | (go_simp; done))); (focus (intro w' hw'; have r0 := hw'.cellN r0; have r1 := hw'.cellN r1; have r2 := hw'.cellN r2; have r3 := hw'.cellN r3; have t2 := hw'.cellN t2; have s4 := hw'.cellN s4; have s7 := hw'.cellN s7; have s8 := hw'.cellN s8; have e3 := hw'.cellN e3; (go_simp; first | with_reducible rfl | (go_at_call 93; refine calls_grow hw' ?_; first | (have q := khV w' hw'; with_reducible exact q))))); (intro a' ha; simp only [Act.put, List.setIfInBounds_toArray, List.set_cons_zero, List.set_cons_succ] at ha; subst ha)) | (refine grow_no ?_ ?_; (focus (first | (go_simp; done) | rfl)); (intro a' ha; simp only [Act.put, List.setIfInBounds_toArray, List.set_cons_zero, List.set_cons_succ] at ha; subst ha)))); refine grow_nil ?_; intro w2 k2
          go_wp2_with fail
          go_meet
          exact ⟨congrArg Value.bool (by rw [decide_eq_false (show ¬ k + 1 = n from hlH)]; rfl), k2⟩
    case rest =>
      obtain ⟨rfl, fc⟩ := hcut
      by_cases hbad : hs = false ∨ (en = false ∧ k + 1 = n)
      · have eb : (!hs || (!en && decide (k + 1 = n))) = true := by
          rcases hbad with e | ⟨e1, e2⟩
          · rw [e]; rfl
          · rw [e1, decide_eq_true e2]; simp
        have er : wyR k n hs fit en nu N T s = (51, []) := by
          unfold wyR
          rw [if_pos]
          rcases hbad with e | e
          · exact Or.inl e
          · exact Or.inr (Or.inl e)
        rw [eb]
        have erH : Hidden (wyR k n hs fit en nu N T s = (51, [])) := er
        clear er eb hbad
        go_wp2_with fail
        go_ret2
        exact ⟨_, (by rw [show wyR k n hs fit en nu N T s = _ from erH]; rfl), (show Fr (fun _ => False) w V from fwV).same fc, by rw [show wyR k n hs fit en nu N T s = _ from erH]; exact Wy.nil _ _⟩
      · have hs1 : hs = true := by cases hs; exact absurd (Or.inl rfl) hbad; rfl
        subst hs1
        have eb : (!true || (!en && decide (k + 1 = n))) = false := by
          cases en
          · simp; intro e; exact hbad (Or.inr ⟨rfl, e⟩)
          · rfl
        have ew : Hidden (wyR k n true fit en nu N T s = if fit = false then (51, []) else if 512 < T.length then (3, []) else (0, (if en then [] else [((k : Int) + 1, ⟨T, s.tr⟩)]) ++ (if nu = 4 then [(N, ⟨T, s.tr⟩)] else []))) := by
          show _ = _
          unfold wyR
          by_cases hf : fit = false
          · rw [if_pos (Or.inr (Or.inr hf)), if_pos hf]
          · rw [if_neg, if_neg hf]
            rintro (e | e | e)
            · cases e
            · exact hbad (Or.inr e)
            · exact hf e
        rw [eb]
        have ksV : ∀ W, Fr (fun _ => False) V W → Calls Tryz.prog 94 #[.pointer (some ⟨q, 0, none⟩), .agg #[ci op, ci N, ci t, .int .u64 b], .agg #[ct nm, ci by', ci lo', ci hi', ci nu, ci ta, ci pu, ci 0, .bool en], ct x] W fun e w' => e = .returned (.tuple #[ct st', .bool fit]) ∧ Fr (fun _ => False) W w' := fun W hW => ks rfl W ((show Fr (fun _ => False) w V from fwV).same hW)
        have hbadH : Hidden (¬ (true = false ∨ (en = false ∧ k + 1 = n))) := hbad
        have gwr : ∃ R, R = wyR k n true fit en nu N T s := ⟨_, rfl⟩
        obtain ⟨R, hR⟩ := gwr
        rw [← hR] at ew
        have hRH : Hidden (R = wyR k n true fit en nu N T s) := hR
        clear ks khV eb hbad hR
        replace r0 := fc.cellN r0
        replace r1 := fc.cellN r1
        replace r2 := fc.cellN r2
        replace r3 := fc.cellN r3
        replace t0 := fc.cellN t0
        replace t1 := fc.cellN t1
        replace t2 := fc.cellN t2
        replace s0 := fc.cellN s0
        replace s1 := fc.cellN s1
        replace s2 := fc.cellN s2
        replace s3 := fc.cellN s3
        replace s4 := fc.cellN s4
        replace s5 := fc.cellN s5
        replace s6 := fc.cellN s6
        replace s7 := fc.cellN s7
        replace s8 := fc.cellN s8
        have fcH : Hidden (Fr (fun _ => False) V wc) := fc
        have ksC : ∀ W, Fr (fun _ => False) wc W → Calls Tryz.prog 94 #[.pointer (some ⟨q, 0, none⟩), .agg #[ci op, ci N, ci t, .int .u64 b], .agg #[ct nm, ci by', ci lo', ci hi', ci nu, ci ta, ci pu, ci 0, .bool en], ct x] W fun e w' => e = .returned (.tuple #[ct st', .bool fit]) ∧ Fr (fun _ => False) W w' := fun W hW => ksV W (fc.same hW)
        clear ksV fc e3
        go_upto_region 5 with fail
        refine wp_region_grow (by kernel_rfl) (by kernel_rfl) ?_
        (repeat (first | (refine grow_op (v := ?_) ?_ ?_ ?_; rotate_left; (focus (first | exact wanted_none rfl | (go_simp; done))); (focus (intro w' hw'; have r0 := hw'.cellN r0; have r1 := hw'.cellN r1; have r2 := hw'.cellN r2; have r3 := hw'.cellN r3; have t0 := hw'.cellN t0; have s0 := hw'.cellN s0; have s1 := hw'.cellN s1; have s2 := hw'.cellN s2; have s3 := hw'.cellN s3; have s4 := hw'.cellN s4; have s5 := hw'.cellN s5; have s6 := hw'.cellN s6; have s7 := hw'.cellN s7; have s8 := hw'.cellN s8; (go_simp; first | with_reducible rfl | (go_at_call 94; refine calls_grow hw' ?_; first | (have q := ksC w' hw'; with_reducible exact q))))); (intro a' ha; simp only [Act.put, List.setIfInBounds_toArray, List.set_cons_zero, List.set_cons_succ] at ha; subst ha)) | (refine grow_no ?_ ?_; (focus (first | (go_simp; done) | rfl)); (intro a' ha; simp only [Act.put, List.setIfInBounds_toArray, List.set_cons_zero, List.set_cons_succ] at ha; subst ha)))); refine grow_nil ?_; intro w3 k3
        have hstl := str_len st'
        have fw3 : Hidden (Fr (fun _ => False) w w3) := ((show Fr (fun _ => False) w V from fwV).same fcH).same k3
        cases fit
        · have er : R = (51, []) := by have := (show R = _ from ew); rw [if_pos rfl] at this; exact this
          have erH : Hidden (R = (51, [])) := er
          clear er
          go_wp2_with fail
          go_ret2
          rw [← (show R = _ from hRH), show R = (51, []) from erH]
          exact ⟨_, rfl, fw3, Wy.nil _ _⟩
        · have e2 := hT rfl
          clear hT
          have hTlen : st'.length = T.length := by rw [e2]; simp [encSt]
          replace t2 := k3.cellN t2
          replace t0 := k3.cellN t0
          replace t1 := k3.cellN t1
          replace s7 := k3.cellN s7
          replace s8 := k3.cellN s8
          replace s4 := k3.cellN s4
          replace r0 := k3.cellN r0
          replace r1 := k3.cellN r1
          have hm32 : decide (32 < (m : Int)) = false := by simp; omega
          have ewT : R = if 512 < T.length then (3, []) else (0, (if en then [] else [((k : Int) + 1, ⟨T, s.tr⟩)]) ++ (if nu = 4 then [(N, ⟨T, s.tr⟩)] else [])) := by have := (show R = _ from ew); rw [if_neg (by decide)] at this; exact this
          by_cases hbig : 512 < T.length
          · have hb5 : decide (512 < (st'.length : Int)) = true := by simp; omega
            have er : Hidden (R = (3, [])) := by rw [if_pos hbig] at ewT; exact ewT
            clear ewT e2
            go_wp2_with fail
            go_ret2
            rw [← (show R = _ from hRH), show R = (3, []) from er]
            exact ⟨_, rfl, fw3, Wy.nil _ _⟩
          · have hb5 : decide (512 < (st'.length : Int)) = false := by simp; omega
            have er : Hidden (R = (0, (if en then [] else [((k : Int) + 1, ⟨T, s.tr⟩)]) ++ (if nu = 4 then [(N, ⟨T, s.tr⟩)] else []))) := by rw [if_neg hbig] at ewT; exact ewT
            have kw := fun W => with_any x y st' (m : Int) W
            have e2H : Hidden (st' = encSt T) := e2
            clear ewT e2 hTlen hbig
            go_upto_region 11 with (first
              | (go_at_call 95; refine (kw _).mono ?_; rintro e w4 ⟨rfl, f4⟩))
            obtain ⟨V4, hV4⟩ : ∃ V, V = w4.alloc (.cells #[ct st', ct y, ci (m : Int)] 148 (0, 0)) := ⟨_, rfl⟩
            have f5 : Fr (fun _ => False) w3 V4 := by rw [hV4]; exact f4.same (Fr.alloc _ _ _)
            have h12 : V4.heap[w4.heap.size]? = some (.cells #[ct st', ct y, ci (m : Int)] 148 (0, 0)) := by rw [hV4]; exact alloc_new _ _
            obtain ⟨j0, j1, j2⟩ := box3 h12
            generalize w4.heap.size = g12 at *
            rw [← hV4]
            replace r0 := f5.cellN r0
            replace r1 := f5.cellN r1
            replace s4 := f5.cellN s4
            replace s8 := f5.cellN s8
            have fw5 : Hidden (Fr (fun _ => False) w V4) := (show Fr (fun _ => False) w w3 from fw3).same f5
            have x0 := World.new_ne V4 _ j0
            clear hV4 f5 h12 f4 kw fw3 t0 t1 t2 s7
            go_cut [13, 14] (fun p13 p14 wx => ∃ g13 g14, p13 = .pointer (some ⟨g13, 0, none⟩) ∧ p14 = .pointer (some ⟨g14, 0, none⟩) ∧ wx.heap[g13]? = some (.cells #[ct st', ct y, ci (m : Int)] 148 (0, 0)) ∧ wx.heap[g14]? = some (.cells #[ct st', ct y, ci (m : Int)] 148 (0, 0)) ∧ Fr (fun _ => False) V4 wx)
            case first =>
              go_region_held3 (fun w' => w'.cell? ⟨g12, 0, none⟩ = some (ct st') ∧ w'.cell? ⟨g12, 1, none⟩ = some (ct y) ∧ w'.cell? ⟨g12, 2, none⟩ = some (ci (m : Int))) (first | (refine ⟨by with_reducible assumption, by with_reducible assumption, by with_reducible assumption⟩) | go_keep) (fail)
              · go_wp2_with fail
                go_meet
                exact ⟨_, _, rfl, rfl, (Fr.drew (fun _ => False) _).heap (heap_alloc2_old _ _ _) (fun f => f), (Fr.drew (fun _ => False) _).heap (heap_alloc2_new _ _ _) (fun f => f), ((Fr.alloc _ _ _).same (Fr.alloc _ _ _)).same (Fr.drew _ _)⟩
              · go_wp2_with fail
                go_meet
                exact ⟨_, _, rfl, rfl, (Fr.drew (fun _ => False) _).heap (heap_alloc2_new _ _ _) (fun f => f), (Fr.drew (fun _ => False) _).heap (heap_alloc2_old _ _ _) (fun f => f), ((Fr.alloc _ _ _).same (Fr.alloc _ _ _)).same (Fr.drew _ _)⟩
            case rest =>
              obtain ⟨g13, g14, rfl, rfl, h13, h14, fd⟩ := hcut
              obtain ⟨m0, m1, m2⟩ := box3 h13
              obtain ⟨n0, n1, n2⟩ := box3 h14
              have h14H : Hidden (wc.heap[g14]? = some (.cells #[ct st', ct y, ci (m : Int)] 148 (0, 0))) := h14
              have fwd : Hidden (Fr (fun _ => False) w wc) := (show Fr (fun _ => False) w V4 from fw5).same fd
              have hszc : w.heap.size ≤ wc.heap.size := (show Fr (fun _ => False) w wc from fwd).size
              have hszH : Hidden (w.heap.size ≤ wc.heap.size) := hszc
              replace r0 := fd.cellN r0
              replace r1 := fd.cellN r1
              replace s4 := fd.cellN s4
              replace s8 := fd.cellN s8
              have hw1 : IntKind.i64.wrap ((k : Int) + 1) = (k : Int) + 1 := by rw [IntKind.wrap_i64]; omega
              have hcell : Hidden (∀ a : Int, wyC (a, ⟨T, s.tr⟩) = [ci a, ct st', ct y, ci (m : Int)]) := fun a => by
                show [ci a, ct (encSt T), ct (encTr s.tr), ci (s.tr.length : Int)] = _
                rw [← (show st' = _ from e2H), ← (show y = _ from hyH), ← (show m = _ from hmH)]
              clear fd h13 h14 j0 j1 j2 x0 hszc
              cases en
              · by_cases hnu : nu = 4
                · subst hnu
                  have er2 : R = (0, [((k : Int) + 1, ⟨T, s.tr⟩), (N, ⟨T, s.tr⟩)]) := by have := (show R = _ from er); rw [if_pos rfl] at this; simpa using this
                  have erH : Hidden (R = (0, [((k : Int) + 1, ⟨T, s.tr⟩), (N, ⟨T, s.tr⟩)])) := er2
                  clear er2 er
                  go_wp2_with (first
                    | (at_builtin
                       have q := a5
                       refine wpl_way rfl _ _ rfl w.heap.size v5 [((k : Int) + 1, ⟨T, s.tr⟩)] (N, ⟨T, s.tr⟩) w5.heap.size rfl ?f0 rfl ?f1 ?f2 ?f3 ?_
                       case f0 => exact Wy.keepN hr5 (Fr.alloc _ _ _)
                       case f1 => intro j u hu; rw [(show ∀ a : Int, _ from hcell)] at hu; exact (cell_of_row _ _ j _ _ _ (alloc_new _ _)).trans (by simpa using hu)
                       case f2 => simp
                       case f3 => have : w.heap.size ≤ wc.heap.size := hszH; have := f55.size; simp; omega
                       intro v6 w6 hr6 a6)
                    | (at_builtin
                       refine wpl_way rfl _ _ rfl w.heap.size (.slice none 0 0) [] ((k : Int) + 1, ⟨T, s.tr⟩) wc.heap.size rfl ?e0 rfl ?e1 ?e2 ?e3 ?_
                       case e0 => exact Wy.nil _ _
                       case e1 => intro j u hu; rw [(show ∀ a : Int, _ from hcell)] at hu; exact (cell_of_row _ _ j _ _ _ (alloc_new _ _)).trans (by simpa using hu)
                       case e2 => decide
                       case e3 => have : w.heap.size ≤ wc.heap.size := hszH; simp; omega
                       intro v5 w5 hr5 a5
                       have f55 : Fr (fun _ => False) wc w5 := (Fr.alloc _ _ _).same a5.none
                       have z4 := f55.cellN s4
                       have z1 := f55.cellN r1
                       have z5 := f55.cellN n0
                       have z6 := f55.cellN n1
                       have z7 := f55.cellN n2))
                  go_ret2
                  rw [← (show R = _ from hRH), show R = _ from erH]
                  exact ⟨_, rfl, (show Fr (fun _ => False) w wc from fwd).same (((Ap.after (Fr.alloc _ _ _) a5).trans (Ap.after (Fr.alloc _ _ _) a6)).none), hr6⟩
                · have hnub : (nu == 4) = false := by simp [hnu]
                  have er2 : R = (0, [((k : Int) + 1, ⟨T, s.tr⟩)]) := by have := (show R = _ from er); rw [if_neg hnu] at this; simpa using this
                  have erH : Hidden (R = (0, [((k : Int) + 1, ⟨T, s.tr⟩)])) := er2
                  clear er2 hnu er
                  go_wp2_with (first
                    | (at_builtin
                       refine wpl_way rfl _ _ rfl w.heap.size (.slice none 0 0) [] ((k : Int) + 1, ⟨T, s.tr⟩) wc.heap.size rfl ?e0 rfl ?e1 ?e2 ?e3 ?_
                       case e0 => exact Wy.nil _ _
                       case e1 => intro j u hu; rw [(show ∀ a : Int, _ from hcell)] at hu; exact (cell_of_row _ _ j _ _ _ (alloc_new _ _)).trans (by simpa using hu)
                       case e2 => decide
                       case e3 => have : w.heap.size ≤ wc.heap.size := hszH; simp; omega
                       intro v5 w5 hr5 a5
                       have f55 : Fr (fun _ => False) wc w5 := (Fr.alloc _ _ _).same a5.none
                       have z4 := f55.cellN s4
                       have z1 := f55.cellN r1
                       have z5 := f55.cellN n0
                       have z6 := f55.cellN n1
                       have z7 := f55.cellN n2))
                  go_ret2
                  rw [← (show R = _ from hRH), show R = _ from erH]
                  exact ⟨_, rfl, (show Fr (fun _ => False) w wc from fwd).same f55, hr5⟩
              · by_cases hnu : nu = 4
                · subst hnu
                  have er2 : R = (0, [(N, ⟨T, s.tr⟩)]) := by have := (show R = _ from er); rw [if_pos rfl] at this; simpa using this
                  have erH : Hidden (R = (0, [(N, ⟨T, s.tr⟩)])) := er2
                  clear er2 er
                  go_wp2_with (first
                    | (at_builtin
                       refine wpl_way rfl _ _ rfl w.heap.size (.slice none 0 0) [] (N, ⟨T, s.tr⟩) wc.heap.size rfl ?e0 rfl ?e1 ?e2 ?e3 ?_
                       case e0 => exact Wy.nil _ _
                       case e1 => intro j u hu; rw [(show ∀ a : Int, _ from hcell)] at hu; exact (cell_of_row _ _ j _ _ _ (alloc_new _ _)).trans (by simpa using hu)
                       case e2 => decide
                       case e3 => have : w.heap.size ≤ wc.heap.size := hszH; simp; omega
                       intro v5 w5 hr5 a5
                       have f55 : Fr (fun _ => False) wc w5 := (Fr.alloc _ _ _).same a5.none
                       have z4 := f55.cellN s4
                       have z1 := f55.cellN r1
                       have z5 := f55.cellN n0
                       have z6 := f55.cellN n1
                       have z7 := f55.cellN n2))
                  go_ret2
                  rw [← (show R = _ from hRH), show R = _ from erH]
                  exact ⟨_, rfl, (show Fr (fun _ => False) w wc from fwd).same f55, hr5⟩
                · have hnub : (nu == 4) = false := by simp [hnu]
                  have er2 : R = (0, []) := by have := (show R = _ from er); rw [if_neg hnu] at this; simpa using this
                  have erH : Hidden (R = (0, [])) := er2
                  clear er2 hnu er
                  go_wp2_with fail
                  go_ret2
                  rw [← (show R = _ from hRH), show R = _ from erH]
                  exact ⟨_, rfl, fwd, Wy.nil _ _⟩
end Go.Proofs.YtoiglopilpoafaaGreatDoor.Cd

namespace Go.Proofs.YtoiglopilpoafaaGreatDoor.Cd
open Go.RowKit Ty
set_option linter.unusedSimpArgs false
set_option linter.unusedVariables false

theorem wyR_way (f : Fu) (p : Fm) (k n : Nat) (s : Sp) (hs fit en : Bool) (nu N : Int) (T : List Int) (hn : f.cd.length = n) (hk : k < n) (hi : (f.cd.getD k default).n = N) (h0 : 0 ≤ N) (hov : s.tr.length ≤ 32)
    (hst : stepS f p (f.cd.getD k default) s = if hs = true ∧ fit = true then some ((if en then none else some ⟨T, s.tr⟩), (if nu = 4 then some ⟨T, s.tr⟩ else none)) else none)
    (hnu : nu = 4 → hs = decide (N < n)) (hsm : en = true → nu ≠ 4 → T.length ≤ 512) :
    wyR k n hs fit en nu N T s = ((wayS f p k s).1, (wayS f p k s).2.map fun x => ((x.1 : Int), x.2)) := by
  have ho : over ⟨T, s.tr⟩ = decide (512 < T.length) := by
    unfold over
    rw [decide_eq_false (show ¬ 32 < (⟨T, s.tr⟩ : Sp).tr.length by simp only; omega)]
    simp
  by_cases h1 : hs = true ∧ fit = true
  · obtain ⟨rfl, rfl⟩ := h1
    rw [if_pos ⟨rfl, rfl⟩] at hst
    unfold wayS
    rw [hst, hi, hn]
    simp only []
    unfold wyR
    have hN : nu = 4 → N < n := fun e => by have := hnu e; simpa using this.symm
    cases en with
    | false =>
      by_cases hl : k + 1 = n
      · rw [if_pos (Or.inr (Or.inl ⟨rfl, hl⟩))]
        have : decide (n ≤ k + 1) = true := by simp; omega
        simp [this]
      · have hl2 : decide (n ≤ k + 1) = false := by simp; omega
        rw [if_neg (by simp [hl])]
        by_cases h4 : nu = 4
        · have hN' : decide ((n : Int) ≤ N) = false := by have := hN h4; simp; omega
          simp only [if_pos h4, hl2, hN', Bool.and_false, Bool.or_false, anyO, ho, Bool.false_eq_true, if_false, Option.isSome_some]
          by_cases hb : 512 < T.length
          · simp [hb]
          · simp [hb]
            omega
        · simp only [if_neg h4, hl2, Bool.and_false, Bool.or_false, anyO, ho, Bool.false_eq_true, if_false, Option.isSome_some, Option.isSome_none, Bool.false_and]
          by_cases hb : 512 < T.length
          · simp [hb]
          · simp [hb]
    | true =>
      rw [if_neg (by simp)]
      by_cases h4 : nu = 4
      · have hN' : decide ((n : Int) ≤ N) = false := by have := hN h4; simp; omega
        simp only [if_pos h4, hN', Bool.and_false, Bool.or_false, anyO, ho, if_true, Option.isSome_none, Bool.false_and, Bool.false_or, Bool.false_eq_true, if_false]
        by_cases hb : 512 < T.length
        · simp [hb]
        · simp [hb]
          omega
      · have := hsm rfl h4
        simp only [if_neg h4, anyO, if_true, Option.isSome_none, Bool.false_and, Bool.or_false, Bool.false_eq_true, if_false]
        simp
        omega
  · rw [if_neg h1] at hst
    unfold wayS
    rw [hst]
    simp only [List.map_nil]
    unfold wyR
    rw [if_pos]
    by_cases e : hs = false
    · exact Or.inl e
    · have e' : hs = true := by simpa using e
      refine Or.inr (Or.inr ?_)
      cases fit
      · rfl
      · exact absurd ⟨e', rfl⟩ h1
end Go.Proofs.YtoiglopilpoafaaGreatDoor.Cd
