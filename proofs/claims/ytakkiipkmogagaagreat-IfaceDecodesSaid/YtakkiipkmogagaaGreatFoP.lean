/- Far and Like. -/
import Derived.Test.YtakkiipkmogagaaGreatFoK
import Derived.Test.YtakkiipkmogagaaGreatFoIn
import Derived.Test.YtakkiipkmogagaaGreatFoH
import Derived.Test.YtakkiipkmogagaaGreatTyAll
namespace Go.Proofs.YtakkiipkmogagaaGreat.Fo
open Go.RowKit Te
set_option linter.unusedSimpArgs false
set_option linter.unusedVariables false

/-- What an interface shows. -/
def farI (n : Bs) (l : List Ty.It) : List Con := (l.filter (fun i => i.kind == 1)).map fun i => ⟨n, i.name, i.typ, i.bits⟩
def farS (l : List Ty.Fc) : List Con := l.flatMap fun f => farI f.name f.items
def allI (l : List Ty.Fc) : Nat := (l.map fun f => f.items.length).sum
theorem farI_len (n : Bs) (l : List Ty.It) : (farI n l).length ≤ l.length := by
  unfold farI
  rw [List.length_map]
  exact List.length_filter_le _ _
theorem farS_len (l : List Ty.Fc) : (farS l).length ≤ allI l := by
  induction l with
  | nil => simp [farS, allI]
  | cons f r ih =>
    have := farI_len f.name f.items
    simp only [farS, allI, List.flatMap_cons, List.length_append, List.map_cons, List.sum_cons] at *
    omega
theorem farI_snoc {n : Bs} {l : List Ty.It} {j : Nat} {p : Ty.It} (h : l[j]? = some p) : farI n (l.take (j + 1)) = farI n (l.take j) ++ (if p.kind = 1 then [⟨n, p.name, p.typ, p.bits⟩] else []) := by
  rw [take_snoc h]
  unfold farI
  rw [List.filter_append, List.map_append]
  congr 1
  by_cases hp : p.kind = 1
  · rw [if_pos hp]; simp [hp]
  · rw [if_neg hp]; simp [hp]
theorem farS_snoc {l : List Ty.Fc} {i : Nat} {f : Ty.Fc} (h : l[i]? = some f) : farS (l.take (i + 1)) = farS (l.take i) ++ farI f.name f.items := by
  rw [take_snoc h]
  unfold farS
  rw [List.flatMap_append]
  simp
theorem allI_take (l : List Ty.Fc) (i : Nat) {f : Ty.Fc} (h : l[i]? = some f) : allI (l.take i) + f.items.length ≤ allI l := by
  induction l generalizing i with
  | nil => simp at h
  | cons g r ih =>
    cases i with
    | zero =>
      obtain rfl : g = f := by simpa using h
      simp [allI]
    | succ i =>
      have := ih i (by simpa using h)
      simp only [List.take_succ_cons, allI, List.map_cons, List.sum_cons] at *
      omega
/-- A row that one element makes. -/
theorem row_one {w : World} {g : Nat} {c : Con} {t : TypeId} (h : w.heap[g]? = some (.cells #[ct c.mod, ct c.name, ci c.t, .int .u64 c.b] t (0, 0))) : Rw.Row RC t 4 w g (.slice (some ⟨g, 0, none⟩) 1 1) [c] :=
  ⟨coC c, ⟨rfl, Or.inr ⟨g, 1, _, rfl, Nat.le_refl _, h, Nat.le_refl _, by decide, rfl, rfl⟩⟩, chunk1 c⟩
theorem row_none (w : World) (B : Nat) (t : TypeId) : Rw.Row RC t 4 w B (.slice none 0 0) [] := ⟨[], ⟨by simp, Or.inl ⟨rfl, rfl⟩⟩, rfl⟩
theorem row_keepN {w w' : World} {B : Nat} {v : Value} {l : List Con} {t : TypeId} (h : Rw.Row RC t 4 w B v l) (hf : Fr FN w w') : Rw.Row RC t 4 w' B v l := h.keep hf (fun _ _ f => f)
theorem wpl_row1 {w : World} {ops : Array Oper} {rest : List Oper} {o : Oper} {a : Act} {Q : Exit → Act → World → Prop} (hgd : o.guard = none) (s x : Operand)
    (ho : o.op = .call { callee := .builtin .append, args := #[s, x], argTypes := #[93, 93] }) (B : Nat) (v : Value) (l : List Con) (c : Con) (g : Nat)
    (hs : a.eval s = v) (hr : CoW w B v l) (hx : a.eval x = .slice (some ⟨g, 0, none⟩) 1 1) (hy : w.heap[g]? = some (coO c))
    (hm : l.length + 1 ≤ maxLen) (hb : (l.length + 1) * 48 ≤ 140737488355328) (hB : B ≤ w.heap.size)
    (h : ∀ v' w', CoW w' B v' (l ++ [c]) → Fr (fun b => v.ownBlock = some b) w w' → (v'.ownBlock = v.ownBlock ∨ v'.ownBlock = some w.heap.size) → wpList Tryz.prog ops Q rest (a.put o.dst v') w') : wpList Tryz.prog ops Q (o :: rest) a w := by
  obtain ⟨cells, hr1, hr2⟩ := hr
  refine wpl_append hgd s x 93 137 _ 4 48 Tryz.underlying93 info_con rfl (by decide) ho B v l.length cells ⟨g, 0, none⟩ 1 1 (coC c) hs hr1 hx rfl (co_row hy) (coC_one c) hm hb hB ?_
  intro v' w' h1 h2 h3
  exact h v' w' ⟨cells ++ coC c, by rw [List.length_append]; exact h1, hr2.app (chunk1 c)⟩ h2 h3
theorem FcL_at {w : World} {ao : Option Addr} {l : List Ty.Fc} (h : l = [] ∨ ∃ b off, ao = some ⟨b, off, none⟩ ∧ ∀ (i : Nat) (x : Ty.Fc), l[i]? = some x → LayF w b (off + i * 2) x) {i : Nat} {f : Ty.Fc} (hf : l[i]? = some f) :
    ∃ b off ai ci_, ao = some ⟨b, off, none⟩ ∧ Ty.ItL w ai ci_ f.items ∧ w.cell? ⟨b, off + i * 2, none⟩ = some (ct f.name) ∧ w.cell? ⟨b, off + i * 2 + 1, none⟩ = some (.slice ai f.items.length ci_) := by
  rcases h with rfl | ⟨b, off, rfl, hc⟩
  · simp at hf
  · obtain ⟨ai, ci_, h1, h2, h3⟩ := hc i f hf
    exact ⟨b, off, ai, ci_, rfl, h1, h2, h3⟩
theorem ItL_at {w : World} {ao : Option Addr} {cap : Nat} {l : List Ty.It} (h : Ty.ItL w ao cap l) {j : Nat} {i : Ty.It} (hj : l[j]? = some i) : ∃ b off ap cp, ao = some ⟨b, off, none⟩ ∧ 
    w.cell? ⟨b, off + j * 5, none⟩ = some (ci i.kind) ∧ w.cell? ⟨b, off + j * 5 + 1, none⟩ = some (ct i.name) ∧ w.cell? ⟨b, off + j * 5 + 2, none⟩ = some (ci i.typ) ∧ w.cell? ⟨b, off + j * 5 + 3, none⟩ = some (.int .u64 i.bits) ∧ w.cell? ⟨b, off + j * 5 + 4, none⟩ = some (.slice ap i.params.length cp) := by
  rcases h.2.2.2 with rfl | ⟨b, off, rfl, hc⟩
  · simp at hj
  · obtain ⟨ap, cp, h1, h2⟩ := hc j i hj
    exact ⟨b, off, ap, cp, rfl, h2 0 _ rfl, h2 1 _ rfl, h2 2 _ rfl, h2 3 _ rfl, h2 4 _ rfl⟩
abbrev ifO (n : Bs) (v : Value) : Obj := .cells #[ct n, v] 25 (0, 0)
abbrev itO (p : Ty.It) (v : Value) : Obj := .cells #[ci p.kind, ct p.name, ci p.typ, .int .u64 p.bits, v] 47 (0, 0)
set_option maxRecDepth 20000 in
set_option maxHeartbeats 8000000 in
theorem far_any (l : List Ty.Fc) (ao : Option Addr) (cap : Nat) (w : World) (h1 : l.length ≤ cap) (h2 : cap ≤ maxLen) (h3 : l = [] ∨ ∃ b off, ao = some ⟨b, off, none⟩ ∧ ∀ (i : Nat) (x : Ty.Fc), l[i]? = some x → LayF w b (off + i * 2) x) (hb : allI l * 48 ≤ 140737488355328) :
    Calls Tryz.prog 50 #[.slice ao l.length cap] w fun e w' => ∃ v, e = .returned v ∧ CoW w' w.heap.size v (farS l) ∧ Fr FN w w' := by
  have m2 : cap ≤ 9223372036854775807 := by unfold maxLen at h2; omega
  have h3H : Hidden (l = [] ∨ ∃ b off, ao = some ⟨b, off, none⟩ ∧ ∀ (i : Nat) (x : Ty.Fc), l[i]? = some x → LayF w b (off + i * 2) x) := h3
  have hbH : Hidden (allI l * 48 ≤ 140737488355328) := hb
  clear h3 hb h2
  go_enter Tryz.func50, Tryz.ntmps50
  go_wp2_with fail
  go_loopg [3, 10] l.length (fun g lv iv wr => ∃ (i : Nat), iv = ci (i : Int) ∧ i ≤ l.length ∧ CoW wr w.heap.size lv (farS (l.take i)) ∧ g = l.length - i ∧ Fr FN w wr)
  case atStart => exact ⟨0, rfl, by omega, CoW.none _ _, rfl, Fr.refl _ _⟩
  case round =>
    obtain ⟨i, rfl, hi, hrow, hgk, hfr⟩ := hrel
    have hgkH : Hidden (gk = l.length - i) := hgk
    obtain ⟨ao2, cap2, hv, _⟩ := hrow.slice
    subst hv
    have hrowH : Hidden (CoW wr w.heap.size (.slice ao2 (farS (l.take i)).length cap2) (farS (l.take i))) := hrow
    have hfrH : Hidden (Fr FN w wr) := hfr
    have hfz := hfr.size
    clear hgk hrow
    by_cases hil : i < l.length
    · obtain ⟨f, ht⟩ : ∃ f, l[i]? = some f := ⟨l[i], List.getElem?_eq_getElem hil⟩
      obtain ⟨b, off, ai, ic, rfl, hit, d0, d1⟩ := FcL_at (show l = [] ∨ _ from h3H) ht
      replace d0 := hfr.cellN d0
      replace d1 := hfr.cellN d1
      have hitH : Hidden (Ty.ItL w ai ic f.items) := hit
      have n1 := hit.1
      have n2 : ic ≤ 9223372036854775807 := by have := hit.2.1; unfold maxLen at this; omega
      have hts : Hidden (farS (l.take (i + 1)) = farS (l.take i) ++ farI f.name f.items) := farS_snoc ht
      have hcnt : Hidden ((farS (l.take i)).length + f.items.length ≤ allI l) := by have := farS_len (l.take i); have := allI_take l i ht; show _ ≤ _; omega
      have fb := Fr.alloc FN wr (ifO f.name (.slice ai f.items.length ic))
      obtain ⟨V, hV⟩ : ∃ V, V = wr := ⟨wr, rfl⟩
      rw [← hV] at fb hrowH hfrH d0 d1 hfz
      obtain ⟨Vb, hVb⟩ : ∃ W, W = V.alloc (ifO f.name (.slice ai f.items.length ic)) := ⟨_, rfl⟩
      have hb5 : Hidden (Vb.heap[V.heap.size]? = some (ifO f.name (.slice ai f.items.length ic))) := by rw [hVb]; exact alloc_new _ _
      rw [← hVb] at fb
      have hVbH : Hidden (Vb = V.alloc (ifO f.name (.slice ai f.items.length ic))) := hVb
      have hVsz : Hidden (Vb.heap.size = V.heap.size + 1) := by rw [hVb]; simp [Hidden]
      have fbH : Hidden (Fr FN w Vb) := (show Fr FN w V from hfrH).same fb
      have hrowb : Hidden (CoW Vb w.heap.size (.slice ao2 (farS (l.take i)).length cap2) (farS (l.take i))) := (show CoW V w.heap.size _ _ from hrowH).keepN fb
      have hne5 : Hidden (∀ k, (Value.slice ao2 (farS (l.take i)).length cap2).ownBlock = some k → k ≠ V.heap.size) := fun k hk e => by have := ((show CoW V w.heap.size _ _ from hrowH).low k hk).2; omega
      subst hV
      clear ht hfr hit hVb fb
      go_wp2_with fail
      rw [← (show Vb = _ from hVbH)]
      go_loopg [3, 17] f.items.length (fun g lv iv wr => ∃ (j : Nat), iv = ci (j : Int) ∧ j ≤ f.items.length ∧ CoW wr w.heap.size lv (farS (l.take i) ++ farI f.name (f.items.take j)) ∧ g = f.items.length - j ∧ Fr FN w wr ∧ wr.heap[V.heap.size]? = some (ifO f.name (.slice ai f.items.length ic)) ∧ (∀ k, lv.ownBlock = some k → k ≠ V.heap.size) ∧ V.heap.size < wr.heap.size)
      case atStart =>
        refine ⟨0, rfl, by omega, ?_, rfl, fbH, hb5, hne5, by have : Vb.heap.size = V.heap.size + 1 := hVsz; omega⟩
        have := (show CoW Vb w.heap.size _ (farS (l.take i)) from hrowb)
        simpa [farI] using this
      case round =>
        obtain ⟨j, rfl, hj, hrow, hgk, hfr, hb6, hne6, hlt6⟩ := hrel
        have hgk2 : Hidden (gk = f.items.length - j) := hgk
        obtain ⟨ao3, cap3, hv, hc1, hc2, _⟩ := hrow.slice
        have hcl : (farS (l.take i) ++ farI f.name (f.items.take j)).length ≤ allI l := by
          have := farI_len f.name (f.items.take j)
          have : (f.items.take j).length ≤ f.items.length := by rw [List.length_take]; omega
          have : (farS (l.take i)).length + f.items.length ≤ allI l := hcnt
          rw [List.length_append]; omega
        have hclH : Hidden ((farS (l.take i) ++ farI f.name (f.items.take j)).length < allI l ∨ f.items.length ≤ j) := by
          by_cases hjj : f.items.length ≤ j
          · exact Or.inr hjj
          · left
            have := farI_len f.name (f.items.take j)
            have : (f.items.take j).length = j := by rw [List.length_take]; omega
            have : (farS (l.take i)).length + f.items.length ≤ allI l := hcnt
            rw [List.length_append]; omega
        generalize hL : (farS (l.take i) ++ farI f.name (f.items.take j)).length = n at hv hc1
        have hLH : Hidden ((farS (l.take i) ++ farI f.name (f.items.take j)).length = n) := hL
        subst hv
        have hrow2 : Hidden (CoW wr w.heap.size (.slice ao3 n cap3) (farS (l.take i) ++ farI f.name (f.items.take j))) := hrow
        have hfr2 : Hidden (Fr FN w wr) := hfr
        have hb6H : Hidden (wr.heap[V.heap.size]? = some (ifO f.name (.slice ai f.items.length ic))) := hb6
        have hne6H : Hidden (∀ k, (Value.slice ao3 n cap3).ownBlock = some k → k ≠ V.heap.size) := hne6
        have hlt6H : Hidden (V.heap.size < wr.heap.size) := hlt6
        have hfz2 := hfr.size
        clear hgk hrow hc2 hL hb6 hne6 hlt6 hcl
        by_cases hjl : j < f.items.length
        · obtain ⟨p, hp⟩ : ∃ p, f.items[j]? = some p := ⟨f.items[j], List.getElem?_eq_getElem hjl⟩
          obtain ⟨b2, off2, ap, cp, rfl, e0, e1, e2, e3, e4⟩ := ItL_at (show Ty.ItL w ai ic f.items from hitH) hp
          replace e0 := hfr.cellN e0
          replace e1 := hfr.cellN e1
          replace e2 := hfr.cellN e2
          replace e3 := hfr.cellN e3
          replace e4 := hfr.cellN e4
          have hsn : Hidden (farI f.name (f.items.take (j + 1)) = farI f.name (f.items.take j) ++ (if p.kind = 1 then [⟨f.name, p.name, p.typ, p.bits⟩] else [])) := farI_snoc hp
          have fc := Fr.alloc FN wr (itO p (.slice ap p.params.length cp))
          have hb7 : Hidden ((wr.alloc (itO p (.slice ap p.params.length cp))).heap[V.heap.size]? = some (ifO f.name (.slice (some ⟨b2, off2, none⟩) f.items.length ic))) := fc.heap hb6H (fun f => f)
          have x0 : (wr.alloc (itO p (.slice ap p.params.length cp))).cell? ⟨V.heap.size, 0, none⟩ = some (ct f.name) := cell_of_row _ _ 0 _ _ _ hb7
          have hlt7 : V.heap.size < wr.heap.size := hlt6H
          obtain ⟨pk, pn, pt, pb, pp⟩ := p
          dsimp only at e0 e1 e2 e3 e4 hsn fc hb7 x0
          by_cases hk1 : pk = 1
          · subst hk1
            have hsn2 : Hidden (farS (l.take i) ++ farI f.name (f.items.take (j + 1)) = (farS (l.take i) ++ farI f.name (f.items.take j)) ++ [⟨f.name, pn, pt, pb⟩]) := by rw [show farI f.name (f.items.take (j + 1)) = _ from hsn, if_pos rfl, List.append_assoc]; rfl
            have fd := fc.same (Fr.alloc FN _ (coO ⟨f.name, pn, pt, pb⟩))
            have hrow3 := (show CoW wr w.heap.size (.slice ao3 n cap3) _ from hrow2).keepN fd
            have hrow3H : Hidden (CoW ((wr.alloc (itO ⟨1, pn, pt, pb, pp⟩ (.slice ap pp.length cp))).alloc (coO ⟨f.name, pn, pt, pb⟩)) w.heap.size (.slice ao3 n cap3) (farS (l.take i) ++ farI f.name (f.items.take j))) := hrow3
            have hnew : Hidden (((wr.alloc (itO ⟨1, pn, pt, pb, pp⟩ (.slice ap pp.length cp))).alloc (coO ⟨f.name, pn, pt, pb⟩)).heap[wr.heap.size + 1]? = some (coO ⟨f.name, pn, pt, pb⟩)) := alloc_at _ _ _ (by simp)
            have hb8 : Hidden (((wr.alloc (itO ⟨1, pn, pt, pb, pp⟩ (.slice ap pp.length cp))).alloc (coO ⟨f.name, pn, pt, pb⟩)).heap[V.heap.size]? = some (ifO f.name (.slice (some ⟨b2, off2, none⟩) f.items.length ic))) := fd.heap hb6H (fun f => f)
            have fdH : Hidden (Fr FN w ((wr.alloc (itO ⟨1, pn, pt, pb, pp⟩ (.slice ap pp.length cp))).alloc (coO ⟨f.name, pn, pt, pb⟩))) := hfr.same fd
            obtain ⟨W9, hW9⟩ : ∃ W, W = (wr.alloc (itO ⟨1, pn, pt, pb, pp⟩ (.slice ap pp.length cp))).alloc (coO ⟨f.name, pn, pt, pb⟩) := ⟨_, rfl⟩
            have hsz9 : Hidden (W9.heap.size = wr.heap.size + 2) := by rw [hW9]; simp [Hidden]
            rw [← hW9] at hrow3H hnew hb8 fdH
            have hW9H : Hidden (W9 = _) := hW9
            clear hp hsn hrow3 fd hW9 hb7
            go_wp2_with (at_builtin; rw [← (show W9 = _ from hW9H)]; refine wpl_row1 rfl _ _ rfl w.heap.size (.slice ao3 n cap3) (farS (l.take i) ++ farI f.name (f.items.take j)) ⟨f.name, pn, pt, pb⟩ (wr.heap.size + 1) rfl hrow3H rfl hnew ?_ ?_ ?_ ?_; (focus (have h1 : _ < _ ∨ _ ≤ _ := hclH; have : allI l * 48 ≤ 140737488355328 := hbH; simp only [maxLen]; omega)); (focus (have h1 : _ < _ ∨ _ ≤ _ := hclH; have : allI l * 48 ≤ 140737488355328 := hbH; omega)); (focus (have : W9.heap.size = wr.heap.size + 2 := hsz9; omega)); intro v4 w4 hr4 f4 hown4)
            have hlow := fun k hk => ((show CoW wr w.heap.size (.slice ao3 n cap3) _ from hrow2).low k hk)
            have g4 : Fr FN w w4 := (show Fr FN w W9 from fdH).over f4 (fun k hk => (hlow k hk).1)
            have g5 : w4.heap[V.heap.size]? = some (ifO f.name (.slice (some ⟨b2, off2, none⟩) f.items.length ic)) := f4.heap hb8 (fun hk => (show ∀ k, _ → k ≠ V.heap.size from hne6H) _ hk rfl)
            have hown : ∀ k, v4.ownBlock = some k → k ≠ V.heap.size := fun k hk => by
              rcases hown4 with e | e
              · rw [e] at hk; exact (show ∀ k, _ → k ≠ V.heap.size from hne6H) k hk
              · rw [e] at hk
                have hk' : W9.heap.size = k := by simpa using hk
                have : W9.heap.size = wr.heap.size + 2 := hsz9
                omega
            have hr5 : CoW w4 w.heap.size v4 (farS (l.take i) ++ farI f.name (f.items.take (j + 1))) := by rw [show farS (l.take i) ++ farI f.name (f.items.take (j + 1)) = _ from hsn2]; exact hr4
            have hsz4 : V.heap.size < w4.heap.size := by have := f4.size; have : W9.heap.size = wr.heap.size + 2 := hsz9; omega
            go_roundg (f.items.length - (j + 1))
            case measure => have : gk = f.items.length - j := hgk2; omega
            case rel => exact ⟨j + 1, by go_num, by omega, hr5, rfl, g4, g5, hown, hsz4⟩
          · have hsn2 : Hidden (farI f.name (f.items.take (j + 1)) = farI f.name (f.items.take j)) := by rw [show farI f.name (f.items.take (j + 1)) = _ from hsn, if_neg hk1, List.append_nil]; rfl
            have k1 : (pk == 1) = false := by simp [hk1]
            have hrow3 : CoW (wr.alloc (itO ⟨pk, pn, pt, pb, pp⟩ (.slice ap pp.length cp))) w.heap.size (.slice ao3 n cap3) (farS (l.take i) ++ farI f.name (f.items.take (j + 1))) := by rw [show farI f.name (f.items.take (j + 1)) = _ from hsn2]; exact (show CoW wr w.heap.size (.slice ao3 n cap3) _ from hrow2).keepN fc
            have hrow3H : Hidden (CoW (wr.alloc (itO ⟨pk, pn, pt, pb, pp⟩ (.slice ap pp.length cp))) w.heap.size (.slice ao3 n cap3) (farS (l.take i) ++ farI f.name (f.items.take (j + 1)))) := hrow3
            clear hp hsn hrow3 hk1
            go_wp2_with fail
            go_roundg (f.items.length - (j + 1))
            case measure => have : gk = f.items.length - j := hgk2; omega
            case rel => exact ⟨j + 1, by go_num, by omega, hrow3H, rfl, hfr.same fc, hb7, hne6H, Nat.lt_of_lt_of_le hlt7 fc.size⟩
        · obtain rfl : j = f.items.length := by omega
          have hrow3 : Hidden (CoW wr w.heap.size (.slice ao3 n cap3) (farS (l.take (i + 1)))) := by
            rw [show farS (l.take (i + 1)) = _ from hts]
            have := (show CoW wr w.heap.size (.slice ao3 n cap3) _ from hrow2)
            rw [List.take_length] at this
            exact this
          go_wp2_with fail
          go_roundg (l.length - (i + 1))
          case measure => have : _ = l.length - i := hgkH; omega
          case rel => exact ⟨i + 1, by go_num, by omega, hrow3, rfl, hfr2⟩
    · obtain rfl : i = l.length := by omega
      go_wp2_with fail
      go_ret
      refine ⟨_, rfl, ?_, hfrH⟩
      have e : farS (l.take l.length) = farS l := by rw [List.take_length]
      rw [← e]
      exact hrowH
end Go.Proofs.YtakkiipkmogagaaGreat.Fo
