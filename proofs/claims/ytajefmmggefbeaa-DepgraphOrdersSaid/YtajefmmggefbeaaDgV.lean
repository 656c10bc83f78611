/- Over. -/
import Derived.Test.YtajefmmggefbeaaDgD
import Derived.Test.YtajefmmggefbeaaDgU
import Derived.Deep.Quiet
namespace Go.Proofs.Ytajefmmggefbeaa.Dg
open Go.RowKit Go.Sort
set_option linter.unusedSimpArgs false
set_option linter.unusedVariables false

/-- The walk of a region as it is written, shut (so that nothing looks into it). -/
structure Grow (P : Program) (ops : Array Oper) (C : World → Prop) (Q : Act → Prop) (l : List Oper) (a : Act) : Prop where
  run : wpQuiet P ops C Q l a
theorem wp_region_grow {P : Program} {id : Nat} {Q : Exit → Act → World → Prop} {a : Act} {w : World} {l : List Oper} (hm : P.follows .mixedOrders = true) (hB : Region.lexB .any l.toArray = true)
    (h : Grow P l.toArray (fun w' => Fr (fun _ => False) w w') (fun a' => ∀ w', Fr (fun _ => False) w w' → Q .normal a' w') l a) : (Code.region id l.toArray true).wp P Q a w :=
  wp_region_quiet (C := fun w' => Fr (fun _ => False) w w') hm hB (Fr.drew _ w) (by simpa using h.run)
theorem grow_nil {P : Program} {ops : Array Oper} {C : World → Prop} {Q : Act → Prop} {a : Act} (h : Q a) : Grow P ops C Q [] a := ⟨h⟩
theorem grow_op {P : Program} {ops : Array Oper} {C : World → Prop} {Q : Act → Prop} {o : Oper} {rest : List Oper} {a : Act} {v : Value} (hw : Region.wanted o (yielded ops a.tmps) = true)
    (h1 : ∀ w', C w' → o.quietAt P a C w' v) (h2 : ∀ a', a' = a.put o.dst v → Grow P ops C Q rest a') : Grow P ops C Q (o :: rest) a := by
  refine ⟨?_⟩
  unfold wpQuiet
  rw [if_pos hw]
  exact ⟨v, h1, (h2 _ rfl).run⟩
theorem grow_no {P : Program} {ops : Array Oper} {C : World → Prop} {Q : Act → Prop} {o : Oper} {rest : List Oper} {a : Act} (hw : Region.wanted o (yielded ops a.tmps) = false)
    (h2 : ∀ a', a' = a.put o.dst undef → Grow P ops C Q rest a') : Grow P ops C Q (o :: rest) a := by
  refine ⟨?_⟩
  unfold wpQuiet
  rw [hw, if_neg (by decide)]
  exact (h2 _ rfl).run
theorem wanted_none {o : Oper} {y : Nat → Option Bool} (h : o.guard = none) : Region.wanted o y = true := by simp [Region.wanted, h]
theorem calls_grow {P : Program} {f : FuncId} {args : Array Value} {w w' : World} {v : Value} (hw : Fr (fun _ => False) w w') (h : Calls P f args w' fun e w'' => e = .returned v ∧ Fr (fun _ => False) w' w'') :
    Calls P f args w' fun e w'' => e = .returned v ∧ Fr (fun _ => False) w w'' := h.mono fun _ _ ⟨he, hf⟩ => ⟨he, hw.same hf⟩

theorem over1_any (B b n : Nat) (u : List Str) (y : Str) (w : World) (c : w.cell? ⟨B, 0, none⟩ = some (.map (some b))) (hs : SM w b n u) (hy : OkN y) :
    Calls Try.prog 43 #[ct y, .pointer (some ⟨B, 0, none⟩)] w fun e w' => e = .returned (.bool (!decide (y ∈ u))) ∧ Fr (fun _ => False) w w' := by
  obtain ⟨r, hr⟩ : ∃ r, decide (y ∈ u) = r := ⟨_, rfl⟩
  have k := has_any b n u y r hr w hs hy
  rw [hr]
  clear hs hr hy
  go_enter Try.func43, Try.ntmps43
  go_wp2_with (go_at_call 41; refine k.mono ?_; rintro e w1 ⟨rfl, f1⟩)
  go_ret
  exact ⟨rfl, f1⟩
/-- How many nodes have not been come to. -/
def cnt (g : Gr) (t : List Str) : Nat := (g.ks.filter fun k => decide (k ∉ t)).length
theorem cnt_put {g : Gr} {t : List Str} {x : Str} (hx : x ∈ g.ks) (hn : x ∉ t) : cnt g (x :: t) < cnt g t := filter_less (fun z hz => by simp [hz]) hx hn (by simp)
theorem cnt_le (g : Gr) (t : List Str) : cnt g t ≤ g.ks.length := List.length_filter_le _ _
/-- slices.ContainsFunc(l, touched.has). -/
theorem anyHas (b n : Nat) (u : List Str) (ao : Option Addr) (cap : Nat) (l : List Str) (w : World) (hs : SM w b n u) (hl : Tl w (.slice ao l.length cap) l) (hok : ∀ x ∈ l, OkN x) (r : Bool) (hr : (l.any fun i => decide (i ∈ u)) = r) :
    Calls Try.prog 40 #[.slice ao l.length cap, .func (.func 41) #[.map (some b)] #[]] w fun e w' => e = .returned (.bool r) ∧ Fr (fun _ => False) w w' := by
  obtain ⟨ao', cap', e, h1, h2, h3, h4⟩ := hl
  cases e
  refine cfuncSB 41 (.map (some b)) (enters_of Try.func41 (by kernel_rfl) rfl) ao _ cap l (fun i => decide (i ∈ u)) r w rfl h1 h2 h4 ?_ hr
  intro W hW x hx
  exact has_any b n u x _ rfl W (hs.later hW) (hok x hx)
set_option maxRecDepth 20000 in
set_option maxHeartbeats 8000000 in
theorem over_any (p : Value) (g : Gr) (aon : Option Addr) (capn : Nat) (names : List Str) (w : World) (h : Gp w p g) (hnm : Tl w (.slice aon names.length capn) names) (hok : ∀ x ∈ names, OkN x) (hlen : names.length * 16 ≤ 140737488355328) :
    Calls Try.prog 17 #[p, .slice aon names.length capn] w fun e w' => (∃ l, RetL l e w' ∧ IsOver g names l) ∧ Fr (fun _ => False) w w' := by
  obtain ⟨mb, hgt, kt⟩ := h.table
  have hgtH : Hidden (Gt w (.map mb) g) := hgt
  have hH : Hidden (Gp w p g) := h
  have hnmH : Hidden (Tl w (.slice aon names.length capn) names) := hnm
  have hokH : Hidden (∀ x ∈ names, OkN x) := hok
  have hlenH : Hidden (names.length * 16 ≤ 140737488355328) := hlen
  have hsm := h.small
  have n1 := Tl.cap_le hnm
  have n2 : capn ≤ 9223372036854775807 := by obtain ⟨_, _, e, _, q, _⟩ := hnm; cases e; exact q
  have hmm := @run_makeMap Try.prog
  obtain ⟨W2, hW2⟩ : ∃ W2, (w.alloc (.map #[] 0)).alloc (.cells #[.map (some w.heap.size)] 67) = W2 := ⟨_, rfl⟩
  have hW2f : Hidden (Fr (fun _ => False) w W2) := by rw [← hW2]; exact (Fr.alloc _ _ _).same (Fr.alloc _ _ _)
  have hs0 : Hidden (SM W2 w.heap.size 0 []) := by rw [← hW2]; exact (SM.new w).later (Fr.alloc _ _ _)
  have hcb : Hidden (W2.cell? ⟨w.heap.size + 1, 0, none⟩ = some (.map (some w.heap.size))) := by
    have := box_cell (w.alloc (.map #[] 0)) (.map (some w.heap.size)) 67
    have e : (w.alloc (.map #[] 0)).heap.size = w.heap.size + 1 := by simp
    rw [e, hW2] at this
    exact this
  have hW2H : Hidden ((w.alloc (.map #[] 0)).alloc (.cells #[.map (some w.heap.size)] 67) = W2) := hW2
  clear hgt h hnm hok hlen hW2
  go_enter Try.func17, Try.ntmps17
  go_wp2_with fail
  rw [(show (w.alloc (.map #[] 0)).alloc (.cells #[.map (some w.heap.size)] 67) = W2 from hW2H)]
  go_loopg [14] names.length (fun k iv wr => ∃ (j m : Nat), iv = .int .i64 (j : Int) ∧ j ≤ names.length ∧ k = names.length - j ∧ m ≤ j ∧ SM wr w.heap.size m (names.take j) ∧ Fr (fun k => k = w.heap.size) W2 wr)
  case atStart => exact ⟨0, 0, rfl, by omega, rfl, by omega, hs0, Fr.refl _ _⟩
  case round =>
    obtain ⟨j, m, rfl, hj, hk, hm, hs, hf⟩ := hrel
    have hkH : Hidden (gk = names.length - j) := hk
    have hmH : Hidden (m ≤ j) := hm
    have hsH : Hidden (SM wr w.heap.size m (names.take j)) := hs
    have hfH : Hidden (Fr (fun k => k = w.heap.size) W2 wr) := hf
    have cb := hf.cell hcb (fun e => by have : w.heap.size + 1 = w.heap.size := e; omega)
    have fw : Hidden (Fr (fun _ => False) w wr) := Fr.over hW2f hf (fun k hk => by omega)
    clear hk hm hs hf
    by_cases hjl : j < names.length
    · obtain ⟨x, hx⟩ : ∃ x, names[j]? = some x := ⟨names[j], List.getElem?_eq_getElem hjl⟩
      obtain ⟨bl, off, rfl, cx⟩ := Tl.at (Tl.later hnmH fw) hx
      have kp := put_any w.heap.size m (names.take j) x wr hsH ((show ∀ x ∈ names, OkN x from hokH) x (List.mem_of_getElem? hx)) (by have : m ≤ j := hmH; omega)
      have htk : Hidden (names.take (j + 1) = names.take j ++ [x]) := by show _ = _; rw [List.take_add_one, hx]; rfl
      clear hx
      go_wp2_with (go_at_call 37; refine kp.mono ?_; rintro e w5 ⟨r5, n5, rfl, s5, q5, f5⟩; have s5H : Hidden (SM w5 w.heap.size n5 (x :: names.take j)) := s5; have q5H : Hidden (n5 ≤ m + 1) := q5; have f5H : Hidden (Fr (fun k => k = w.heap.size) wr w5) := f5; clear s5 q5 f5)
      go_roundg (names.length - (j + 1))
      case measure => have := (show gk = names.length - j from hkH); omega
      case rel =>
        have h1 : m ≤ j := hmH
        have h2 : n5 ≤ m + 1 := q5H
        refine ⟨j + 1, n5, by go_num, by omega, rfl, by omega, ?_, Fr.same hfH f5H⟩
        rw [(show names.take (j + 1) = _ from htk)]
        exact SM.same s5H (fun y => by simp [or_comm])
    · obtain rfl : j = names.length := by omega
      have hs1 : Hidden (SM wr w.heap.size m names) := by
        have := (show SM wr w.heap.size m (names.take names.length) from hsH)
        rw [List.take_length] at this
        exact this
      have hkc : Hidden (cnt g names ≤ g.ks.length) := cnt_le g names
      clear cb
      go_wp2_with fail
      obtain ⟨Y, hY⟩ : ∃ Y, Y = wr := ⟨wr, rfl⟩
      subst hY
      go_loopg [8] (cnt g names + 1) (fun k gv wr => ∃ (t : List Str) (n' : Nat) (gr : Bool), gv = .bool gr ∧ SM wr w.heap.size n' t ∧ n' + cnt g t ≤ names.length + 32 ∧ OInv g names t ∧ (gr = false → ∀ x ∈ g.ks, ∀ i ∈ g.im x, i ∈ t → x ∈ t) ∧ k = (if gr = true then cnt g t + 1 else 0) ∧ Fr (fun k => k = w.heap.size) W2 wr)
      case atStart =>
        refine ⟨names, m, true, rfl, hs1, ?_, ⟨fun x hx => hx, fun x hx => Or.inl hx⟩, (fun h => by cases h), by simp, hfH⟩
        have h1 : m ≤ names.length := hmH
        have h2 : cnt g names ≤ g.ks.length := hkc
        omega
      case round =>
        obtain ⟨t, n', gr, rfl, hs, hn, hO, hcl, hk, hf⟩ := hrel
        have hsH2 : Hidden (SM wr w.heap.size n' t) := hs
        have hnH : Hidden (n' + cnt g t ≤ names.length + 32) := hn
        have hOH : Hidden (OInv g names t) := hO
        have hclH : Hidden (gr = false → ∀ x ∈ g.ks, ∀ i ∈ g.im x, i ∈ t → x ∈ t) := hcl
        have hkH2 : Hidden (gk = (if gr = true then cnt g t + 1 else 0)) := hk
        have hfH2 : Hidden (Fr (fun k => k = w.heap.size) W2 wr) := hf
        have fw2 : Hidden (Fr (fun _ => False) w wr) := Fr.over hW2f hf (fun k hk => by omega)
        have kn := names_any p g wr ((show Gp w p g from hH).later fw2)
        have cb0 : Hidden (wr.cell? ⟨w.heap.size + 1, 0, none⟩ = some (.map (some w.heap.size))) := hf.cell hcb (fun e => by have : w.heap.size + 1 = w.heap.size := e; omega)
        have hbw : Hidden (w.heap.size + 1 < wr.heap.size) := World.block_lt_of_cell? wr _ cb0
        clear hs hn hO hcl hk hf
        cases gr
        · have hcf : Hidden (∀ x ∈ g.ks, ∀ i ∈ g.im x, i ∈ t → x ∈ t) := (show false = false → _ from hclH) rfl
          have kdA : ∀ (w3 : World) (ao3 : Option Addr) (cap3 : Nat), To w3 wr.heap.size (.slice ao3 g.ks.length cap3) g.ks → Fr (fun _ => False) wr w3 → Calls Try.prog 42 #[.slice ao3 g.ks.length cap3, .func (.func 43) #[] #[.pointer (some ⟨w.heap.size + 1, 0, none⟩)]] w3 fun e w' => e = .returned (.slice ao3 (g.ks.filter fun x => !!decide (x ∈ t)).length cap3) ∧ Tn w' wr.heap.size (.slice ao3 (g.ks.filter fun x => !!decide (x ∈ t)).length cap3) (g.ks.filter fun x => !!decide (x ∈ t)) ∧ Fr (fun k => (Value.slice ao3 g.ks.length cap3).ownBlock = some k) w3 w' := by
            intro w3 ao3 cap3 t3 f3
            have h2 : w.heap.size + 1 < wr.heap.size := hbw
            refine delf_any 43 #[.pointer (some ⟨w.heap.size + 1, 0, none⟩)] (enters_of Try.func43 (by kernel_rfl) rfl) wr.heap.size ao3 cap3 g.ks (fun y => !decide (y ∈ t)) w3 t3.tn ?_
            intro W hW y hy
            exact over1_any (w.heap.size + 1) w.heap.size n' t y W (hW.cell (f3.cellN cb0) (fun e => by have h1 := (t3.own _ e).1; have h3 : wr.heap.size ≤ w.heap.size + 1 := h1; omega)) (SM.keep (SM.later hsH2 f3) hW (fun e => by have h1 := (t3.own _ e).1; omega)) ((show Gp w p g from hH).okN hy)
          go_wp2_with (first
            | (go_at_call 9; refine kn.mono ?_; rintro e w3 ⟨⟨ao3, cap3, rfl, t3⟩, f3⟩; have t3H : Hidden (To w3 wr.heap.size (.slice ao3 g.ks.length cap3) g.ks) := t3; have f3H : Hidden (Fr (fun _ => False) wr w3) := f3; have kd := kdA w3 ao3 cap3 t3 f3; clear t3 f3)
            | (go_at_call 42; refine kd.mono ?_; rintro e w6 ⟨rfl, t6, f6⟩; have t6H : Hidden (Tn w6 wr.heap.size (.slice ao3 (g.ks.filter fun x => !!decide (x ∈ t)).length cap3) (g.ks.filter fun x => !!decide (x ∈ t))) := t6; have f6H : Hidden (Fr (fun k => (Value.slice ao3 g.ks.length cap3).ownBlock = some k) w3 w6) := f6; clear t6 f6))
          go_ret
          have e1 : (g.ks.filter fun x => !!decide (x ∈ t)) = g.ks.filter fun k => decide (k ∈ t) := by congr 1; funext x; simp
          refine ⟨⟨g.ks.filter fun k => decide (k ∈ t), ?_, (show OInv g names t from hOH).end (show Gp w p g from hH).wf hcf⟩, ?_⟩
          · have := (show Tn w6 wr.heap.size _ (g.ks.filter fun x => !!decide (x ∈ t)) from t6H).tl
            rw [e1] at this
            exact ⟨ao3, cap3, rfl, this⟩
          · refine (Fr.same fw2 f3H).over f6H (fun k hk => ?_)
            have h1 := ((show To w3 wr.heap.size _ g.ks from t3H).own k hk).1
            have h2 := (show Fr (fun _ => False) w wr from fw2).size
            omega
        · go_wp2_with (go_at_call 9; refine kn.mono ?_; rintro e w3 ⟨⟨ao3, cap3, rfl, t3⟩, f3⟩; have t3H : Hidden (To w3 wr.heap.size (.slice ao3 g.ks.length cap3) g.ks) := t3; have f3H : Hidden (Fr (fun _ => False) wr w3) := f3; clear t3 f3)
          obtain ⟨gko, hgko⟩ : ∃ gko, gko = gk := ⟨gk, rfl⟩
          subst hgko
          obtain ⟨X, hX⟩ : ∃ X, X = wr := ⟨wr, rfl⟩
          subst hX
          have cb3 : Hidden (w3.cell? ⟨w.heap.size + 1, 0, none⟩ = some (.map (some w.heap.size))) := Fr.cellN f3H cb0
          have fw3 : Hidden (Fr (fun _ => False) w w3) := Fr.same fw2 f3H
          go_loopg [8, 26] g.ks.length (fun k gv iv wr => ∃ (j : Nat) (t' : List Str) (n'' : Nat) (gr' : Bool), gv = .bool gr' ∧ iv = .int .i64 (j : Int) ∧ j ≤ g.ks.length ∧ k = g.ks.length - j ∧ SM wr w.heap.size n'' t' ∧ n'' + cnt g t' ≤ names.length + 32 ∧ OInv g names t' ∧ (gr' = false → t' = t ∧ ∀ x ∈ g.ks.take j, ∀ i ∈ g.im x, i ∈ t → x ∈ t) ∧ (gr' = true → cnt g t' < cnt g t) ∧ Fr (fun k => k = w.heap.size) w3 wr)
          case atStart => exact ⟨0, t, n', false, rfl, rfl, by omega, rfl, SM.later hsH2 f3H, hnH, hOH, fun _ => ⟨rfl, by simp⟩, (fun h => by cases h), Fr.refl _ _⟩
          case round =>
            obtain ⟨j, t', n'', gr', rfl, rfl, hj, hk, hs, hn, hO, hg0, hg1, hf⟩ := hrel
            have hkH3 : Hidden (gk = g.ks.length - j) := hk
            have hsH3 : Hidden (SM wr w.heap.size n'' t') := hs
            have hnH3 : Hidden (n'' + cnt g t' ≤ names.length + 32) := hn
            have hOH3 : Hidden (OInv g names t') := hO
            have hg0H : Hidden (gr' = false → t' = t ∧ ∀ x ∈ g.ks.take j, ∀ i ∈ g.im x, i ∈ t → x ∈ t) := hg0
            have hg1H : Hidden (gr' = true → cnt g t' < cnt g t) := hg1
            have hfH3 : Hidden (Fr (fun k => k = w.heap.size) w3 wr) := hf
            have fwr : Hidden (Fr (fun _ => False) w wr) := Fr.over fw3 hf (fun k hk => by omega)
            have cb := hf.cell cb3 (fun e => by have : w.heap.size + 1 = w.heap.size := e; omega)
            clear hk hs hn hO hg0 hg1
            by_cases hjl : j < g.ks.length
            · obtain ⟨x, hx⟩ : ∃ x, g.ks[j]? = some x := ⟨g.ks[j], List.getElem?_eq_getElem hjl⟩
              have hxk : Hidden (x ∈ g.ks) := List.mem_of_getElem? hx
              have hxok : OkN x := (show Gp w p g from hH).okN (List.mem_of_getElem? hx)
              obtain ⟨b3, off3, rfl, c0⟩ := Tl.at (show To w3 X.heap.size (.slice ao3 g.ks.length cap3) g.ks from t3H).tn.tl hx
              have hb3 : X.heap.size ≤ b3 := ((show To w3 X.heap.size _ g.ks from t3H).own b3 rfl).1
              have cx := hf.cell c0 (fun e => by have h1 : b3 = w.heap.size := e; have h2 : w.heap.size + 1 < X.heap.size := hbw; omega)
              have hcap3 : g.ks.length ≤ cap3 := Tl.cap_le (show To w3 X.heap.size (.slice (some ⟨b3, off3, none⟩) g.ks.length cap3) g.ks from t3H).tn.tl
              obtain ⟨aoi, capi, htl, hlk⟩ := (show Gt w (.map mb) g from hgtH).looks x hxok
              have hlkH : Hidden (∀ W, Fr (fun _ => False) wr W → (Instr.lookup 52 (.map mb) (ct x) false).run Try.prog W = .ok (.slice aoi (g.im x).length capi) W) := fun W hW => hlk W (Fr.same fwr hW)
              obtain ⟨a, ha⟩ : ∃ a, ((g.im x).any fun i => decide (i ∈ t')) = a := ⟨_, rfl⟩
              have kc : ∀ W, Fr (fun _ => False) wr W → Calls Try.prog 40 #[.slice aoi (g.im x).length capi, .func (.func 41) #[.map (some w.heap.size)] #[]] W fun e w' => e = .returned (.bool a) ∧ Fr (fun _ => False) W w' := fun W hW => anyHas w.heap.size n'' t' aoi capi (g.im x) W (SM.later hsH3 hW) (Tl.later htl (Fr.same fwr hW)) (fun y hy => (show Gp w p g from hH).okI hy) a ha
              have kt2 : ∀ W, Fr (fun _ => False) wr W → Calls Try.prog 30 #[p] W fun e w'' => e = .returned (.map mb) ∧ Fr (fun _ => False) W w'' := fun W hW => (kt W (Fr.same fwr hW)).mono (fun e w'' ⟨h1, h2⟩ => ⟨h1, h2 ▸ Fr.refl _ _⟩)
              have haH : Hidden (((g.im x).any fun i => decide (i ∈ t')) = a) := ha
              have htk : Hidden (g.ks.take (j + 1) = g.ks.take j ++ [x]) := by show _ = _; rw [List.take_add_one, hx]; rfl
              clear hx c0 hb3 hf htl hlk ha
              go_wp2_with fail
              cases a
              · have hno : Hidden (∀ i ∈ g.im x, i ∉ t') := fun i hi hit => by
                  have h1 := List.any_eq_false.1 (show ((g.im x).any fun i => decide (i ∈ t')) = false from haH) i hi
                  simp [hit] at h1
                refine wp_region_grow (by kernel_rfl) (by kernel_rfl) ?_
                (repeat (first | (refine grow_op (v := ?_) ?_ ?_ ?_; rotate_left; (focus (first | exact wanted_none rfl | (go_simp; done))); (focus (intro w' hw'; have cb := hw'.cellN cb; have hl := (show ∀ W, Fr (fun _ => False) wr W → (Instr.lookup 52 (.map mb) (ct x) false).run Try.prog W = .ok (.slice aoi (g.im x).length capi) W from hlkH) w' hw'; (go_simp; first | with_reducible rfl | (go_at_call 30; refine calls_grow hw' ?_; first | (have q := kt2 w' hw'; with_reducible exact q)) | (go_at_call 40; refine calls_grow hw' ?_; first | (have q := kc w' hw'; with_reducible exact q))))); (intro a' ha; simp only [Act.put, List.setIfInBounds_toArray, List.set_cons_zero, List.set_cons_succ] at ha; subst ha)) | (refine grow_no ?_ ?_; (focus (go_simp; done)); (intro a' ha; simp only [Act.put, List.setIfInBounds_toArray, List.set_cons_zero, List.set_cons_succ] at ha; subst ha)))); refine grow_nil ?_; intro w5 k5
                go_wp2
                go_roundg (g.ks.length - (j + 1))
                case measure => have := (show gk = g.ks.length - j from hkH3); omega
                case rel =>
                  refine ⟨j + 1, t', n'', gr', rfl, by go_num, by omega, rfl, SM.later hsH3 k5, hnH3, hOH3, fun hg => ?_, hg1H, Fr.same hfH3 (k5.mono fun _ _ f => f.elim)⟩
                  obtain ⟨q1, q2⟩ := (show gr' = false → _ from hg0H) hg
                  refine ⟨q1, fun y hy i hi hit => ?_⟩
                  rw [(show g.ks.take (j + 1) = _ from htk)] at hy
                  rcases List.mem_append.1 hy with hy | hy
                  · exact q2 y hy i hi hit
                  · simp at hy; subst hy
                    exact absurd (q1 ▸ hit) ((show ∀ i ∈ g.im y, i ∉ t' from hno) i hi)
              · obtain ⟨i0, hi0, hit0⟩ : ∃ i ∈ g.im x, i ∈ t' := by
                  obtain ⟨i, h1, h2⟩ := List.any_eq_true.1 (show ((g.im x).any fun i => decide (i ∈ t')) = true from haH)
                  exact ⟨i, h1, by simpa using h2⟩
                have hi0H : Hidden (i0 ∈ g.im x) := hi0
                have hit0H : Hidden (i0 ∈ t') := hit0
                clear hi0 hit0
                by_cases hxt : x ∈ t'
                · have hxtH : Hidden (x ∈ t') := hxt
                  have kp : ∀ W, Fr (fun _ => False) wr W → Calls Try.prog 37 #[.map (some w.heap.size), ct x] W fun e w' => e = .returned (.bool false) ∧ Fr (fun _ => False) W w' := fun W hW => put_in w.heap.size n'' t' x hxt W (SM.later hsH3 hW) hxok
                  clear hxt
                  refine wp_region_grow (by kernel_rfl) (by kernel_rfl) ?_
                  (repeat (first | (refine grow_op (v := ?_) ?_ ?_ ?_; rotate_left; (focus (first | exact wanted_none rfl | (go_simp; done))); (focus (intro w' hw'; have cb := hw'.cellN cb; have hl := (show ∀ W, Fr (fun _ => False) wr W → (Instr.lookup 52 (.map mb) (ct x) false).run Try.prog W = .ok (.slice aoi (g.im x).length capi) W from hlkH) w' hw'; (go_simp; first | with_reducible rfl | (go_at_call 30; refine calls_grow hw' ?_; first | (have q := kt2 w' hw'; with_reducible exact q)) | (go_at_call 40; refine calls_grow hw' ?_; first | (have q := kc w' hw'; with_reducible exact q)) | (go_at_call 37; refine calls_grow hw' ?_; first | (have q := kp w' hw'; with_reducible exact q))))); (intro a' ha; simp only [Act.put, List.setIfInBounds_toArray, List.set_cons_zero, List.set_cons_succ] at ha; subst ha)) | (refine grow_no ?_ ?_; (focus (go_simp; done)); (intro a' ha; simp only [Act.put, List.setIfInBounds_toArray, List.set_cons_zero, List.set_cons_succ] at ha; subst ha)))); refine grow_nil ?_; intro w5 k5
                  go_wp2
                  go_roundg (g.ks.length - (j + 1))
                  case measure => have := (show gk = g.ks.length - j from hkH3); omega
                  case rel =>
                    refine ⟨j + 1, t', n'', gr', rfl, by go_num, by omega, rfl, SM.later hsH3 k5, hnH3, hOH3, fun hg => ?_, hg1H, Fr.same hfH3 (k5.mono fun _ _ f => f.elim)⟩
                    obtain ⟨q1, q2⟩ := (show gr' = false → _ from hg0H) hg
                    refine ⟨q1, fun y hy i hi hit => ?_⟩
                    rw [(show g.ks.take (j + 1) = _ from htk)] at hy
                    rcases List.mem_append.1 hy with hy | hy
                    · exact q2 y hy i hi hit
                    · simp at hy; subst hy
                      exact q1 ▸ hxtH
                · have hxtH : Hidden (x ∉ t') := hxt
                  have hn9 : n'' < 9223372036854775807 := by
                    have h1 : n'' + cnt g t' ≤ names.length + 32 := hnH3
                    have h2 : names.length * 16 ≤ 140737488355328 := hlenH
                    omega
                  have kp : ∀ W, Fr (fun _ => False) wr W → Calls Try.prog 37 #[.map (some w.heap.size), ct x] W fun e w' => e = .returned (.bool true) ∧ SM w' w.heap.size (n'' + 1) (x :: t') ∧ Fr (fun k => k = w.heap.size) W w' := fun W hW => put_new w.heap.size n'' t' x hxt W (SM.later hsH3 hW) hxok hn9
                  have ktw : ∀ W, Fr (fun _ => False) wr W → Calls Try.prog 30 #[p] W fun e w'' => e = .returned (.map mb) ∧ w'' = W := fun W hW => kt W (Fr.same fwr hW)
                  have hl0 := (show ∀ W, Fr (fun _ => False) wr W → (Instr.lookup 52 (.map mb) (ct x) false).run Try.prog W = .ok (.slice aoi (g.im x).length capi) W from hlkH) wr (Fr.refl _ _)
                  have hl1 := (show ∀ W, Fr (fun _ => False) wr W → (Instr.lookup 52 (.map mb) (ct x) false).run Try.prog W = .ok (.slice aoi (g.im x).length capi) W from hlkH) wr.drew (Fr.drew _ _)
                  clear hxt
                  go_region_held3 (fun w' => w'.cell? ⟨w.heap.size + 1, 0, none⟩ = some (.map (some w.heap.size))) (first | (with_reducible assumption) | go_keep) (first
                    | (go_at_call 30
                       first
                         | (refine (ktw wr (Fr.refl _ _)).mono ?_; rintro e w4 ⟨rfl, hw4⟩; replace hw4 := hw4.symm; subst hw4)
                         | (refine (ktw wr.drew (Fr.drew _ _)).mono ?_; rintro e w4 ⟨rfl, hw4⟩; replace hw4 := hw4.symm; subst hw4))
                    | (go_at_call 40
                       first
                         | (refine (kc wr (Fr.refl _ _)).mono ?_; rintro e w4 ⟨rfl, f4⟩; have cb4 := f4.cellN cb; have f4H : Hidden (Fr (fun _ => False) wr w4) := f4; clear f4)
                         | (refine (kc wr.drew (Fr.drew _ _)).mono ?_; rintro e w4 ⟨rfl, f4⟩; have f4' : Fr (fun _ => False) wr w4 := (Fr.drew _ _).same f4; have cb4 := f4'.cellN cb; have f4H : Hidden (Fr (fun _ => False) wr w4) := f4'; clear f4 f4'))
                    | (go_at_call 37
                       refine (kp w4 f4H).mono ?_
                       rintro e w5 ⟨rfl, s5, f5⟩
                       have cb5 := f5.cell cb4 (fun e => by have : w.heap.size + 1 = w.heap.size := e; omega)
                       have s5H : Hidden (SM w5 w.heap.size (n'' + 1) (x :: t')) := s5
                       have f5H : Hidden (Fr (fun k => k = w.heap.size) w4 w5) := f5
                       clear s5 f5))
                  all_goals (
                    go_wp2
                    go_roundg (g.ks.length - (j + 1))
                    case measure => have := (show gk = g.ks.length - j from hkH3); omega
                    case rel =>
                      have hlt := cnt_put (show x ∈ g.ks from hxk) (show x ∉ t' from hxtH)
                      have h1 : n'' + cnt g t' ≤ names.length + 32 := hnH3
                      refine ⟨j + 1, x :: t', n'' + 1, true, rfl, by go_num, by omega, rfl, s5H, by omega, (show OInv g names t' from hOH3).put hi0H hit0H, (fun h => by cases h), fun _ => ?_, Fr.same hfH3 (Fr.same (Fr.mono f4H fun _ _ f => f.elim) f5H)⟩
                      cases gr' with
                      | false => have q := ((show false = false → _ from hg0H) rfl).1; rw [q] at hlt ⊢; exact hlt
                      | true => exact Nat.lt_trans hlt ((show true = true → cnt g t' < cnt g t from hg1H) rfl))
            · obtain rfl : j = g.ks.length := by omega
              clear hf cb
              go_wp2
              go_roundg (if gr' = true then cnt g t' + 1 else 0)
              case measure =>
                have h1 : gko = (if true = true then cnt g t + 1 else 0) := hkH2
                rw [if_pos rfl] at h1
                cases gr' with
                | false => simp; omega
                | true => have := (show true = true → cnt g t' < cnt g t from hg1H) rfl; simp; omega
              case rel =>
                refine ⟨t', n'', gr', rfl, hsH3, hnH3, hOH3, fun hg => ?_, rfl, ?_⟩
                · obtain ⟨q1, q2⟩ := (show gr' = false → _ from hg0H) hg
                  subst q1
                  rw [List.take_length] at q2
                  exact q2
                · exact (Fr.same hfH2 (Fr.mono f3H fun _ _ f => f.elim)).same hfH3
end Go.Proofs.Ytajefmmggefbeaa.Dg
