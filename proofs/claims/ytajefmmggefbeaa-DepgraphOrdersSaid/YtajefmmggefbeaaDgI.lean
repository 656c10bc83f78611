/- orderless, Order. -/
import Derived.Test.YtajefmmggefbeaaDgH
import Derived.Test.YtajefmmggefbeaaDgT
import Derived.Deep.RegionHeld3
namespace Go.Proofs.Ytajefmmggefbeaa.Dg
open Go.RowKit Go.Sort
set_option linter.unusedSimpArgs false
set_option linter.unusedVariables false

theorem orderless_nil (w : World) : Calls Try.prog 44 #[.pointer none] w fun e w' => e = .returned (.int .i64 2) ∧ w' = w := by
  go_enter Try.func44, Try.ntmps44
  go_wp2
  go_ret
  exact ⟨rfl, rfl⟩
theorem orderless_some (a : Addr) (g : Gr) (w : World) (h : Gp w (.pointer (some a)) g) :
    Calls Try.prog 44 #[.pointer (some a)] w fun e w' => e = .returned (.int .i64 (ordE g)) ∧ Fr (fun _ => False) w w' := by
  have km := missing_any _ g w h
  have hH : Hidden (Gp w (.pointer (some a)) g) := h
  clear h
  unfold ordE
  cases hm : missS g with
  | some un =>
    obtain ⟨u, n⟩ := un
    rw [hm] at km
    simp only [missV] at km
    clear hm
    go_enter Try.func44, Try.ntmps44
    go_wp2_with (go_at_call 6; refine km.mono ?_; rintro e w1 ⟨rfl, f1⟩)
    go_ret
    exact ⟨rfl, f1⟩
  | none =>
    rw [hm] at km
    simp only [missV] at km
    clear hm
    obtain ⟨R, hR⟩ : ∃ R, ringS g = R := ⟨_, rfl⟩
    have kr : ∀ w1, Fr (fun _ => False) w w1 → Calls Try.prog 24 #[.pointer (some a)] w1 fun e w' => RetL R e w' ∧ Fr (fun _ => False) w1 w' := fun w1 f1 => by
      have := ring_any _ g w1 ((show Gp w (.pointer (some a)) g from hH).later f1)
      rw [hR] at this
      exact this
    rw [hR]
    by_cases hRn : R = []
    · subst hRn
      go_enter Try.func44, Try.ntmps44
      go_wp2_with (first
        | (go_at_call 6; refine km.mono ?_; rintro e w1 ⟨rfl, f1⟩; have f1H : Hidden (Fr (fun _ => False) w w1) := f1; have kr1 := kr w1 f1; clear f1)
        | (go_at_call 24; refine kr1.mono ?_; rintro e w2 ⟨⟨ao, cap, rfl, _⟩, f2⟩; have f2H : Hidden (Fr (fun _ => False) w1 w2) := f2; clear f2))
      go_ret
      exact ⟨rfl, Fr.same f1H f2H⟩
    · have hRl : 0 < R.length := List.length_pos_iff.2 hRn
      have hRlz : (0 : Int) < (R.length : Int) := by omega
      rw [if_neg (by simp), if_neg hRn]
      clear hR hRn
      go_enter Try.func44, Try.ntmps44
      go_wp2_with (first
        | (go_at_call 6; refine km.mono ?_; rintro e w1 ⟨rfl, f1⟩; have f1H : Hidden (Fr (fun _ => False) w w1) := f1; have kr1 := kr w1 f1; clear f1)
        | (go_at_call 24; refine kr1.mono ?_; rintro e w2 ⟨⟨ao, cap, rfl, _⟩, f2⟩; have f2H : Hidden (Fr (fun _ => False) w1 w2) := f2; clear f2))
      go_ret
      exact ⟨rfl, Fr.same f1H f2H⟩
theorem orderless_any (q : Option Addr) (g : Gr) (w : World) (h : Gp w (.pointer q) g) :
    Calls Try.prog 44 #[.pointer q] w fun e w' => e = .returned (.int .i64 (ordC q g)) ∧ Fr (fun _ => False) w w' := by
  cases q with
  | none =>
    refine (orderless_nil w).mono ?_
    rintro e w' ⟨rfl, rfl⟩
    exact ⟨rfl, Fr.refl _ _⟩
  | some a => exact orderless_some a g w h
/-- put, whether it is there or not. -/
theorem put_any (b n : Nat) (u : List Str) (s : Str) (w : World) (h : SM w b n u) (hs : OkN s) (hn : n < 9223372036854775807) :
    Calls Try.prog 37 #[.map (some b), ct s] w fun e w' => ∃ r n', e = .returned (.bool r) ∧ SM w' b n' (s :: u) ∧ n' ≤ n + 1 ∧ Fr (fun k => k = b) w w' := by
  by_cases hr : s ∈ u
  · refine (put_in b n u s hr w h hs).mono ?_
    rintro e w' ⟨rfl, f⟩
    exact ⟨false, n, rfl, (h.later f).same (fun x => by
      constructor
      · intro k; simp [k]
      · intro k
        rcases List.mem_cons.1 k with rfl | k
        · exact hr
        · exact k), by omega, f.mono fun _ _ f => f.elim⟩
  · refine (put_new b n u s hr w h hs hn).mono ?_
    rintro e w' ⟨rfl, k, f⟩
    exact ⟨true, n + 1, rfl, k, Nat.le_refl _, f⟩
/-- slices.Delete of one. -/
theorem delete1_any (ao : Option Addr) (cap : Nat) (l : List Str) (i B : Nat) (w : World) (h : Tn w B (.slice ao l.length cap) l) (hi : i < l.length) :
    Calls Try.prog 48 #[.slice ao l.length cap, .int .i64 (i : Int), .int .i64 ((i : Int) + 1)] w fun e w' => e = .returned (.slice ao (l.eraseIdx i).length cap) ∧ Tn w' B (.slice ao (l.eraseIdx i).length cap) (l.eraseIdx i) ∧ Fr (fun k => (Value.slice ao l.length cap).ownBlock = some k) w w' := by
  obtain ⟨ao', cap', e, h1, h2, h3, h4⟩ := h
  cases e
  rcases h4 with h4 | ⟨b, off, rfl, hB, hb, hH⟩
  · subst h4; simp at hi
  obtain ⟨i0, hi0, _, hz1, _⟩ := info_parts Try.info_str
  have hc := AnyE.slices_Delete (α := Str) Try.delete48 encStr (fun _ => rfl) [] Try.zeroValue9 i0 hi0 hz1 b off cap i (i + 1) l.toArray w hH (by simpa using h1) h2 (by omega) (by simp; omega)
  have e1 : (l.eraseIdx i).length = l.length - 1 := List.length_eraseIdx_of_lt hi
  have e2 : l.eraseIdx i = l.take i ++ l.drop (i + 1) := List.eraseIdx_eq_take_drop_succ ..
  refine Calls.mono (show Calls Try.prog 48 #[.slice (some ⟨b, off, none⟩) l.length cap, .int .i64 (i : Int), .int .i64 ((i : Int) + 1)] w _ from hc) ?_
  rintro e w' ⟨rfl, q, rfl⟩
  have hs : (l.toArray.toList.take i ++ l.toArray.toList.drop (i + 1) ++ List.replicate (i + 1 - i) ([] : Str)).toArray.size = l.toArray.size := by simp; omega
  refine ⟨by rw [e1]; simp, ⟨_, cap, rfl, by omega, h2, h3, Or.inr ⟨b, off, rfl, hB, by simpa using hb, fun j hj => ?_⟩⟩, Fr.row0.mono fun k _ e => by rw [e]; rfl⟩
  have hj' : j < (l.eraseIdx i).length := by simpa using hj
  have := holds_putRow encStr _ b off l.toArray _ (holds_ahead encStr w q b off _ hH) hs j (by simp; omega)
  rw [this.1, this.2]
  refine ⟨?_, rfl⟩
  rw [getElem!_pos (l.eraseIdx i).toArray j hj, getElem!_pos _ j (by simp; omega)]
  have e3 : (l.toArray.toList.take i ++ l.toArray.toList.drop (i + 1) ++ List.replicate (i + 1 - i) ([] : Str)).toArray[j]'(by simp; omega) = (l.eraseIdx i).toArray[j]'hj := by
    simp only [List.getElem_toArray]
    rw [List.getElem_append_left (by simp; omega)]
    simp only [e2]
  rw [e3]

theorem orderGo_succ (g : Gr) (n : Nat) (left placed : List Str) (h : left ≠ []) : orderGo g (n + 1) left placed = match left.findIdx? (okIn g placed) with
    | none => none
    | some i => (orderGo g n (left.eraseIdx i) (left[i]! :: placed)).map (left[i]! :: ·) := by
  rw [orderGo, if_neg h]
  cases List.findIdx? (okIn g placed) left <;> rfl
/-- slices.IndexFunc(left, ..) of Order. -/
theorem nextAt_any (Bg Bp : Nat) (p : Value) (g : Gr) (b n : Nat) (u : List Str) (ao : Option Addr) (cap : Nat) (left : List Str) (w : World) (cg : w.cell? ⟨Bg, 0, none⟩ = some p) (cp : w.cell? ⟨Bp, 0, none⟩ = some (.map (some b))) (h : Gp w p g) (hs : SM w b n u) (hl : Tl w (.slice ao left.length cap) left) (hok : ∀ x ∈ left, OkN x) (R : Int) (hR : idxP (okIn g u) left 0 = R) :
    Calls Try.prog 45 #[.slice ao left.length cap, .func (.func 46) #[] #[.pointer (some ⟨Bg, 0, none⟩), .pointer (some ⟨Bp, 0, none⟩)]] w fun e w' => e = .returned (.int .i64 R) ∧ Fr (fun _ => False) w w' := by
  obtain ⟨ao', cap', e, h1, h2, h3, h4⟩ := hl
  cases e
  refine ifuncSA 46 #[.pointer (some ⟨Bg, 0, none⟩), .pointer (some ⟨Bp, 0, none⟩)] (enters_of Try.func46 (by kernel_rfl) rfl) ao _ cap left (okIn g u) R w rfl h1 h2 h4 ?_ hR
  intro W hW x hx
  exact order1_any Bg Bp p g x b n u W (hW.cellN cg) (hW.cellN cp) (h.later hW) (hs.later hW) (hok x hx)
set_option maxRecDepth 20000 in
theorem order_err (q : Option Addr) (g : Gr) (w : World) (h : Gp w (.pointer q) g) (he : ordC q g ≠ 0) :
    Calls Try.prog 20 #[.pointer q] w fun e w' => e = .returned (.tuple #[.slice none 0 0, .int .i64 (ordC q g)]) ∧ Fr (fun _ => False) w w' := by
  have ko := orderless_any q g _ (h.later (Fr.alloc _ w (.cells #[.pointer q] 24)))
  have cb := box_cell w (.pointer q) 24
  generalize ordC q g = c at ko he ⊢
  have hne : (c == 0) = false := by simpa using he
  clear h he
  go_enter Try.func20, Try.ntmps20
  go_wp2_with (go_at_call 44; refine ko.mono ?_; rintro e w1 ⟨rfl, f1⟩; have f1H : Hidden (Fr (fun _ => False) (w.alloc (.cells #[.pointer q] 24)) w1) := f1; clear f1)
  go_ret2
  exact ⟨rfl, Fr.same (Fr.alloc _ _ _) f1H⟩
set_option maxRecDepth 20000 in
set_option maxHeartbeats 8000000 in
theorem order_ok (q : Option Addr) (g : Gr) (w : World) (h : Gp w (.pointer q) g) (he : ordC q g = 0) (R : List Str) (hR : orderS g = some R) :
    Calls Try.prog 20 #[.pointer q] w fun e w' => (∃ ao cap, e = .returned (.tuple #[.slice ao R.length cap, .int .i64 0]) ∧ To w' w.heap.size (.slice ao R.length cap) R) ∧ Fr (fun _ => False) w w' := by
  have fa := Fr.alloc (fun _ => False) w (.cells #[.pointer q] 24)
  have ko := orderless_any q g _ (h.later fa)
  rw [he] at ko
  have cb := box_cell w (.pointer q) 24
  have hH : Hidden (Gp w (.pointer q) g) := h
  have hRH : Hidden (orderGo g g.ks.length g.ks [] = some R) := hR
  have hmm := @run_makeMap Try.prog
  have hsm := h.small
  have kn : ∀ w1, Fr (fun _ => False) w w1 → Calls Try.prog 9 #[.pointer q] w1 fun e w' => Ret w1.heap.size g.ks e w' ∧ Fr (fun _ => False) w1 w' := fun w1 f1 => names_any _ g w1 ((show Gp w (.pointer q) g from hH).later f1)
  have faH : Hidden (Fr (fun _ => False) w (w.alloc (.cells #[.pointer q] 24))) := fa
  clear h he hR fa
  go_enter Try.func20, Try.ntmps20
  go_wp2_with (first
    | (go_at_call 44; refine ko.mono ?_; rintro e w1 ⟨rfl, f1⟩; have c1 := (f1.same ((Fr.alloc _ w1 (.map #[] 0)).same (Fr.alloc _ _ (.cells #[.map (some w1.heap.size)] 67)))).cellN cb; have f2 : Fr (fun _ => False) w ((w1.alloc (.map #[] 0)).alloc (.cells #[.map (some w1.heap.size)] 67)) := (Fr.same faH f1).same ((Fr.alloc _ w1 (.map #[] 0)).same (Fr.alloc _ _ _)); have f2H : Hidden (Fr (fun _ => False) w ((w1.alloc (.map #[] 0)).alloc (.cells #[.map (some w1.heap.size)] 67))) := f2; have szb : Hidden (w.heap.size < w1.heap.size) := (by { have := f1.size; simp at this; exact this }); have kn1 := kn _ f2; clear f1 f2 cb)
    | (go_at_call 9; refine kn1.mono ?_; rintro e w3 ⟨⟨ao, cap, rfl, ht3⟩, f3⟩; have ht3H : Hidden (To w3 ((w1.alloc (.map #[] 0)).alloc (.cells #[.map (some w1.heap.size)] 67)).heap.size (.slice ao g.ks.length cap) g.ks) := ht3; have f3H : Hidden (Fr (fun _ => False) ((w1.alloc (.map #[] 0)).alloc (.cells #[.map (some w1.heap.size)] 67)) w3) := f3; clear ht3 f3))
  have hW2s : Hidden (((w1.alloc (.map #[] 0)).alloc (.cells #[.map (some w1.heap.size)] 67)).heap.size = w1.heap.size + 1 + 1) := by show _ = _; simp
  have hcp : Hidden (((w1.alloc (.map #[] 0)).alloc (.cells #[.map (some w1.heap.size)] 67)).cell? ⟨w1.heap.size + 1, 0, none⟩ = some (.map (some w1.heap.size))) := by
    have := box_cell (w1.alloc (.map #[] 0)) (.map (some w1.heap.size)) 67
    have e : (w1.alloc (.map #[] 0)).heap.size = w1.heap.size + 1 := by simp
    rw [e] at this
    exact this
  have hcg : Hidden (((w1.alloc (.map #[] 0)).alloc (.cells #[.map (some w1.heap.size)] 67)).cell? ⟨w.heap.size, 0, none⟩ = some (.pointer q)) := c1
  have hs0 : Hidden (SM ((w1.alloc (.map #[] 0)).alloc (.cells #[.map (some w1.heap.size)] 67)) w1.heap.size 0 []) := (SM.new w1).later (Fr.alloc _ _ _)
  clear c1 kn1
  generalize ((w1.alloc (.map #[] 0)).alloc (.cells #[.map (some w1.heap.size)] 67)) = W2 at *
  generalize hbb : w1.heap.size = b at *
  clear hbb
  have hWb : Hidden (b < W2.heap.size) := by have : W2.heap.size = b + 1 + 1 := hW2s; show _ < _; omega
  go_loopg [5, 7] g.ks.length (fun k ov lv wr => ∃ (done left placed rest : List Str) (n : Nat), To wr w3.heap.size ov done ∧ Tn wr W2.heap.size lv left ∧ (∀ k', lv.ownBlock = some k' → W2.heap.size ≤ k' ∧ k' < w3.heap.size) ∧ SM wr b n placed ∧ n + left.length ≤ 32 ∧ done.length + left.length ≤ 32 ∧ (∀ x ∈ left, x ∈ g.ks) ∧ orderGo g k left placed = some rest ∧ done ++ rest = R ∧ Fr (fun k' => k' = b ∨ W2.heap.size ≤ k') W2 wr ∧ w3.heap.size ≤ wr.heap.size)
  case atStart =>
    exact ⟨[], g.ks, [], R, 0, To.nil _ _, (show To w3 W2.heap.size _ g.ks from ht3H).tn, (show To w3 W2.heap.size _ g.ks from ht3H).own, SM.later hs0 f3H, by simpa using hsm, by simpa using hsm, fun x hx => hx, hRH, rfl, Fr.mono f3H (fun _ _ f => f.elim), Nat.le_refl _⟩
  case round =>
    obtain ⟨done, left, placed, rest, n, hto, htn, hob, hsm', hn, hd, hin, hgo, hR, hf, hsz⟩ := hrel
    have htoH : Hidden (To wr w3.heap.size u5 done) := hto
    have htnH : Hidden (Tn wr W2.heap.size u7 left) := htn
    have hobH : Hidden (∀ k', u7.ownBlock = some k' → W2.heap.size ≤ k' ∧ k' < w3.heap.size) := hob
    have hsmH : Hidden (SM wr b n placed) := hsm'
    have hnH : Hidden (n + left.length ≤ 32) := hn
    have hdH : Hidden (done.length + left.length ≤ 32) := hd
    have hinH : Hidden (∀ x ∈ left, x ∈ g.ks) := hin
    have hgoH : Hidden (orderGo g gk left placed = some rest) := hgo
    have hRH2 : Hidden (done ++ rest = R) := hR
    have hfH : Hidden (Fr (fun k' => k' = b ∨ W2.heap.size ≤ k') W2 wr) := hf
    have hszH : Hidden (w3.heap.size ≤ wr.heap.size) := hsz
    have hwb : Hidden (w.heap.size < b) := szb
    have fw : Hidden (Fr (fun _ => False) w wr) := Fr.over f2H hf (fun k hk => by
      have h1 : w.heap.size < b := szb
      have h2 := (show Fr (fun _ => False) w W2 from f2H).size
      rcases hk with hk | hk <;> omega)
    obtain ⟨aoo, capo, ho, o1, o2⟩ := hto.shape
    subst ho
    obtain ⟨aol, capl, hl, l1, l2, l3, l4⟩ := htn
    subst hl
    clear hto hob hsm' hn hd hin hgo hR hsz l3 l4
    by_cases hl0 : left = []
    · subst hl0
      have hdR : Hidden (done = R) := by
        have h1 : orderGo g gk [] placed = some rest := hgoH
        have h2 : rest = [] := by
          cases gk with
          | zero => simpa [orderGo] using h1.symm
          | succ m => simpa [orderGo] using h1.symm
        have h3 : done ++ rest = R := hRH2
        rw [h2, List.append_nil] at h3
        exact h3
      clear hf
      go_wp2
      go_ret2
      have hdR' : done = R := hdR
      subst hdR'
      refine ⟨⟨aoo, capo, rfl, ?_⟩, fw⟩
      exact To.lower htoH (Nat.le_trans (show Fr (fun _ => False) w W2 from f2H).size (show Fr (fun _ => False) W2 w3 from f3H).size)
    · have hlp : 0 < left.length := List.length_pos_iff.2 hl0
      have hlpz : (0 : Int) < (left.length : Int) := by omega
      obtain ⟨k', hk'⟩ : ∃ k', gk = k' + 1 := by
        cases gk with
        | zero =>
          have h1 : orderGo g 0 left placed = some rest := hgoH
          simp [orderGo, hl0] at h1
        | succ k' => exact ⟨k', rfl⟩
      have hk'H : Hidden (gk = k' + 1) := hk'
      have h1 : orderGo g gk left placed = some rest := hgoH
      rw [hk', orderGo_succ _ _ _ _ hl0] at h1
      rcases idxP_spec (okIn g placed) left 0 with ⟨_, _, e3⟩ | ⟨i, x, e1, e2, e3, e4⟩
      · rw [e3] at h1; cases h1
      rw [e4] at h1
      have hil : i < left.length := (List.getElem?_eq_some_iff.1 e1).1
      have hx! : left[i]! = x := by rw [getElem!_pos left i hil]; exact (List.getElem?_eq_some_iff.1 e1).2
      simp only [hx!] at h1
      obtain ⟨rest', hr1, hr2⟩ := Option.map_eq_some_iff.1 h1
      have hr1H : Hidden (orderGo g k' (left.eraseIdx i) (x :: placed) = some rest') := hr1
      have hr2H : Hidden (x :: rest' = rest) := hr2
      have hxks : x ∈ g.ks := (show ∀ x ∈ left, x ∈ g.ks from hinH) x (List.mem_of_getElem? e1)
      have hxok : OkN x := (show Gp w (.pointer q) g from hH).okN hxks
      have hxnot : x ∉ placed → True := fun _ => trivial
      obtain ⟨bl, off, rfl, cx⟩ := Tl.at (show Tn wr W2.heap.size _ left from htnH).tl e1
      have cg : wr.cell? ⟨w.heap.size, 0, none⟩ = some (.pointer q) := hf.cell hcg (fun e => by
        have h1 : w.heap.size < b := szb
        have h2 : b < W2.heap.size := hWb
        rcases e with e | e
        · have : w.heap.size = b := e; omega
        · have : W2.heap.size ≤ w.heap.size := e; omega)
      have cp : wr.cell? ⟨b + 1, 0, none⟩ = some (.map (some b)) := hf.cell hcp (fun e => by
        have h2 : W2.heap.size = b + 1 + 1 := hW2s
        rcases e with e | e
        · have : b + 1 = b := e; omega
        · have : W2.heap.size ≤ b + 1 := e; omega)
      have kx := nextAt_any w.heap.size (b + 1) (.pointer q) g b n placed _ capl left wr cg cp ((show Gp w (.pointer q) g from hH).later fw) hsmH (show Tn wr W2.heap.size _ left from htnH).tl (fun y hy => (show Gp w (.pointer q) g from hH).okN ((show ∀ x ∈ left, x ∈ g.ks from hinH) y hy)) (i : Int) (by rw [e3]; simp)
      have i0 : (0 : Int) ≤ (i : Int) := by omega
      have i1 : (i : Int) < (left.length : Int) := by omega
      clear hf h1 hr1 hr2 e1 e2 e3 e4 hk' hx! hl0
      go_wp2_with (go_at_call 45; refine kx.mono ?_; rintro e w4 ⟨rfl, f4⟩; have f4H : Hidden (Fr (fun _ => False) wr w4) := f4; have cx4 := f4.cellN cx; have cp4 := f4.cellN cp; clear f4)
      have hbl : Hidden (W2.heap.size ≤ bl ∧ bl < w3.heap.size) := (show ∀ k', _ → W2.heap.size ≤ k' ∧ k' < w3.heap.size from hobH) bl rfl
      have hn9 : n < 9223372036854775807 := by have : n + left.length ≤ 32 := hnH; omega
      have kp : ∀ W, Fr (fun _ => False) w4 W → Calls Try.prog 37 #[.map (some b), ct x] W fun e w' => ∃ r n', e = .returned (.bool r) ∧ SM w' b n' (x :: placed) ∧ n' ≤ n + 1 ∧ Fr (fun k => k = b) W w' := fun W hW => put_any b n placed x W (SM.later hsmH (Fr.same f4H hW)) hxok hn9
      go_region_held3 (fun w' => w'.cell? ⟨b + 1, 0, none⟩ = some (.map (some b)) ∧ w'.cell? ⟨bl, off + i, none⟩ = some (ct x)) (first | (refine ⟨by with_reducible assumption, by with_reducible assumption⟩) | go_keep) (first
        | (go_at_call 37
           refine (kp _ (Fr.drew _ _)).mono ?_
           rintro e w5 ⟨r5, n5, rfl, s5, q5, f5⟩
           have g5 : Fr (fun k => k = b) w4 w5 := ((Fr.drew (fun _ => False) w4).mono fun _ _ f => f.elim).same f5
           have hbl' : W2.heap.size ≤ bl ∧ bl < w3.heap.size := hbl
           have hWb' : b < W2.heap.size := hWb
           have cx5 := g5.cell cx4 (fun e => by have : bl = b := e; omega)
           have hszW : W2.heap.size = b + 1 + 1 := hW2s
           have cp5 := g5.cell cp4 (fun e => by have : b + 1 = b := e; omega)
           have s5H : Hidden (SM w5 b n5 (x :: placed)) := s5
           have q5H : Hidden (n5 ≤ n + 1) := q5
           have g5H : Hidden (Fr (fun k => k = b) w4 w5) := g5
           clear s5 q5 f5 g5 hbl' hWb' hszW))
      have gA : Hidden (Fr (fun k => k = b) wr w5) := Fr.same (Fr.mono f4H fun _ _ f => f.elim) g5H
      have hoB : Hidden (∀ k, (Value.slice aoo done.length capo).ownBlock = some k → w3.heap.size ≤ k) := fun k hk => ((show To wr w3.heap.size _ done from htoH).own k hk).1
      have hto5 : Hidden (To w5 w3.heap.size (.slice aoo done.length capo) done) := To.keep htoH gA (fun k hk e => by
        have h1 := (show ∀ k, _ → w3.heap.size ≤ k from hoB) k hk
        have h2 : b < W2.heap.size := hWb
        have h3 := (show Fr (fun _ => False) W2 w3 from f3H).size
        omega)
      have htn5 : Hidden (Tn w5 W2.heap.size (.slice (some ⟨bl, off, none⟩) left.length capl) left) := Tn.keep htnH gA (fun k hk e => by
        have h0 : bl = k := by simpa [Value.ownBlock] using hk
        have h1 : W2.heap.size ≤ bl ∧ bl < w3.heap.size := hbl
        have h2 : b < W2.heap.size := hWb
        omega)
      have hsz5 : Hidden (w3.heap.size ≤ w5.heap.size) := Nat.le_trans hszH (show Fr (fun k => k = b) wr w5 from gA).size
      go_wp2_with (first
        | (at_builtin; refine wpList_app rfl _ _ rfl w3.heap.size _ _ done [x] rfl (To.later hto5 (Fr.alloc _ _ _)) rfl (Tl.one _ x) (Nat.le_trans hsz5 (by simp)) (by have : done.length + left.length ≤ 32 := hdH; simp only [List.length_cons, List.length_nil]; omega) ?_; intro v6 w6 t6 f6 _; have t6H : Hidden (To w6 w3.heap.size v6 (done ++ [x])) := t6; have g6 : Fr (fun k => (Value.slice aoo done.length capo).ownBlock = some k) w5 w6 := (Fr.alloc _ _ _).same f6; have g6H : Hidden (Fr (fun k => (Value.slice aoo done.length capo).ownBlock = some k) w5 w6) := g6; have kd := delete1_any (some ⟨bl, off, none⟩) capl left i W2.heap.size w6 (Tn.keep htn5 g6 (fun k hk e => by
              have h0 : bl = k := by simpa [Value.ownBlock] using hk
              have h1 : W2.heap.size ≤ bl ∧ bl < w3.heap.size := hbl
              have h2 := (show ∀ k, _ → w3.heap.size ≤ k from hoB) k e
              omega)) hil; clear t6 f6 g6)
        | (go_at_call 48; refine kd.mono ?_; rintro e w7 ⟨rfl, t7, f7⟩; have t7H : Hidden (Tn w7 W2.heap.size (.slice (some ⟨bl, off, none⟩) (left.eraseIdx i).length capl) (left.eraseIdx i)) := t7; have f7H : Hidden (Fr (fun k => (Value.slice (some ⟨bl, off, none⟩) left.length capl).ownBlock = some k) w6 w7) := f7; clear t7 f7))
      go_roundg k'
      case measure => have := (show gk = k' + 1 from hk'H); omega
      case rel =>
        have hlen : (left.eraseIdx i).length = left.length - 1 := List.length_eraseIdx_of_lt hil
        have hb1 : W2.heap.size ≤ bl ∧ bl < w3.heap.size := hbl
        have hb2 : b < W2.heap.size := hWb
        have hb3 := (show Fr (fun _ => False) W2 w3 from f3H).size
        have hq5 : n5 ≤ n + 1 := q5H
        have hn' : n + left.length ≤ 32 := hnH
        have hd' : done.length + left.length ≤ 32 := hdH
        have obl : ∀ k, (Value.slice (some (⟨bl, off, none⟩ : Addr)) left.length capl).ownBlock = some k → k = bl := fun k hk => by
          have : bl = k := by simpa [Value.ownBlock] using hk
          exact this.symm
        have t7o : To w7 w3.heap.size v6 (done ++ [x]) := To.keep t6H f7H (fun k hk e => by
          have h1 := ((show To w6 w3.heap.size v6 (done ++ [x]) from t6H).own k hk).1
          have h2 := obl k e
          omega)
        have s7 : SM w7 b n5 (x :: placed) := SM.keep (SM.keep s5H g6H (fun e => by
          have h2 := (show ∀ k, _ → w3.heap.size ≤ k from hoB) b e
          omega)) f7H (fun e => by have h2 := obl b e; omega)
        have fr7 : Fr (fun k' => k' = b ∨ W2.heap.size ≤ k') W2 w7 := by
          have a1 : Fr (fun k' => k' = b ∨ W2.heap.size ≤ k') W2 w5 := Fr.same hfH (Fr.mono gA fun k _ e => Or.inl e)
          have a2 : Fr (fun k' => k' = b ∨ W2.heap.size ≤ k') W2 w6 := a1.same (Fr.mono g6H fun k _ e => Or.inr (by have h2 := (show ∀ k, _ → w3.heap.size ≤ k from hoB) k e; omega))
          exact a2.same (Fr.mono f7H fun k _ e => Or.inr (by have h2 := obl k e; omega))
        refine ⟨done ++ [x], left.eraseIdx i, x :: placed, rest', n5, t7o, t7H, fun k hk => ?_, s7, by omega, by simp; omega, fun y hy => (show ∀ x ∈ left, x ∈ g.ks from hinH) y (List.mem_of_mem_eraseIdx hy), hr1H, ?_, fr7, ?_⟩
        · have : bl = k := by simpa [Value.ownBlock] using hk
          omega
        · have h1 : done ++ rest = R := hRH2
          rw [← (show x :: rest' = rest from hr2H)] at h1
          rw [List.append_assoc]
          exact h1
        · exact Nat.le_trans hsz5 (Nat.le_trans (show Fr (fun k => (Value.slice aoo done.length capo).ownBlock = some k) w5 w6 from g6H).size (show Fr (fun k => (Value.slice (some (⟨bl, off, none⟩ : Addr)) left.length capl).ownBlock = some k) w6 w7 from f7H).size)
end Go.Proofs.Ytajefmmggefbeaa.Dg
