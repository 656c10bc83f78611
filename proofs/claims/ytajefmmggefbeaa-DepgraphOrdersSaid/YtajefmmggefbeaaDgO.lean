/- Lists of texts of a call's own, at any offset: append; slices.Clone; what is sorted. -/
import Derived.Test.YtajefmmggefbeaaDgM
import Derived.Deep.MidRow
import Derived.Lib.Walk
namespace Go.Proofs.Ytajefmmggefbeaa.Dg
open Go.RowKit Go.Sort
set_option linter.unusedSimpArgs false
set_option linter.unusedVariables false

/-- A list of texts in memory of the call's own: all places up to the capacity are there and may be written. -/
def Tw (w : World) (B : Nat) (v : Value) (l : List Str) : Prop :=
  Tl w v l ∧ ∃ ao len cap, v = .slice ao len cap ∧ (ao = none ∨ ∃ g off, ao = some ⟨g, off, none⟩ ∧ B ≤ g ∧ g < w.heap.size ∧ ∀ j, j < cap → (w.cell? ⟨g, off + j, none⟩).isSome = true ∧ w.frozen? ⟨g, off + j, none⟩ = false)
theorem Tw.nil (w : World) (B : Nat) : Tw w B (.slice none 0 0) [] := ⟨Tl.nil w, none, 0, 0, rfl, Or.inl rfl⟩
theorem Tw.keep {S : Nat → Prop} {w w' : World} {B : Nat} {v : Value} {l : List Str} (h : Tw w B v l) (hf : Fr S w w') (hn : ∀ k, v.ownBlock = some k → ¬ S k) : Tw w' B v l := by
  obtain ⟨h1, ao, len, cap, rfl, h2⟩ := h
  refine ⟨h1.keep hf hn, ao, len, cap, rfl, ?_⟩
  rcases h2 with rfl | ⟨g, off, rfl, hB, hlt, hc⟩
  · exact Or.inl rfl
  · refine Or.inr ⟨g, off, rfl, hB, Nat.lt_of_lt_of_le hlt hf.size, fun j hj => ?_⟩
    have e := hf.block g hlt (hn g rfl)
    rw [World.cell?_of_block (a := ⟨g, off + j, none⟩) e, World.frozen?_of_block (a := ⟨g, off + j, none⟩) e]
    exact hc j hj
theorem Tw.later {w w' : World} {B : Nat} {v : Value} {l : List Str} (h : Tw w B v l) (hf : Fr (fun _ => False) w w') : Tw w' B v l := h.keep hf (fun _ _ f => f)
theorem Tw.own {w : World} {B : Nat} {v : Value} {l : List Str} (h : Tw w B v l) : ∀ k, v.ownBlock = some k → B ≤ k ∧ k < w.heap.size := by
  obtain ⟨h1, ao, len, cap, rfl, h2⟩ := h
  intro k hk
  rcases h2 with rfl | ⟨g, off, rfl, hB, hlt, hc⟩
  · cases hk
  · have : g = k := by simpa [Value.ownBlock] using hk
    subst this
    exact ⟨hB, hlt⟩
theorem Tw.lower {w : World} {B B' : Nat} {v : Value} {l : List Str} (h : Tw w B v l) (hb : B' ≤ B) : Tw w B' v l := by
  obtain ⟨h1, ao, len, cap, rfl, h2⟩ := h
  refine ⟨h1, ao, len, cap, rfl, ?_⟩
  rcases h2 with rfl | ⟨g, off, rfl, hB, r⟩
  · exact Or.inl rfl
  · exact Or.inr ⟨g, off, rfl, by omega, r⟩
theorem Tw.of_to {w : World} {B : Nat} {v : Value} {l : List Str} (h : To w B v l) : Tw w B v l := by
  refine ⟨h.tn.tl, ?_⟩
  rcases h.2 with ⟨rfl, _⟩ | ⟨g, cap, cur, rfl, hb, hg, hnc, hcm, hcs, ht⟩
  · exact ⟨none, 0, 0, rfl, Or.inl rfl⟩
  · refine ⟨_, _, cap, rfl, Or.inr ⟨g, 0, rfl, hb, lt_of_heap hg, fun j hj => ⟨?_, by simp [World.frozen?, hg]⟩⟩⟩
    rw [Nat.zero_add, cell_of_row w g j cur 9 (0, 0) hg]
    simp
    omega
theorem Tl.drop {w : World} {ao : Option Addr} {len cap : Nat} {l : List Str} (h : Tl w (.slice ao len cap) l) (n : Nat) (hn : n ≤ len) : Tl w (.slice (if cap = n then ao else ao.map fun a => a.add n) (len - n) (cap - n)) (l.drop n) := by
  obtain ⟨ao', cap', e, h1, h2, h3, h4⟩ := h
  cases e
  refine ⟨_, _, by rw [List.length_drop], by rw [List.length_drop]; omega, by omega, ?_, ?_⟩
  · intro h
    split at h
    · have := h3 h; omega
    · cases ao with
      | none => have := h3 rfl; omega
      | some a => cases h
  · by_cases hcn : cap = n
    · left
      rw [List.drop_eq_nil_of_le (by omega)]
    · rw [if_neg hcn]
      rcases h4 with rfl | ⟨b, off, rfl, hc⟩
      · left; simp
      · right
        refine ⟨b, off + n, by simp [Addr.add_lit], fun i x hx => ?_⟩
        rw [List.getElem?_drop] at hx
        rw [Nat.add_assoc]
        exact hc _ x hx
theorem Tw.drop {w : World} {B : Nat} {ao : Option Addr} {len cap : Nat} {l : List Str} (h : Tw w B (.slice ao len cap) l) (n : Nat) (hn : n ≤ len) : Tw w B (.slice (if cap = n then ao else ao.map fun a => a.add n) (len - n) (cap - n)) (l.drop n) := by
  obtain ⟨h1, ao', len', cap', e, h2⟩ := h
  cases e
  refine ⟨Tl.drop h1 n hn, _, _, _, rfl, ?_⟩
  rcases h2 with rfl | ⟨g, off, rfl, hB, hlt, hc⟩
  · left; split <;> rfl
  · right
    by_cases hcn : cap = n
    · rw [if_pos hcn]
      exact ⟨g, off, rfl, hB, hlt, fun j hj => by omega⟩
    · rw [if_neg hcn]
      refine ⟨g, off + n, by simp [Addr.add_lit], hB, hlt, fun j hj => ?_⟩
      rw [Nat.add_assoc]
      exact hc _ (by omega)
theorem Tl.source {w : World} {x : Value} {l : List Str} (h : Tl w x l) : Src Try.prog 1 23 x l.length (l.map encStr) w := by
  obtain ⟨xo, xc, rfl, x1, x2, x3, x4⟩ := h
  cases xo with
  | none =>
    have hc := x3 rfl
    have hm : l = [] := List.eq_nil_of_length_eq_zero (by omega)
    subst hm
    exact Src.ofNil w Try.underlying23 xc
  | some a =>
    have hnews : ∀ (j : Nat) (u : Value), (l.map encStr)[j]? = some u → w.cell? (a.add j) = some u := by
      rcases x4 with rfl | ⟨b, off, e, hc⟩
      · intro j u hu; simp at hu
      · cases e
        exact Tl.news hc
    exact Src.ofSlice w Try.underlying23 a l.length xc (l.map encStr) (by simp) hnews (enc_one l)
theorem size_setCells (g : Nat) : ∀ (vs : List Value) (o : Nat) (w : World), (w.setCells g o vs).heap.size = w.heap.size
  | [], _, _ => rfl
  | v :: r, o, w => by rw [World.setCells, size_setCells g r, World.size_setCell]
theorem run_append_tw (w : World) (B : Nat) (v x : Value) (l add : List Str) (ty : TypeId) (hv : Tw w B v l) (hx : Tl w x add) (hB : B ≤ w.heap.size) (hb : (l.length + add.length) * 16 ≤ 140737488355328) :
    ∃ v' w', (Builtin.append_ #[23, 23] ty #[v, x]).run Try.prog w = .ok v' w' ∧ Tw w' B v' (l ++ add) ∧ Fr (fun k => v.ownBlock = some k) w w' ∧ (v'.ownBlock = v.ownBlock ∨ v'.ownBlock = some w.heap.size) ∧ Tl w' v l := by
  obtain ⟨i0, hi, hz0, hz1, hz2⟩ := info_parts Try.info_str
  have hsrc := Tl.source hx
  rw [← hz1] at hsrc
  obtain ⟨hs, ao, len, cap, rfl, ho⟩ := hv
  obtain ⟨ao', cap', e, a1, a2, a3, a4⟩ := id hs
  cases e
  by_cases hn : add = []
  · subst hn
    have hr := run_append_nothing (P := Try.prog) w 23 23 ty 9 i0 Try.underlying23 hi ao l.length cap a1 x hsrc
    rw [List.append_nil]
    exact ⟨_, _, hr, ⟨hs, _, _, _, rfl, ho⟩, Fr.refl _ _, Or.inl rfl, hs⟩
  have hpos : 0 < add.length := List.length_pos_iff.2 hn
  by_cases hroom : l.length + add.length ≤ cap
  · rcases ho with rfl | ⟨g, off, rfl, hBg, hlt, hc⟩
    · have := a3 rfl
      omega
    · have hcs : ∀ j, j < (add.map encStr).length → (w.cell? ⟨g, off + l.length + j, none⟩).isSome = true := fun j hj => by rw [Nat.add_assoc]; exact (hc _ (by rw [List.length_map] at hj; omega)).1
      have hr := run_append_room_src (P := Try.prog) w 23 23 ty 9 i0 Try.underlying23 hi g off l.length cap x add.length (add.map encStr) hsrc hroom
        (fun j hj => by rw [hz1, Nat.mul_one]; exact hcs j hj) (fun j hj => by rw [hz1, Nat.mul_one, Nat.add_assoc]; exact (hc _ (by rw [List.length_map] at hj; omega)).2)
      rw [hz1, Nat.mul_one] at hr
      refine ⟨_, _, hr, ⟨⟨_, _, by rw [List.length_append], by rw [List.length_append]; exact hroom, a2, (fun h => by cases h), Or.inr ⟨g, off, rfl, fun i y hy => ?_⟩⟩, _, _, _, rfl, Or.inr ⟨g, off, rfl, hBg, by rw [size_setCells]; exact hlt, fun j hj => ⟨World.isSome_setCells g _ _ w _ (hc j hj).1, by rw [World.frozen?_setCells]; exact (hc j hj).2⟩⟩⟩, ?_, Or.inl rfl, ⟨_, _, rfl, a1, a2, (fun h => by cases h), Or.inr ⟨g, off, rfl, fun i y hy => ?_⟩⟩⟩
      · by_cases hil : i < l.length
        · rw [List.getElem?_append_left hil] at hy
          rw [World.cell?_setCells_out g _ _ w _ (fun _ _ => Or.inl (by show off + i < off + l.length; omega))]
          rcases a4 with h4 | ⟨b', o', he, hcc⟩
          · rw [h4] at hy
            simp at hy
          · simp only [Option.some.injEq, Addr.mk.injEq, and_true] at he
            obtain ⟨rfl, rfl⟩ := he
            exact hcc i y hy
        · rw [List.getElem?_append_right (by omega)] at hy
          obtain ⟨hj, hyy⟩ := List.getElem?_eq_some_iff.1 hy
          have := World.cell?_setCells_in g (add.map encStr) (off + l.length) w hcs (i - l.length) (by simpa using hj)
          rw [show off + l.length + (i - l.length) = off + i by omega] at this
          rw [this]
          simp [hyy]
      · refine ⟨World.os_setCells _ _ _ _, World.output_setCells _ _ _ _, by rw [size_setCells]; exact Nat.le_refl _, fun k hk hne => World.heap_setCells_other w g _ _ hk (fun e => hne (by rw [e]; rfl))⟩
      · have hil : i < l.length := (List.getElem?_eq_some_iff.1 hy).1
        rw [World.cell?_setCells_out g _ _ w _ (fun _ _ => Or.inl (by show off + i < off + l.length; omega))]
        rcases a4 with h4 | ⟨b', o', he, hcc⟩
        · rw [h4] at hy
          simp at hy
        · simp only [Option.some.injEq, Addr.mk.injEq, and_true] at he
          obtain ⟨rfl, rfl⟩ := he
          exact hcc i y hy
  · have hold : (Builtin.firstCells i0.size l.length (.slice ao l.length cap)).run Try.prog w.drew = .ok (l.map encStr).toArray w.drew := by
      rw [hz1]
      exact (Tl.source hs).cellsD
    have hr := run_append_grow_src (P := Try.prog) w 23 23 ty 9 i0 (.string ⟨#[]⟩) Try.underlying23 hi hz0 ao l.length cap (l.map encStr) hold x add.length (add.map encStr) hsrc (by omega) (by omega) (by rw [hz2]; exact growslice_fits (by omega) (by omega))
    have hge := grownCap_ge w (l.length + add.length) cap 9
    have hgl := grownCap_le_maxLen w (l.length + add.length) cap 9 (by unfold maxLen; omega)
    refine ⟨_, _, hr, Tw.of_to (l := l ++ add) ⟨by simp, Or.inr ⟨w.heap.size, _, _, by rw [List.length_append], hB, alloc_new w.drew _, by rw [List.length_append]; exact hge, hgl, ?_, ?_⟩⟩, ⟨rfl, rfl, by simp, fun k hk _ => alloc_old w.drew _ k hk⟩, Or.inr rfl, (hs.later (Fr.drew _ _)).later (Fr.alloc _ _ _)⟩
    · simp only [Array.size_append, List.size_toArray, List.length_append, List.length_map, size_zeroCells, Value.cells]
      simp
      omega
    · rw [Nat.mul_one, Array.toList_append, List.map_append, show (l ++ add).length = (l.map encStr ++ add.map encStr).length by simp]
      exact List.take_left
theorem wpList_append_tw {w : World} {ops : Array Oper} {rest : List Oper} {o : Oper} {a : Act} {Q : Exit → Act → World → Prop} (hgd : o.guard = none) (s x : Operand)
    (ho : o.op = .call { callee := .builtin .append, args := #[s, x], argTypes := #[23, 23] }) (B : Nat) (v xv : Value) (l add : List Str)
    (hs : a.eval s = v) (hv : Tw w B v l) (hx : a.eval x = xv) (hxs : Tl w xv add) (hB : B ≤ w.heap.size) (hb : (l.length + add.length) * 16 ≤ 140737488355328)
    (h : ∀ v' w', Tw w' B v' (l ++ add) → Fr (fun k => v.ownBlock = some k) w w' → (v'.ownBlock = v.ownBlock ∨ v'.ownBlock = some w.heap.size) → wpList Try.prog ops Q rest (a.put o.dst v') w') : wpList Try.prog ops Q (o :: rest) a w := by
  refine wpList_plain hgd fun K hK => ?_
  obtain ⟨v', w', hr, h2, h3, h4, _⟩ := run_append_tw w B v xv l add o.type hv hxs hB hb
  unfold Oper.wp
  simp only [execOp, ho, resolve, invoke, builtin, Sem.run_bind, Sem.run_pure, Result.andThen_ok, List.map_toArray, List.map_cons, List.map_nil, hs, hx, hr]
  exact hK _ _ (h v' w' h2 h3 h4)

theorem Tl.cap_le {w : World} {ao : Option Addr} {n cap : Nat} {l : List Str} (h : Tl w (.slice ao n cap) l) : n ≤ cap := by
  obtain ⟨ao', cap', e, h1, _⟩ := h
  cases e
  exact h1
theorem To.lower {w : World} {B B' : Nat} {v : Value} {l : List Str} (h : To w B v l) (hb : B' ≤ B) : To w B' v l := by
  refine ⟨h.1, ?_⟩
  rcases h.2 with h0 | ⟨g, cap, cur, rfl, hb2, r⟩
  · exact Or.inl h0
  · exact Or.inr ⟨g, cap, cur, rfl, by omega, r⟩
theorem To.later {w w' : World} {B : Nat} {v : Value} {l : List Str} (h : To w B v l) (hf : Fr (fun _ => False) w w') : To w' B v l := h.keep hf (fun _ _ f => f)
/-- An empty row of the call's own. -/
theorem To.empty (w : World) (B : Nat) (hB : B ≤ w.heap.size) : To (w.alloc (.cells #[] 9)) B (.slice (some ⟨w.heap.size, 0, none⟩) 0 0) [] :=
  ⟨by simp, Or.inr ⟨w.heap.size, 0, #[], rfl, hB, alloc_new w _, by simp, by simp, by simp, by simp⟩⟩
theorem Tl.one (w : World) (s : Str) : Tl (w.alloc (.cells #[.string ⟨s.toArray⟩] 9)) (.slice (some ⟨w.heap.size, 0, none⟩) 1 1) [s] := by
  refine ⟨_, 1, rfl, by simp, by omega, (fun h => by cases h), Or.inr ⟨w.heap.size, 0, rfl, fun i x hx => ?_⟩⟩
  rw [Nat.zero_add, cell_of_row _ _ _ _ _ _ (alloc_new w _)]
  cases i with
  | zero => simp at hx; subst hx; rfl
  | succ i => simp at hx
set_option maxRecDepth 20000 in
/-- slices.Clone. -/
theorem clone_any (v : Value) (l : List Str) (w : World) (h : Tl w v l) (hb : l.length * 16 ≤ 140737488355328) :
    Calls Try.prog 34 #[v] w fun e w' => ∃ v', e = .returned v' ∧ To w' w.heap.size v' l ∧ Fr (fun _ => False) w w' := by
  have q : ∀ (w : World) (a : Option Addr) (n c n' c' : Nat), (binOp .eql 23 (.slice a n c) (.slice none n' c')).run Try.prog w = .ok (.bool a.isNone) w := fun w a n c n' c' => Lib.run_eql_slice_nil w _ _ a n c n' c' Try.underlying23
  have hH : Hidden (Tl w v l) := h
  have hbH : Hidden ((0 + l.length) * 16 ≤ 140737488355328) := by show _ ≤ _; omega
  obtain ⟨ao, cap, rfl, h1, h2, h3, h4⟩ := h
  cases ao with
  | none =>
    obtain rfl := h3 rfl
    obtain rfl : l = [] := List.eq_nil_of_length_eq_zero (by omega)
    clear h3 h4 hb hbH hH h1 h2
    show Calls Try.prog 34 #[.slice none 0 0] w _
    go_enter Try.func34, Try.ntmps34
    go_wp2
    go_ret
    exact ⟨_, rfl, To.nil _ _, Fr.refl _ _⟩
  | some a =>
    obtain ⟨n, hn⟩ : ∃ n, l.length = n := ⟨_, rfl⟩
    rw [hn] at hH h1 ⊢
    clear h3 h4 hb hn
    go_enter Try.func34, Try.ntmps34
    go_wp2_with (at_builtin; refine wpList_app rfl _ _ rfl w.heap.size _ _ [] l rfl (To.empty w _ (Nat.le_refl _)) rfl (Tl.later hH (Fr.alloc _ _ _)) (by simp) hbH ?_; intro v1 w1 ht1 hf1 _)
    go_ret
    refine ⟨v1, rfl, ht1, (Fr.alloc _ _ _).over hf1 fun k hk => ?_⟩
    have : some w.heap.size = some k := hk
    have := Option.some.inj this
    omega

theorem sorted_is {ss l : List Str} (hp : ss.Perm l) (hl : SS l) : ss.mergeSort (fun x y => decide (x ≤ y)) = l := by
  have e : ss.mergeSort leB = l.mergeSort leB := mergeSort_of_perm hp
  have e2 : l.mergeSort leB = l := by
    refine List.mergeSort_of_pairwise (le := leB) ?_
    exact List.Pairwise.imp (fun {a b} (h : a < b) => by simp only [leB, decide_eq_true_eq]; exact Std.le_of_lt h) hl
  exact e.trans e2
theorem keys_perm {H : Type} {R : Value → Option (DataW H × List MemPlace)} {w : World} {b n : Nat} {D : DataW H} (hown : w.ownsMap Try.prog 9 R b n D) {l ss : List Str} (hl : SS l) (hm : ∀ x : Str, Maps.has D (.string x) = decide (x ∈ l)) (hp : ss.Perm (strKeys D)) : ss.Perm l := by
  obtain ⟨es, hD, hpw, _⟩ := hown.entries SK
  obtain ⟨es', hD', hko⟩ := hown.keysOf
  obtain rfl : es = es' := by rw [hD] at hD'; simpa using hD'
  subst hD
  have := perm_strKeys hpw (fun p hp => by obtain ⟨v, hv⟩ := hko p hp; obtain ⟨x, _, hx, _⟩ := Maps.keyOf_str Try.underlying9 hv; exact ⟨x, hx⟩) (nodup_of_ss hl) (fun x => by rw [hm x]; simp)
  exact hp.trans this.symm
theorem sorts (m : Nat) : AnyZ.SortsIn Try.prog Try.sorted32_ren Fence.wide m :=
  ⟨fun blk off cap ss W hH hblk hsz => callsIn_wide.2 (Try.slices_Sort_string blk off cap ss W hH hblk hsz), fun p cap W => callsIn_wide.2 (Try.slices_Sort_string_none p cap W)⟩
theorem of_below {w W : World} (h : Below w.heap.size w W) : Fr (fun _ => False) w W := ⟨h.os, h.output, h.size, fun k hk _ => h.block k hk⟩

/-- maps.Keys, of the graph. -/
theorem gkeys (mb : Option Nat) (W : World) : Calls Try.prog 33 #[.map mb] W fun e w' => e = .returned (.func (.func 62) #[] #[.pointer (some ⟨W.heap.size, 0, none⟩)]) ∧ w' = W.alloc (.cells #[.map mb] 52) :=
  (callsIn_wide (n := 5)).1 (AnyZ.keys_in Try.keys33 Fence.wide 5 trivial rfl mb W)
set_option maxHeartbeats 1000000 in
theorem gsorted {H : Type} (b nn : Nat) (D0 : DataW H) (R : Value → Option (DataW H × List MemPlace)) (w : World) (hown : w.ownsMap Try.prog 9 R b nn D0) (hn : nn ≤ 1099511627776) (l : List Str) (hl : SS l) (hm : ∀ x : Str, Maps.has D0 (.string x) = decide (x ∈ l)) :
    Calls Try.prog 32 #[.func (.func 62) #[] #[.pointer (some ⟨w.heap.size, 0, none⟩)]] (w.alloc (.cells #[.map (some b)] 52)) fun e w' => ∃ v, e = .returned v ∧ To w' w.heap.size v l ∧ Fr (fun _ => False) w w' := by
  have hbl := hown.lt
  have hsz : Maps.size D0 ≤ 1099511627776 := Nat.le_trans hown.size_le hn
  have hseq : SeqGives Fence.wide 2 Try.prog 62 #[.pointer (some ⟨w.heap.size, 0, none⟩)] encStr (fun ss => ss.Perm (strKeys D0)) (Maps.size D0) (w.alloc (.cells #[.map (some b)] 52)) :=
    AnyZ.keys_gives (ρ := Try.keys33_ren) { Try.keys33 with } Fence.wide _ trivial rfl (by omega) w.heap.size b nn D0 _ (by simp) (by simp) (by
      obtain ⟨es, clock, hb, Ft, hs, hD⟩ := hown
      exact ⟨es, clock, (Below.heap_alloc _ _ b hbl).trans hb, Ft, hs, hD⟩)
  have h := AnyZ.sorted_in Try.sorted32 Fence.wide 5 trivial trivial trivial trivial rfl (by omega) (sorts _) (enters_of Try.func61 (by kernel_rfl) rfl) 62 #[.pointer (some ⟨w.heap.size, 0, none⟩)] trivial (enters_of Try.func62 (by kernel_rfl) rfl) _ _ (by unfold maxLen; omega) (by omega) _ hseq
  refine ((callsIn_wide (n := 5)).1 h).mono ?_
  rintro e w' ⟨v, ss, rfl, hS, hrow, hnil, hbe⟩
  have hpl := keys_perm hown hl hm hS
  rw [sorted_is hpl hl, hpl.length_eq] at hrow
  refine ⟨v, rfl, ⟨hrow.1, ?_⟩, (Fr.alloc _ _ _).same (of_below hbe)⟩
  rcases hrow.2 with k | ⟨g, cap, cur, k1, k2, k3⟩
  · exact Or.inl k
  · exact Or.inr ⟨g, cap, cur, k1, by simp at k2; omega, k3⟩

/-- maps.Keys, of a set. -/
theorem skeys (mb : Option Nat) (W : World) : Calls Try.prog 38 #[.map mb] W fun e w' => e = .returned (.func (.func 64) #[] #[.pointer (some ⟨W.heap.size, 0, none⟩)]) ∧ w' = W.alloc (.cells #[.map mb] 67) :=
  (callsIn_wide (n := 5)).1 (AnyZ.keys_in Try.keys38 Fence.wide 5 trivial rfl mb W)
set_option maxHeartbeats 1000000 in
theorem ssorted {H : Type} (b nn : Nat) (D0 : DataW H) (R : Value → Option (DataW H × List MemPlace)) (w : World) (hown : w.ownsMap Try.prog 9 R b nn D0) (hn : nn ≤ 1099511627776) (l : List Str) (hl : SS l) (hm : ∀ x : Str, Maps.has D0 (.string x) = decide (x ∈ l)) :
    Calls Try.prog 32 #[.func (.func 64) #[] #[.pointer (some ⟨w.heap.size, 0, none⟩)]] (w.alloc (.cells #[.map (some b)] 67)) fun e w' => ∃ v, e = .returned v ∧ To w' w.heap.size v l ∧ Fr (fun _ => False) w w' := by
  have hbl := hown.lt
  have hsz : Maps.size D0 ≤ 1099511627776 := Nat.le_trans hown.size_le hn
  have hseq : SeqGives Fence.wide 2 Try.prog 64 #[.pointer (some ⟨w.heap.size, 0, none⟩)] encStr (fun ss => ss.Perm (strKeys D0)) (Maps.size D0) (w.alloc (.cells #[.map (some b)] 67)) :=
    AnyZ.keys_gives (ρ := Try.keys38_ren) { Try.keys38 with } Fence.wide _ trivial rfl (by omega) w.heap.size b nn D0 _ (by simp) (by simp) (by
      obtain ⟨es, clock, hb, Ft, hs, hD⟩ := hown
      exact ⟨es, clock, (Below.heap_alloc _ _ b hbl).trans hb, Ft, hs, hD⟩)
  have h := AnyZ.sorted_in Try.sorted32 Fence.wide 5 trivial trivial trivial trivial rfl (by omega) (sorts _) (enters_of Try.func61 (by kernel_rfl) rfl) 64 #[.pointer (some ⟨w.heap.size, 0, none⟩)] trivial (enters_of Try.func64 (by kernel_rfl) rfl) _ _ (by unfold maxLen; omega) (by omega) _ hseq
  refine ((callsIn_wide (n := 5)).1 h).mono ?_
  rintro e w' ⟨v, ss, rfl, hS, hrow, hnil, hbe⟩
  have hpl := keys_perm hown hl hm hS
  rw [sorted_is hpl hl, hpl.length_eq] at hrow
  refine ⟨v, rfl, ⟨hrow.1, ?_⟩, (Fr.alloc _ _ _).same (of_below hbe)⟩
  rcases hrow.2 with k | ⟨g, cap, cur, k1, k2, k3⟩
  · exact Or.inl k
  · exact Or.inr ⟨g, cap, cur, k1, by simp at k2; omega, k3⟩

set_option maxHeartbeats 1000000 in
theorem gsorted_nil (w : World) :
    Calls Try.prog 32 #[.func (.func 62) #[] #[.pointer (some ⟨w.heap.size, 0, none⟩)]] (w.alloc (.cells #[.map none] 52)) fun e w' => ∃ v, e = .returned v ∧ To w' w.heap.size v [] ∧ Fr (fun _ => False) w w' := by
  have hseq : SeqGives Fence.wide 2 Try.prog 62 #[.pointer (some ⟨w.heap.size, 0, none⟩)] encStr (fun ss : List (List UInt8) => ss = []) 0 (w.alloc (.cells #[.map none] 52)) :=
    AnyZ.keys_gives_nil (ρ := Try.keys33_ren) { Try.keys33 with } Fence.wide _ trivial rfl w.heap.size _ (by simp) (by simp)
  have h := AnyZ.sorted_in Try.sorted32 Fence.wide 5 trivial trivial trivial trivial rfl (by omega) (sorts _) (enters_of Try.func61 (by kernel_rfl) rfl) 62 #[.pointer (some ⟨w.heap.size, 0, none⟩)] trivial (enters_of Try.func62 (by kernel_rfl) rfl) _ 0 (Nat.zero_le _) (by omega) _ hseq
  refine ((callsIn_wide (n := 5)).1 h).mono ?_
  rintro e w' ⟨v, ss, rfl, rfl, hrow, hnil, hbe⟩
  obtain rfl : v = .slice none 0 0 := hnil.2 rfl
  exact ⟨_, rfl, To.nil _ _, (Fr.alloc _ _ _).same (of_below hbe)⟩
end Go.Proofs.Ytajefmmggefbeaa.Dg
