/- Texts of ours, in one. -/
import Derived.Test.YtakkiipkmogagaaGreatFoP
import Derived.Test.YtakkiipkmogagaaGreatTyH
import Derived.Test.YtakkiipkmogagaaGreatTyH2
import Derived.Test.YtakkiipkmogagaaGreatShelf4
import Derived.Test.YtakkiipkmogagaaGreatNzC
import Derived.Shelf.SlSortCmp.NoneTotal
import Derived.Test.YtakkiipkmogagaaGreatFoQAll
import Derived.Test.YtakkiipkmogagaaGreatTrLAll
namespace Go.Proofs.YtakkiipkmogagaaGreat.Fo.Ic
open Go.RowKit Te
set_option linter.unusedSimpArgs false
set_option linter.unusedVariables false

set_option maxRecDepth 20000 in
set_option maxHeartbeats 2000000 in
theorem ptypes_any (l : List Pa) (ao : Option Addr) (cap : Nat) (w : World) (h : PaL w ao cap l) (hl : l.length ≤ 17592186044416) :
    Calls Tryz.prog 81 #[.slice ao l.length cap] w fun e w' => ∃ v, e = .returned v ∧ w'.ownsRow w.heap.size 3 1 v l.length (l.map fun p => ci p.type) ∧ Fr FN w w' := by
  have m1 := h.1
  have m2 : cap ≤ 9223372036854775807 := by have := h.2.1; unfold maxLen at this; omega
  have hH : Hidden (PaL w ao cap l) := h
  have hlH : Hidden (l.length ≤ 17592186044416) := hl
  clear h hl
  go_enter Tryz.func81, Tryz.ntmps81
  go_wp2_with fail
  go_loopg [3, 8] l.length (fun g lv iv wr => ∃ (i : Nat), iv = ci (i : Int) ∧ i ≤ l.length ∧ g = l.length - i ∧ wr.ownsRow w.heap.size 3 1 lv i ((l.take i).map fun p => ci p.type) ∧ Fr FN w wr)
  case atStart => exact ⟨0, rfl, by omega, rfl, own_nil _ _ _ _, Fr.refl _ _⟩
  case round =>
    obtain ⟨i, rfl, hi, hgk, hrow, hfr⟩ := hrel
    obtain ⟨ao2, cap2, hv, _⟩ := own_slice hrow (by decide)
    subst hv
    have hgkH : Hidden (gk = l.length - i) := hgk
    have hrowH : Hidden (wr.ownsRow w.heap.size 3 1 (.slice ao2 i cap2) i ((l.take i).map fun p => ci p.type)) := hrow
    have hfrH : Hidden (Fr FN w wr) := hfr
    clear hgk hrow
    by_cases hil : i < l.length
    · obtain ⟨p, hp⟩ : ∃ p, l[i]? = some p := ⟨l[i], List.getElem?_eq_getElem hil⟩
      obtain ⟨b, off, rfl, d0, d1⟩ : ∃ b off, ao = some ⟨b, off, none⟩ ∧ w.cell? ⟨b, off + i * 2, none⟩ = some (ct p.name) ∧ w.cell? ⟨b, off + i * 2 + 1, none⟩ = some (ci p.type) := by
        rcases (show PaL w ao cap l from hH).2.2 with h0 | ⟨b, off, e, h0⟩
        · rw [h0] at hil; simp at hil
        · exact ⟨b, off, e, h0 i p hp 0 _ rfl, h0 i p hp 1 _ rfl⟩
      replace d0 := hfr.cellN d0
      replace d1 := hfr.cellN d1
      have hts : Hidden ((l.take (i + 1)).map (fun p => ci p.type) = (l.take i).map (fun p => ci p.type) ++ [ci p.type]) := by
        show _ = _
        rw [take_snoc hp, List.map_append]; rfl
      obtain ⟨W9, hW9⟩ : ∃ W, W = (wr.alloc (.cells #[ct p.name, ci p.type] 162)).alloc (.cells #[ci p.type] 3) := ⟨_, rfl⟩
      have f9 : Fr FN wr W9 := by rw [hW9]; exact (Fr.alloc _ _ _).same (Fr.alloc _ _ _)
      have hnew : Hidden (W9.heap[wr.heap.size + 1]? = some (.cells #[ci p.type] 3 (0, 0))) := by rw [hW9]; exact alloc_at _ _ _ (by simp)
      have hrow9 : Hidden (W9.ownsRow w.heap.size 3 1 (.slice ao2 i cap2) i ((l.take i).map fun p => ci p.type)) := own_keep hrowH f9 (fun _ _ f => f)
      have g9 : Hidden (Fr FN w W9) := hfr.same f9
      have hW9H : Hidden (W9 = _) := hW9
      clear hp hW9 hfr
      go_wp2_with (at_builtin; rw [← (show W9 = _ from hW9H)]; refine wpl_append rfl _ _ 45 3 _ 1 8 Tryz.underlying45 Ty.info_int rfl (by decide) rfl w.heap.size (.slice ao2 i cap2) i _ ⟨wr.heap.size + 1, 0, none⟩ 1 1 [ci p.type] rfl hrow9 rfl rfl ?_ ?_ ?_ ?_ ?_ ?_; (focus (intro j u hu; cases j with | zero => (cases hu; exact cell_of_row _ _ 0 _ _ _ hnew) | succ j => simp at hu)); (focus (intro u hu; rw [List.mem_singleton.1 hu]; rfl)); (focus (have : l.length ≤ 17592186044416 := hlH; simp only [maxLen]; omega)); (focus (have : l.length ≤ 17592186044416 := hlH; omega)); (focus (exact (show Fr FN w W9 from g9).size)); intro v4 w4 hr4 f4 _)
      have g4 : Fr FN w w4 := (show Fr FN w W9 from g9).over f4 (fun k hk => (own_block (show W9.ownsRow _ _ 1 _ _ _ from hrow9) k hk).1)
      rw [← (show _ = _ from hts)] at hr4
      go_roundg (l.length - (i + 1))
      case measure => have : gk = l.length - i := hgkH; omega
      case rel => exact ⟨i + 1, by go_num, by omega, rfl, hr4, g4⟩
    · obtain rfl : i = l.length := by omega
      go_wp2_with fail
      go_ret
      have h1 : wr.ownsRow _ _ 1 _ _ ((l.take l.length).map fun p => ci p.type) := hrowH
      rw [List.take_length] at h1
      exact ⟨_, rfl, h1, hfrH⟩
end Go.Proofs.YtakkiipkmogagaaGreat.Fo.Ic

namespace Go.Proofs.YtakkiipkmogagaaGreat.Fo.Ic
open Go.RowKit Te
set_option linter.unusedSimpArgs false
set_option linter.unusedVariables false

theorem dropAt {α : Type} {l : List α} {j : Nat} {x : α} (h : l[j]? = some x) : l.drop j = x :: l.drop (j + 1) := by
  obtain ⟨h1, h2⟩ := List.getElem?_eq_some_iff.1 h
  rw [List.drop_eq_getElem_cons h1, h2]
def idxT (s : Bs) : List Bs → Nat → Int
  | [], _ => -1
  | x :: r, i => if x = s then (i : Int) else idxT s r (i + 1)
theorem idxT_spec (s : Bs) : ∀ (l : List Bs) (i : Nat), (s ∉ l ∧ idxT s l i = -1) ∨ (s ∈ l ∧ ∃ k : Nat, idxT s l i = ((i + k : Nat) : Int) ∧ k < l.length)
  | [], i => Or.inl ⟨by simp, rfl⟩
  | x :: r, i => by
    unfold idxT
    by_cases h : x = s
    · rw [if_pos h]
      exact Or.inr ⟨by simp [h], 0, by simp, by simp⟩
    · rw [if_neg h]
      rcases idxT_spec s r (i + 1) with ⟨h1, h2⟩ | ⟨h1, k, h2, h3⟩
      · exact Or.inl ⟨by simp [h1, Ne.symm h], h2⟩
      · exact Or.inr ⟨by simp [h1], k + 1, by rw [h2]; congr 1; omega, by simp; omega⟩
set_option maxHeartbeats 400000 in
theorem index_walk (ao : Option Addr) (n cap : Nat) (l : List Bs) (s : Bs) (R : Int) (w : World) (hn : Hidden (l.length = n)) (h1 : n ≤ cap) (h2 : cap ≤ 9223372036854775807)
    (ha : Hidden (l = [] ∨ ∃ b off, ao = some ⟨b, off, none⟩ ∧ ∀ (i : Nat) (x : Bs), l[i]? = some x → w.cell? ⟨b, off + i, none⟩ = some (ct x))) (hR : Hidden (idxT s l 0 = R)) :
    Calls Tryz.prog 113 #[.slice ao n cap, .string ⟨s.toArray⟩] w fun e w' => e = .returned (.int .i64 R) ∧ w' = w := by
  go_enter Tryz.func113, Tryz.ntmps113
  go_wp2
  go_loopg [8] n (fun k iv wr => ∃ j : Nat, iv = .int .i64 (j : Int) ∧ j ≤ n ∧ k = n - j ∧ wr = w ∧ idxT s (l.drop j) j = R)
  case atStart => exact ⟨0, rfl, by omega, rfl, rfl, hR⟩
  case round =>
    obtain ⟨j, rfl, hj, hk, rfl, hf⟩ := hrel
    have hkH : Hidden (gk = n - j) := hk
    have hn' : l.length = n := hn
    clear hk hR
    by_cases hjl : j < n
    · obtain ⟨x, hx⟩ : ∃ x, l[j]? = some x := ⟨l[j], List.getElem?_eq_getElem (by omega)⟩
      rcases (show l = [] ∨ _ from ha) with h0 | ⟨b, o, rfl, hc⟩
      · rw [h0] at hx; simp at hx
      have c1 := hc j x hx
      rw [dropAt hx, idxT] at hf
      clear hc hn' hx
      by_cases hxs : x = s
      · subst hxs
        rw [if_pos rfl] at hf
        subst hf
        go_wp2
        go_ret
        exact ⟨rfl, rfl⟩
      · rw [if_neg hxs] at hf
        have hne : (s == x) = false := beq_eq_false_iff_ne.2 (Ne.symm hxs)
        have hfH : Hidden (idxT s (l.drop (j + 1)) (j + 1) = R) := hf
        clear hf hxs
        go_wp2
        go_roundg (n - (j + 1))
        case measure => have := (show gk = n - j from hkH); omega
        case rel => exact ⟨j + 1, by go_num, by omega, rfl, rfl, hfH⟩
    · obtain rfl : j = n := by omega
      rw [List.drop_eq_nil_of_le (by omega)] at hf
      obtain rfl : -1 = R := hf
      clear hn'
      go_wp2
      go_ret
      exact ⟨rfl, rfl⟩
set_option maxHeartbeats 400000 in
theorem find_any (ao : Option Addr) (n cap : Nat) (l : List Bs) (s : Bs) (w : World) (hn : Hidden (l.length = n)) (h1 : n ≤ cap) (h2 : cap ≤ 9223372036854775807)
    (ha : Hidden (l = [] ∨ ∃ b off, ao = some ⟨b, off, none⟩ ∧ ∀ (i : Nat) (x : Bs), l[i]? = some x → w.cell? ⟨b, off + i, none⟩ = some (ct x))) :
    Calls Tryz.prog 77 #[.slice ao n cap, .string ⟨s.toArray⟩] w fun e w' => e = .returned (.tuple #[ci ((idxT s l 0).toNat : Int), .bool (decide (s ∈ l))]) ∧ w' = w := by
  have ki := index_walk ao n cap l s _ w hn h1 h2 ha rfl
  rcases idxT_spec s l 0 with ⟨e1, e2⟩ | ⟨e1, k, e2, _⟩
  · rw [e2] at ki
    rw [decide_eq_false e1, e2]
    clear e1 e2 ha hn
    go_enter Tryz.func77, Tryz.ntmps77
    go_wp2_with (go_at_call 113; refine ki.mono ?_; rintro e w' ⟨rfl, rfl⟩)
    go_ret2
    exact ⟨rfl, rfl⟩
  · rw [Nat.zero_add] at e2
    rw [e2] at ki
    rw [decide_eq_true e1, e2]
    clear e1 e2 ha hn
    go_enter Tryz.func77, Tryz.ntmps77
    go_wp2_with (go_at_call 113; refine ki.mono ?_; rintro e w' ⟨rfl, rfl⟩)
    go_ret2
    refine ⟨?_, rfl⟩
    have : max (k : Int) 0 = k := by omega
    simp [this]
/-- The place of the first interface of a name. -/
def idxF (s : Bs) : List Ty.Fc → Nat → Int
  | [], _ => -1
  | f :: r, i => if f.name = s then (i : Int) else idxF s r (i + 1)
def givenS (l : List Ty.Fc) (s : Bs) : Option Ty.Fc := l.find? fun f => f.name == s
theorem idxF_spec (s : Bs) : ∀ (l : List Ty.Fc) (i : Nat), (givenS l s = none ∧ idxF s l i = -1) ∨ ∃ (k : Nat) (f : Ty.Fc), l[k]? = some f ∧ f.name = s ∧ idxF s l i = ((i + k : Nat) : Int) ∧ givenS l s = some f
  | [], i => Or.inl ⟨rfl, rfl⟩
  | x :: r, i => by
    unfold idxF givenS
    rw [List.find?_cons]
    by_cases h : x.name = s
    · rw [if_pos h]
      exact Or.inr ⟨0, x, rfl, h, by simp, by simp [h]⟩
    · rw [if_neg h, show (x.name == s) = false by simpa using h]
      rcases idxF_spec s r (i + 1) with ⟨h1, h2⟩ | ⟨k, f, h1, h2, h3, h4⟩
      · exact Or.inl ⟨h1, h2⟩
      · exact Or.inr ⟨k + 1, f, by simpa using h1, h2, by rw [h3]; congr 1; omega, h4⟩
set_option maxHeartbeats 400000 in
theorem named_is (n s : Bs) (v : Value) (G : Nat) (w : World) (hG : w.cell? ⟨G, 0, none⟩ = some (ct s)) :
    Calls Tryz.prog 79 #[.agg #[ct n, v], .pointer (some ⟨G, 0, none⟩)] w fun e w' => e = .returned (.bool (decide (n = s))) ∧ Fr FN w w' := by
  have f0 := Fr.alloc FN w (.cells #[ct n, v] 25)
  replace hG := f0.cellN hG
  have e : decide (n = s) = (n == s) := by by_cases h : n = s <;> simp [h]
  rw [e]
  go_enter Tryz.func79, Tryz.ntmps79
  go_wp2_with fail
  go_ret
  exact ⟨rfl, f0⟩
set_option maxHeartbeats 1000000 in
theorem ifunc_any (ao : Option Addr) (n cap : Nat) (l : List Ty.Fc) (s : Bs) (G : Nat) (R : Int) (w : World) (hn : Hidden (l.length = n)) (h1 : n ≤ cap) (h2 : cap ≤ 9223372036854775807)
    (ha : Hidden (l = [] ∨ ∃ b off, ao = some ⟨b, off, none⟩ ∧ ∀ (i : Nat) (x : Ty.Fc), l[i]? = some x → LayF w b (off + i * 2) x)) (hG : w.cell? ⟨G, 0, none⟩ = some (ct s)) (hR : Hidden (idxF s l 0 = R)) :
    Calls Tryz.prog 78 #[.slice ao n cap, .func (.func 79) #[] #[.pointer (some ⟨G, 0, none⟩)]] w fun e w' => e = .returned (.int .i64 R) ∧ Fr FN w w' := by
  have hGH : Hidden (w.cell? ⟨G, 0, none⟩ = some (ct s)) := hG
  clear hG
  go_enter Tryz.func78, Tryz.ntmps78
  go_wp2
  go_loopg [5, 8] n (fun k _ iv wr => ∃ j : Nat, iv = .int .i64 (j : Int) ∧ j ≤ n ∧ k = n - j ∧ Fr FN w wr ∧ idxF s (l.drop j) j = R)
  case atStart => exact ⟨0, rfl, by omega, rfl, Fr.refl _ _, hR⟩
  case round =>
    obtain ⟨j, rfl, hj, hk, hf, hd⟩ := hrel
    have hkH : Hidden (gk = n - j) := hk
    have hfH : Hidden (Fr FN w wr) := hf
    have hn' : l.length = n := hn
    clear hk hR
    by_cases hjl : j < n
    · obtain ⟨x, hx⟩ : ∃ x, l[j]? = some x := ⟨l[j], List.getElem?_eq_getElem (by omega)⟩
      obtain ⟨b, off, ai, ic, rfl, hit, c0, c1⟩ := FcL_at (show l = [] ∨ _ from ha) hx
      replace c0 := hf.cellN c0
      replace c1 := hf.cellN c1
      have kp := named_is x.name s (.slice ai x.items.length ic) G wr (hf.cellN hGH)
      have hltz : (j : Int) < (n : Int) := by omega
      rw [dropAt hx, idxF] at hd
      clear hn' hx hf hit
      by_cases hpx : x.name = s
      · rw [if_pos hpx] at hd
        subst hd
        rw [decide_eq_true hpx] at kp
        clear hpx
        go_wp2_with fail
        refine kp.mono ?_
        rintro e w1 ⟨rfl, f1⟩
        have f1H : Hidden (Fr FN wr w1) := f1
        clear f1
        go_wp2
        go_ret
        exact ⟨rfl, Fr.same hfH f1H⟩
      · rw [if_neg hpx] at hd
        rw [decide_eq_false hpx] at kp
        have hdH : Hidden (idxF s (l.drop (j + 1)) (j + 1) = R) := hd
        clear hd hpx
        go_wp2_with fail
        refine kp.mono ?_
        rintro e w1 ⟨rfl, f1⟩
        have f1H : Hidden (Fr FN wr w1) := f1
        clear f1
        go_wp2
        go_roundg (n - (j + 1))
        case measure => have := (show gk = n - j from hkH); omega
        case rel => exact ⟨j + 1, by go_num, by omega, rfl, Fr.same hfH f1H, hdH⟩
    · obtain rfl : j = n := by omega
      rw [List.drop_eq_nil_of_le (by omega)] at hd
      obtain rfl : -1 = R := hd
      clear hn'
      go_wp2
      go_ret
      exact ⟨rfl, hfH⟩
/-- The interfaces of imports, each once, in their order; none: one is not given, or is not right. -/
def impGo (l : List Ty.Fc) : List Bs → List Bs → List Ty.Fc → Option (List Ty.Fc)
  | [], _, acc => some acc
  | n :: r, done, acc => if n ∈ done then impGo l r (done ++ [n]) acc else match givenS l n with
    | none => none
    | some f => if Ty.rightF f ≠ 0 then none else impGo l r (done ++ [n]) (acc ++ [f])
def impS (l : List Ty.Fc) (imps : List Bs) : Option (List Ty.Fc) := impGo l imps [] []
end Go.Proofs.YtakkiipkmogagaaGreat.Fo.Ic

namespace Go.Proofs.YtakkiipkmogagaaGreat.Fo.Ic
open Go.RowKit Te
set_option linter.unusedSimpArgs false
set_option linter.unusedVariables false

theorem wpl_one {α : Type} {R : α → List Value → Prop} {w : World} {ops : Array Oper} {rest : List Oper} {o : Oper} {a : Act} {Q : Exit → Act → World → Prop} (hgd : o.guard = none) (s x : Operand) (ty e : TypeId) (z : Value) (size bytes : Nat)
    (hty : Tryz.prog.underlying ty = some (.slice e)) (hinfo : (Tryz.prog.info? e).map (fun i => (i.zero, i.size, i.bytes)) = some (some z, size, bytes)) (hzs : z.cells.size = size) (hsz : 0 < size)
    (ho : o.op = .call { callee := .builtin .append, args := #[s, x], argTypes := #[ty, ty] }) (B : Nat) (v : Value) (l : List α) (c : α) (cs : List Value) (g : Nat) (t : TypeId)
    (hs : a.eval s = v) (hr : Rw.Row R e size w B v l) (hx : a.eval x = .slice (some ⟨g, 0, none⟩) 1 1) (hlen : cs.length = size) (hR : R c cs) (hy : w.heap[g]? = some (.cells cs.toArray t (0, 0))) (h1 : ∀ u ∈ cs, u.oneCell' = true)
    (hm : l.length + 1 ≤ maxLen) (hb : (l.length + 1) * bytes ≤ 140737488355328) (hB : B ≤ w.heap.size)
    (h : ∀ v' w', Rw.Row R e size w' B v' (l ++ [c]) → Fr (fun b => v.ownBlock = some b) w w' → (v'.ownBlock = v.ownBlock ∨ v'.ownBlock = some w.heap.size) → wpList Tryz.prog ops Q rest (a.put o.dst v') w') : wpList Tryz.prog ops Q (o :: rest) a w := by
  obtain ⟨cells, hr1, hr2⟩ := hr
  refine wpl_append hgd s x ty e z size bytes hty hinfo hzs hsz ho B v l.length cells ⟨g, 0, none⟩ 1 1 cs hs hr1 hx (by omega) ?_ h1 hm hb hB ?_
  · intro j u hu
    rw [Addr.add_lit, Nat.zero_add, cell_of_row w g j cs.toArray t (0, 0) hy]
    simpa using hu
  · intro v' w' h1 h2 h3
    exact h v' w' ⟨cells ++ cs, by rw [List.length_append]; exact h1, hr2.app ⟨cs, [], by simp, hlen, hR, rfl⟩⟩ h2 h3
/-- An interface of a row, whose items are those of a world. -/
def RF (W : World) (f : Ty.Fc) (cs : List Value) : Prop := ∃ ai ic, Ty.ItL W ai ic f.items ∧ cs = [ct f.name, .slice ai f.items.length ic]
theorem info_if : (Tryz.prog.info? 25).map (fun i => (i.zero, i.size, i.bytes)) = some (some (.agg #[.string ⟨#[]⟩, .slice none 0 0]), 2, 40) := by kernel_rfl
theorem if_none (W w : World) (B : Nat) : Rw.Row (RF W) 25 2 w B (.slice none 0 0) [] := ⟨[], ⟨by simp, Or.inl ⟨rfl, rfl⟩⟩, rfl⟩
set_option maxRecDepth 20000 in
set_option maxHeartbeats 4000000 in
theorem imported_any (imps : List Bs) (ao : Option Addr) (cap : Nat) (l : List Ty.Fc) (bo : Option Addr) (bc : Nat) (w : World) (h1 : SvL w ao cap imps) (h2 : l.length ≤ bc) (h3 : bc ≤ maxLen)
    (h4 : Hidden (l = [] ∨ ∃ b off, bo = some ⟨b, off, none⟩ ∧ ∀ (i : Nat) (x : Ty.Fc), l[i]? = some x → LayF w b (off + i * 2) x)) (hokl : ∀ f ∈ l, Ty.OkN f.name ∧ ∀ i ∈ f.items, Ty.OkI i) (hb : imps.length ≤ 16) (R : Option (List Ty.Fc)) (hR : Hidden (impS l imps = R)) :
    Calls Tryz.prog 48 #[.slice ao imps.length cap, .slice bo l.length bc] w fun e w' => ∃ v, e = .returned (.tuple #[v, .bool R.isSome]) ∧ (∀ g, R = some g → Rw.Row (RF w) 25 2 w' w.heap.size v g) ∧ Fr FN w w' := by
  have m1 := h1.1
  have m2 : cap ≤ 9223372036854775807 := by have := h1.2.1; unfold maxLen at this; omega
  have m3 : bc ≤ 9223372036854775807 := by unfold maxLen at h3; omega
  have h1H : Hidden (SvL w ao cap imps) := h1
  have hoklH : Hidden (∀ f ∈ l, Ty.OkN f.name ∧ ∀ i ∈ f.items, Ty.OkI i) := hokl
  have hbH : Hidden (imps.length ≤ 16) := hb
  clear h1 hokl h3 hb
  go_enter Tryz.func48, Tryz.ntmps48
  go_wp2_with fail
  go_loopg [6, 14] imps.length (fun g lv iv wr => ∃ (i : Nat) (acc : List Ty.Fc), iv = ci (i : Int) ∧ i ≤ imps.length ∧ g = imps.length - i ∧ acc.length ≤ i ∧ impGo l (imps.drop i) (imps.take i) acc = R ∧ Rw.Row (RF w) 25 2 wr w.heap.size lv acc ∧ Fr FN w wr)
  case atStart => exact ⟨0, [], rfl, by omega, rfl, by simp, hR, if_none _ _ _, Fr.refl _ _⟩
  case round =>
    obtain ⟨i, acc, rfl, hi, hgk, hac, hgo, hrow, hfr⟩ := hrel
    obtain ⟨ao2, cap2, hv, _⟩ := hrow.slice
    subst hv
    have hgkH : Hidden (gk = imps.length - i) := hgk
    have hrowH : Hidden (Rw.Row (RF w) 25 2 wr w.heap.size (.slice ao2 acc.length cap2) acc) := hrow
    have hfrH : Hidden (Fr FN w wr) := hfr
    clear hgk hrow
    by_cases hil : i < imps.length
    · obtain ⟨x, hx⟩ : ∃ x, imps[i]? = some x := ⟨imps[i], List.getElem?_eq_getElem hil⟩
      obtain ⟨b, off, rfl, hcs⟩ : ∃ b off, ao = some ⟨b, off, none⟩ ∧ ∀ (j : Nat) (y : Bs), imps[j]? = some y → w.cell? ⟨b, off + j, none⟩ = some (ct y) := by
        rcases (show SvL w ao cap imps from h1H).2.2 with h0 | ⟨b, off, e, h0⟩
        · rw [h0] at hil; simp at hil
        · exact ⟨b, off, e, h0⟩
      have d0 := hfr.cellN (hcs i x hx)
      have hic : i ≤ cap := by omega
      have hi0 : (0 : Int) ≤ (i : Int) := by omega
      have hi1 : (i : Int) ≤ (cap : Int) := by omega
      have kf : ∀ u, Fr FN w u → Calls Tryz.prog 77 #[.slice (some ⟨b, off, none⟩) i cap, .string ⟨x.toArray⟩] u fun e w' => e = .returned (.tuple #[ci ((idxT x (imps.take i) 0).toNat : Int), .bool (decide (x ∈ imps.take i))]) ∧ w' = u := fun u hu =>
        find_any (some ⟨b, off, none⟩) i cap (imps.take i) x u (by show _ = _; rw [List.length_take]; omega) (by omega) m2 (by
          right
          refine ⟨b, off, rfl, fun j y hy => hu.cellN (hcs j y ?_)⟩
          rw [List.getElem?_take] at hy
          split at hy
          · exact hy
          · cases hy)
      rw [dropAt hx] at hgo
      unfold impGo at hgo
      have htk : imps.take i ++ [x] = imps.take (i + 1) := (take_snoc hx).symm
      rw [htk] at hgo
      have hgoH : Hidden (_ = R) := hgo
      have fa := Fr.alloc FN wr (.cells #[ct x] 9)
      have kI : ∀ u, Fr FN (wr.alloc (.cells #[ct x] 9)) u → Calls Tryz.prog 78 #[.slice bo l.length bc, .func (.func 79) #[] #[.pointer (some ⟨wr.heap.size, 0, none⟩)]] u fun e w' => e = .returned (.int .i64 (idxF x l 0)) ∧ Fr FN u w' := fun u hu =>
        ifunc_any bo l.length bc l x wr.heap.size _ u rfl h2 m3 (by
          rcases (show l = [] ∨ _ from h4) with h0 | ⟨b, off, e, h0⟩
          · exact Or.inl h0
          · exact Or.inr ⟨b, off, e, fun i y hy => by
              obtain ⟨ap, cp, q1, q2, q3⟩ := h0 i y hy
              have ff := (hfr.same fa).same hu
              exact ⟨ap, cp, q1.keep ff, ff.cellN q2, ff.cellN q3⟩⟩) (hu.cellN (cell_of_row _ _ 0 _ _ _ (alloc_new wr _))) rfl
      have hbx : (wr.alloc (.cells #[ct x] 9)).cell? ⟨wr.heap.size, 0, none⟩ = some (ct x) := cell_of_row _ _ 0 _ _ _ (alloc_new wr _)
      have hbxH : Hidden ((wr.alloc (.cells #[ct x] 9)).cell? ⟨wr.heap.size, 0, none⟩ = some (ct x)) := hbx
      obtain ⟨V, hV⟩ : ∃ V, V = wr.alloc (.cells #[ct x] 9) := ⟨_, rfl⟩
      have fV : Fr FN w V := by rw [hV]; exact hfr.same fa
      have fVH : Hidden (Fr FN w V) := fV
      have fwV : Hidden (Fr FN wr V) := by rw [hV]; exact fa
      rw [← hV] at kI hbx
      have hVH : Hidden (V = wr.alloc (.cells #[ct x] 9)) := hV
      have kfV : ∀ u, Fr FN V u → Calls Tryz.prog 77 #[.slice (some ⟨b, off, none⟩) i cap, .string ⟨x.toArray⟩] u fun e w' => e = .returned (.tuple #[ci ((idxT x (imps.take i) 0).toNat : Int), .bool (decide (x ∈ imps.take i))]) ∧ w' = u := fun u hu => kf u (fV.same hu)
      generalize (((idxT x (imps.take i) 0).toNat : Nat) : Int) = kq at kfV
      clear kf hcs hgo htk hV hfr fa fV
      have kI2 : ∀ u, Fr FN V u → Calls Tryz.prog 78 #[.slice bo l.length bc, .func (.func 79) #[] #[.pointer (some ⟨wr.heap.size, 0, none⟩)]] u fun e w' => e = .returned (.int .i64 (idxF x l 0)) ∧ Fr FN V w' := fun u hu => (kI u hu).mono fun _ _ ⟨q1, q2⟩ => ⟨q1, hu.same q2⟩
      clear kI
      by_cases hm : x ∈ imps.take i
      · rw [decide_eq_true hm] at kfV
        rw [Hidden, if_pos hm] at hgoH
        have hgo2 : Hidden (impGo l (imps.drop (i + 1)) (imps.take (i + 1)) acc = R) := hgoH
        clear hgoH hm kI2
        go_wp2_with fail
        rw [← (show V = _ from hVH)]
        go_region_held3 (fun w' => w'.cell? ⟨wr.heap.size, 0, none⟩ = some (ct x)) (first | (with_reducible assumption) | go_keep) (first | (go_at_call 77; (with_reducible refine Calls.mono (kfV V.drew (Fr.drew _ _)) ?_); rintro e w2 ⟨rfl, hw2⟩; rw [hw2]; clear hw2))
        go_wp2_with fail
        go_roundg (imps.length - (i + 1))
        case measure => have : gk = imps.length - i := hgkH; omega
        case rel => exact ⟨i + 1, acc, by go_num, by omega, rfl, by omega, hgo2, ((show Rw.Row (RF w) _ 2 wr _ _ _ from hrowH).keep fwV (fun _ _ f => f)).keep (Fr.drew FN V) (fun _ _ f => f), (show Fr FN w V from fVH).same (Fr.drew _ _)⟩
      · rw [decide_eq_false hm] at kfV
        rw [Hidden, if_neg hm] at hgoH
        clear hm
        rcases idxF_spec x l 0 with ⟨hg0, e0⟩ | ⟨k, f, hk, hfn, e0, hg0⟩
        · rw [e0] at kI2
          rw [hg0] at hgoH
          obtain rfl : none = R := hgoH
          clear hg0 e0 hR
          go_wp2_with fail
          rw [← (show V = _ from hVH)]
          go_region_held3 (fun w' => w'.cell? ⟨wr.heap.size, 0, none⟩ = some (ct x)) (first | (with_reducible assumption) | go_keep) (first | (go_at_call 77; (with_reducible refine Calls.mono (kfV V.drew (Fr.drew _ _)) ?_); rintro e w2 ⟨rfl, hw2⟩; rw [hw2]; clear hw2))
          go_wp2_with (go_at_call 78; refine Calls.mono (kI2 V.drew (Fr.drew _ _)) ?_; rintro e w3 ⟨rfl, f3⟩)
          go_ret2
          exact ⟨_, rfl, (fun g hg => nomatch hg), (show Fr FN w V from fVH).same f3⟩
        · rw [Nat.zero_add] at e0
          rw [e0] at kI2
          rw [hg0] at hgoH
          have hkl : k < l.length := (List.getElem?_eq_some_iff.1 hk).1
          obtain ⟨b2, off2, ai, ic, rfl, hit, c0, c1⟩ := FcL_at (show l = [] ∨ _ from h4) hk
          have hof := (show ∀ f ∈ l, Ty.OkN f.name ∧ ∀ i ∈ f.items, Ty.OkI i from hoklH) f (List.mem_of_getElem? hk)
          have kr : ∀ u, Fr FN V u → Calls Tryz.prog 12 #[.agg #[ct f.name, .slice ai f.items.length ic]] u fun e w' => e = .returned (ci (Ty.rightF f)) ∧ Fr FN V w' := fun u hu => (Ty.rightIface_any f _ u ⟨ai, ic, rfl, hit.keep ((show Fr FN w V from fVH).same hu)⟩ hof.1 hof.2).mono fun _ _ ⟨q1, q2⟩ => ⟨q1, hu.same q2⟩
          replace c0 := (show Fr FN w V from fVH).cellN c0
          replace c1 := (show Fr FN w V from fVH).cellN c1
          have hitH : Hidden (Ty.ItL w ai ic f.items) := hit
          have hk0 : (0 : Int) ≤ (k : Int) := by omega
          have hk1 : (k : Int) < (l.length : Int) := by omega
          have hgo3 : (if Ty.rightF f ≠ 0 then none else impGo l (imps.drop (i + 1)) (imps.take (i + 1)) (acc ++ [f])) = R := hgoH
          generalize Ty.rightF f = rf at kr hgo3
          clear hgoH hg0 e0 hof hit hk hfn
          by_cases hrf : rf = 0
          · subst hrf
            rw [if_neg (by simp)] at hgo3
            have hgo2 : Hidden (impGo l (imps.drop (i + 1)) (imps.take (i + 1)) (acc ++ [f]) = R) := hgo3
            clear hgo3
            go_wp2_with fail
            rw [← (show V = _ from hVH)]
            go_region_held3 (fun w' => w'.cell? ⟨wr.heap.size, 0, none⟩ = some (ct x)) (first | (with_reducible assumption) | go_keep) (first | (go_at_call 77; (with_reducible refine Calls.mono (kfV V.drew (Fr.drew _ _)) ?_); rintro e w2 ⟨rfl, hw2⟩; rw [hw2]; clear hw2))
            go_wp2_with (first
              | (go_at_call 78; refine Calls.mono (kI2 V.drew (Fr.drew _ _)) ?_; rintro e w3 ⟨rfl, f3⟩; have p0 := f3.cellN c0; have p1 := f3.cellN c1)
              | (go_at_call 12; have f3' := f3; refine Calls.mono (kr _ f3') ?_; rintro e w4 ⟨rfl, f4⟩; have r0 := f4.cellN c0; have r1 := f4.cellN c1; have fwr4 : Fr FN wr w4 := (show Fr FN wr V from fwV).same f4; have hrow4 : Hidden (Rw.Row (RF w) 25 2 (w4.alloc (.cells [ct f.name, .slice ai f.items.length ic].toArray 25 (0, 0))) w.heap.size (.slice ao2 acc.length cap2) acc) := (show Rw.Row (RF w) _ 2 wr _ _ _ from hrowH).keep (fwr4.same (Fr.alloc _ _ _)) (fun _ _ f => f); have fw4 : Hidden (Fr FN w w4) := (show Fr FN w V from fVH).same f4)
              | (at_builtin; have hrow4' := hrow4; refine wpl_one (R := RF w) rfl _ _ 89 25 _ 2 40 Tryz.underlying89 info_if rfl (by decide) rfl w.heap.size (.slice ao2 acc.length cap2) acc f [ct f.name, .slice ai f.items.length ic] w4.heap.size 25 rfl hrow4' rfl rfl ⟨ai, ic, hitH, rfl⟩ (alloc_new _ _) ?_ ?_ ?_ ?_ ?_; (focus (intro u hu; simp only [List.mem_cons, List.not_mem_nil, or_false] at hu; rcases hu with rfl | rfl <;> rfl)); (focus (simp only [maxLen]; have : imps.length ≤ 16 := hbH; omega)); (focus (have : imps.length ≤ 16 := hbH; omega)); (focus (have := (show Fr FN w w4 from fw4).size; simp; omega)); intro v5 w5 hr5 f5 _))
            have g5 : Fr FN w w5 := ((show Fr FN w w4 from fw4).same (Fr.alloc _ _ _)).over f5 (fun k hk => (Rw.Row.low (show Rw.Row (RF w) _ 2 _ _ _ _ from hrow4) k hk).1)
            go_roundg (imps.length - (i + 1))
            case measure => have : gk = imps.length - i := hgkH; omega
            case rel => exact ⟨i + 1, acc ++ [f], by go_num, by omega, rfl, by simp; omega, hgo2, hr5, g5⟩
          · rw [if_pos (by simpa using hrf)] at hgo3
            subst hgo3
            have b1 : (rf != 0) = true := by simpa using hrf
            clear hR hrf
            go_wp2_with fail
            rw [← (show V = _ from hVH)]
            go_region_held3 (fun w' => w'.cell? ⟨wr.heap.size, 0, none⟩ = some (ct x)) (first | (with_reducible assumption) | go_keep) (first | (go_at_call 77; (with_reducible refine Calls.mono (kfV V.drew (Fr.drew _ _)) ?_); rintro e w2 ⟨rfl, hw2⟩; rw [hw2]; clear hw2))
            go_wp2_with (first
              | (go_at_call 78; refine Calls.mono (kI2 V.drew (Fr.drew _ _)) ?_; rintro e w3 ⟨rfl, f3⟩; have p0 := f3.cellN c0; have p1 := f3.cellN c1)
              | (go_at_call 12; have f3' := f3; refine Calls.mono (kr _ f3') ?_; rintro e w4 ⟨rfl, f4⟩))
            go_ret2
            exact ⟨_, rfl, (fun g hg => nomatch hg), (show Fr FN w V from fVH).same f4⟩
    · obtain rfl : i = imps.length := by omega
      rw [List.drop_length] at hgo
      unfold impGo at hgo
      subst hgo
      go_wp2_with fail
      go_ret2
      exact ⟨_, rfl, fun g hg => by cases hg; exact hrowH, hfrH⟩
end Go.Proofs.YtakkiipkmogagaaGreat.Fo.Ic

namespace Go.Proofs.YtakkiipkmogagaaGreat.Fo.Ic
open Go.RowKit Te Go.Sort Go.Shelf
set_option linter.unusedSimpArgs false
set_option linter.unusedVariables false

/-- An item, and where its parameters lie. -/
abbrev IV := Ty.It × Option Addr × Nat
abbrev encI (x : IV) : List Value := [ci x.1.kind, ct x.1.name, ci x.1.typ, .int .u64 x.1.bits, .slice x.2.1 x.1.params.length x.2.2]
def RP (x : IV) (cs : List Value) : Prop := cs = encI x
abbrev cfI (x y : IV) : Int := U.cmpS x.1.name y.1.name
theorem cmpS_neg (a b : Bs) : U.cmpS a b < 0 ↔ a < b := by
  unfold U.cmpS
  by_cases h : a < b
  · simp [h]
  · rw [if_neg h]
    by_cases g : b < a
    · simp [g, h]
    · simp [g, h]
theorem ltI (x y : IV) : ltOf cfI x y = decide (x.1.name < y.1.name) := by
  unfold ltOf
  exact decide_eq_decide.2 (cmpS_neg _ _)
theorem swoI : SWO (ltOf cfI) where
  irrefl x := by rw [ltI]; simp [Std.lt_irrefl]
  trans x y z h1 h2 := by
    rw [ltI, decide_eq_true_iff] at *
    exact Std.lt_trans h1 h2
  ntrans x y z h1 h2 := by
    rw [ltI, decide_eq_false_iff_not] at *
    intro h3
    rcases Std.lt_trichotomy x.1.name y.1.name with q | q | q
    · exact h1 q
    · rw [← q] at h2; exact h2 h3
    · exact h2 (Std.lt_trans q h3)
set_option maxHeartbeats 1000000 in
theorem closure_any (x y : IV) (W : World) : Calls Tryz.prog 83 #[.agg (encI x).toArray, .agg (encI y).toArray] W fun e w' => e = .returned (.int .i64 (cfI x y)) ∧ ∃ q os', w' = grow (W.drewN q) os' := by
  obtain ⟨⟨k1, n1, t1, b1, p1⟩, a1, c1⟩ := x
  obtain ⟨⟨k2, n2, t2, b2, p2⟩, a2, c2⟩ := y
  show Calls Tryz.prog 83 #[.agg #[ci k1, ct n1, ci t1, .int .u64 b1, .slice a1 p1.length c1], .agg #[ci k2, ct n2, ci t2, .int .u64 b2, .slice a2 p2.length c2]] W fun e w' => e = .returned (.int .i64 (U.cmpS n1 n2)) ∧ ∃ q os', w' = grow (W.drewN q) os'
  have hcon := fun W' => U.cmp_any n1 n2 _ rfl W'
  generalize U.cmpS n1 n2 = r at hcon ⊢
  go_enter Tryz.func83, Tryz.ntmps83
  go_wp2_with (go_at_call 34; refine (hcon _).mono ?_; rintro e w' ⟨rfl, rfl⟩)
  go_ret
  exact ⟨rfl, 0, _, by rw [alloc_eq_grow, alloc_eq_grow, grow_grow]; rfl⟩
theorem itChunks : ∀ (l : List IV), Rw.Chunks RP 5 l (l.flatMap encI)
  | [] => rfl
  | c :: l => ⟨encI c, l.flatMap encI, by rw [List.flatMap_cons], rfl, rfl, itChunks l⟩
theorem chunksIt : ∀ (l : List IV) (cs : List Value), Rw.Chunks RP 5 l cs → cs = l.flatMap encI
  | [], cs, h => h
  | c :: l, cs, ⟨d, rest, e, h1, h2, h3⟩ => by
    have h2 : d = encI c := h2
    rw [e, h2, chunksIt l rest h3, List.flatMap_cons]
theorem flat_get [Inhabited IV] (l : List IV) (j : Nat) (hj : j < l.length * 5) : (l.flatMap encI)[j]? = some ((encI (l.toArray[j / 5]!))[j % 5]!) := by
  have hi : j / 5 < l.length := by omega
  have hx : l[j / 5]? = some l[j / 5] := List.getElem?_eq_getElem hi
  obtain ⟨c, h1, h2, h3⟩ := (itChunks l).get hx
  have h1 : c = encI l[j / 5] := h1
  subst h1
  have hm : j % 5 < (encI l[j / 5]).length := by have : (encI l[j / 5]).length = 5 := rfl; omega
  have := h3 (j % 5) _ (List.getElem?_eq_getElem hm)
  rw [show j / 5 * 5 + j % 5 = j by omega] at this
  rw [this]
  have e : l.toArray[j / 5]! = l[j / 5] := by rw [getElem!_pos l.toArray (j / 5) (by simpa using hi)]; simp
  rw [e, getElem!_pos (encI l[j / 5]) (j % 5) hm]
theorem holds_row [Inhabited IV] {w : World} {g : Nat} {l : List IV} {cur : Array Value} {t : TypeId} (hg : w.heap[g]? = some (.cells cur t (0, 0))) (ht : cur.toList.take (l.length * 5) = l.flatMap encI) : HoldsK encI 5 w g 0 l.toArray := by
  intro j hj
  rw [size_flatK] at hj
  have hj' : j < l.length * 5 := by simpa using hj
  refine ⟨?_, Ty.frozen_row hg _⟩
  rw [Nat.zero_add, cell_of_row w g j cur t (0, 0) hg, get_flatK _ _ _ _ hj]
  have e : cur.toList[j]? = (l.flatMap encI)[j]? := by rw [← ht, List.getElem?_take_of_lt hj']
  rw [← Array.getElem?_toList, e, flat_get l j hj']
  rfl
theorem fr_put [Inhabited IV] {w : World} {blk n : Nat} {d : Array IV} {os : Array Obj} : Fr (fun k => k = blk) w (sortWorldK encI 5 w blk 0 n d os) := by
  refine ⟨rfl, rfl, by simp [sortWorldK, putRowK], fun k hk hne => ?_⟩
  unfold sortWorldK putRowK
  rw [heap_grow_old _ _ (by simpa using hk)]
  have hne' : ¬ blk = k := fun e => hne e.symm
  simp [putRow, mapBlock, Sort.ahead, Array.getElem?_modify, hne']
theorem row_put [Inhabited IV] {w : World} {B g cap n : Nat} {l' : List IV} {cur : Array Value} {os : Array Obj} (hg : w.heap[g]? = some (.cells cur 47 (0, 0))) (hB : B ≤ g) (hcs : cur.size = cap * 5) (hlc : l'.length ≤ cap) (hcm : cap ≤ maxLen) :
    Rw.Row RP 47 5 (sortWorldK encI 5 w g 0 n l'.toArray os) B (.slice (some ⟨g, 0, none⟩) l'.length cap) l' := by
  have hh : (sortWorldK encI 5 w g 0 n l'.toArray os).heap[g]? = some (.cells (putCells id 0 (flatK encI 5 l'.toArray) cur) 47 (0, 0)) := by
    unfold sortWorldK putRowK
    rw [heap_grow_old _ _ (by simpa using lt_of_heap hg)]
    simp [putRow, mapBlock, Sort.ahead, Array.getElem?_modify, hg, onCells]
  refine ⟨l'.flatMap encI, ⟨?_, Or.inr ⟨g, cap, _, rfl, hB, hh, hlc, hcm, by simp [putCells, hcs], ?_⟩⟩, itChunks _⟩
  · rw [(itChunks l').len]
  apply List.ext_getElem?
  intro i
  rw [List.getElem?_take]
  by_cases hi : i < l'.length * 5
  · rw [if_pos hi, flat_get l' i hi, Array.getElem?_toList]
    have hci : i < cur.size := by omega
    simp only [putCells, Array.getElem?_mapIdx, Array.getElem?_eq_getElem hci, Option.map_some]
    have hfs : i < (flatK encI 5 l'.toArray).size := by rw [size_flatK]; simpa using hi
    rw [if_pos ⟨Nat.zero_le _, by omega⟩, Nat.sub_zero, get_flatK _ _ _ _ (by simpa using hi)]
    rfl
  · rw [if_neg hi, List.getElem?_eq_none (by rw [(itChunks l').len]; omega)]
theorem isAgg_item (w : World) : (isAgg 47).run Tryz.prog w = .ok true w := by
  simp [isAgg, go_sem]
theorem size_item (w : World) : (Go.sizeOf 47).run Tryz.prog w = .ok 5 w := by
  simp [Go.sizeOf, go_sem]
  rfl
theorem sort_any (l : List IV) (v : Value) (B : Nat) (w : World) (h : Rw.Row RP 47 5 w B v l) (hlen : l.length ≤ 1048576) :
    Calls Tryz.prog 82 #[v, .func (.func 83) #[] #[]] w fun e w' => e = .returned (.tuple #[]) ∧ ∃ l', l'.Perm l ∧ l'.Pairwise (fun x y => ¬ y.1.name < x.1.name) ∧ Rw.Row RP 47 5 w' B v l' ∧ Fr (fun k => v.ownBlock = some k) w w' := by
  haveI : Inhabited IV := ⟨(⟨0, [], 0, 0, []⟩, none, 0)⟩
  obtain ⟨cells, h1, h2⟩ := h
  have e := chunksIt l cells h2
  have hh := h1
  rcases h1.2 with ⟨rfl, h0⟩ | ⟨g, cap, cur, rfl, hb, hg, hnc, hcm, hcs, ht⟩
  · have hl : l = [] := List.eq_nil_of_length_eq_zero h0
    have := AnyF.slices_SortFunc_none Tryz.sortItems none 0 (.func (.func 83) #[] #[]) w
    refine Calls.mono this ?_
    rintro e w' ⟨rfl, rfl⟩
    exact ⟨rfl, l, List.Perm.refl _, by rw [hl]; exact List.Pairwise.nil, ⟨cells, hh, h2⟩, Fr.refl _ _⟩
  · rw [e] at ht
    have eg : ∀ args w, (callFunc 83 args).run Tryz.prog w = .ok (.enter 83 args) w := enters_of Tryz.func83 (by kernel_rfl) rfl
    have hsz : l.toArray.size < 4611686018427387904 := by simp; omega
    have hcon := AnyQ.slices_SortFunc Tryz.sortItems 5 isAgg_item size_item encI (fun _ => rfl) (fun x v hv => by simp only [encI, List.mem_cons, List.not_mem_nil, or_false] at hv; rcases hv with rfl | rfl | rfl | rfl | rfl <;> rfl) cfI swoI 83 #[] g 0 cap l.toArray w eg (fun m os dk hdk x y => closure_any x y _) (holds_row hg ht) (lt_of_heap hg) hsz
    have hcon : Calls Tryz.prog 82 #[.slice (some ⟨g, 0, none⟩) l.toArray.size cap, .func (.func 83) #[] #[]] w _ := hcon
    rw [List.size_toArray] at hcon
    refine Calls.mono hcon ?_
    rintro e w' ⟨rfl, d', n, os, hp, hs, rfl⟩
    have hds : d'.size = l.length := by simpa using hp.1
    refine ⟨rfl, d'.toList, ?_, ?_, ?_, fr_put.mono fun k _ e => by rw [e]; rfl⟩
    · have := hp.2.2
      rw [show d'.extract 0 l.length = d' by rw [← hds]; simp, show l.toArray.extract 0 l.length = l.toArray by simp] at this
      simpa using this
    · rw [List.pairwise_iff_getElem]
      intro i j hi hj hij
      have := hs i j (Nat.zero_le _) hij (by simpa [hds] using hj)
      rw [ltI, decide_eq_false_iff_not] at this
      have hi' : i < d'.size := by simpa using hi
      have hj' : j < d'.size := by simpa using hj
      rw [getElem!_pos d' i hi', getElem!_pos d' j hj'] at this
      simpa using this
    · have := row_put (l' := d'.toList) (n := n) (os := os) hg hb hcs (by simpa [hds] using hnc) hcm
      rw [show d'.toList.length = l.length by simpa using hds] at this
      simpa using this
end Go.Proofs.YtakkiipkmogagaaGreat.Fo.Ic

namespace Go.Proofs.YtakkiipkmogagaaGreat.Fo.Ic
open Go.RowKit Te
set_option linter.unusedSimpArgs false
set_option linter.unusedVariables false

/-- The item of a declaration, with the constants that are left. -/
def itOf (d : De) (cs : List Con) : Ty.It := ⟨d.kind, d.name, d.type, if d.kind = 1 then (cs.headD zC).b else 0, d.params.map (·.type)⟩
def itemsS : List De → List Con → List Ty.It
  | [], _ => []
  | d :: r, cs => (if d.ex then [itOf d cs] else []) ++ itemsS r (if d.kind = 1 then cs.tail else cs)
def cntC (l : List De) : Nat := (l.filter fun d => d.kind == 1).length
/-- Where an item's parameters lie: in a row of the call's own, which is not the items' row. -/
def PmO (w : World) (B : Nat) (lv : Value) (x : IV) : Prop := Ty.InL w x.2.1 x.2.2 x.1.params ∧ ∀ k, (Value.slice x.2.1 x.1.params.length x.2.2).ownBlock = some k → B ≤ k ∧ k < w.heap.size ∧ lv.ownBlock ≠ some k
theorem InL_keepS {S : Nat → Prop} {w w' : World} {ao : Option Addr} {cap : Nat} {l : List Int} (h : Ty.InL w ao cap l) (hf : Fr S w w') (hn : ∀ k, (Value.slice ao l.length cap).ownBlock = some k → ¬ S k) : Ty.InL w' ao cap l := by
  obtain ⟨h1, h2, h3, h4⟩ := h
  refine ⟨h1, h2, h3, ?_⟩
  rcases h4 with h4 | ⟨b, off, rfl, h4⟩
  · exact Or.inl h4
  · exact Or.inr ⟨b, off, rfl, fun i x hx => hf.cell (h4 i x hx) (hn b rfl)⟩
theorem PmO.keep {S : Nat → Prop} {w w' : World} {B : Nat} {lv : Value} {x : IV} (h : PmO w B lv x) (hf : Fr S w w') (hn : ∀ k, B ≤ k → k < w.heap.size → lv.ownBlock ≠ some k → ¬ S k) : PmO w' B lv x :=
  ⟨InL_keepS h.1 hf fun k hk => hn k (h.2 k hk).1 (h.2 k hk).2.1 (h.2 k hk).2.2, fun k hk => ⟨(h.2 k hk).1, Nat.lt_of_lt_of_le (h.2 k hk).2.1 hf.size, (h.2 k hk).2.2⟩⟩
theorem PmO.grow {w w' : World} {B : Nat} {lv lv' : Value} {x : IV} (h : PmO w B lv x) (hf : Fr (fun b => lv.ownBlock = some b) w w') (hv : lv'.ownBlock = lv.ownBlock ∨ lv'.ownBlock = some w.heap.size) : PmO w' B lv' x := by
  obtain ⟨h1, h2⟩ := h.keep hf (fun k _ _ e q => e q)
  refine ⟨h1, fun k hk => ⟨(h2 k hk).1, (h2 k hk).2.1, fun e => ?_⟩⟩
  rcases hv with q | q
  · rw [q] at e; exact (h2 k hk).2.2 e
  · rw [q] at e
    have e : w.heap.size = k := by simpa using e
    have := (h.2 k hk).2.1
    omega
theorem cntC_drop {l : List De} {i : Nat} {d : De} (h : l[i]? = some d) : cntC (l.drop i) = (if d.kind = 1 then 1 else 0) + cntC (l.drop (i + 1)) := by
  rw [dropAt h]
  unfold cntC
  rw [List.filter_cons]
  by_cases hk : d.kind = 1
  · simp [hk]; omega
  · simp [hk]
abbrev zIt : Obj := .cells #[ci 0, .string ⟨#[]⟩, ci 0, .int .u64 0, .slice none 0 0] 47 (0, 0)
theorem five_put {w : World} {g : Nat} {a b c d e : Value} {t : TypeId} (h : w.heap[g]? = some (.cells #[a, b, c, d, e] t (0, 0))) (v0 v1 v2 v3 v4 : Value) :
    (((((w.setCell ⟨g, 0, none⟩ v0).setCell ⟨g, 1, none⟩ v1).setCell ⟨g, 2, none⟩ v2).setCell ⟨g, 3, none⟩ v3).setCell ⟨g, 4, none⟩ v4).heap[g]? = some (.cells #[v0, v1, v2, v3, v4] t (0, 0)) := Ty.set_five h v0 v1 v2 v3 v4
theorem five_at (w : World) (g : Nat) (v0 v1 v2 v3 v4 : Value) : Fr (fun k => k = g) w (((((w.setCell ⟨g, 0, none⟩ v0).setCell ⟨g, 1, none⟩ v1).setCell ⟨g, 2, none⟩ v2).setCell ⟨g, 3, none⟩ v3).setCell ⟨g, 4, none⟩ v4) :=
  ((((Fr.setCell w ⟨g, 0, none⟩ _).same (Fr.setCell _ ⟨g, 1, none⟩ _)).same (Fr.setCell _ ⟨g, 2, none⟩ _)).same (Fr.setCell _ ⟨g, 3, none⟩ _)).same (Fr.setCell _ ⟨g, 4, none⟩ _)
theorem info_it : (Tryz.prog.info? 47).map (fun i => (i.zero, i.size, i.bytes)) = some (some (.agg #[.int .i64 0, .string ⟨#[]⟩, .int .i64 0, .int .u64 0, .slice none 0 0]), 5, 64) := by kernel_rfl
/-- A row of items, read. -/
theorem row_itl {w : World} {B : Nat} {v : Value} {l : List IV} (h : Rw.Row RP 47 5 w B v l) (hp : ∀ x ∈ l, PmO w B v x) : ∃ ao cap, v = .slice ao (l.map (·.1)).length cap ∧ Ty.ItL w ao cap (l.map (·.1)) := by
  obtain ⟨cells, h1, h2⟩ := h
  obtain ⟨ao, cap, e, hnc, hcm, hnn, hl, hh⟩ := own_slice h1 (by decide)
  refine ⟨ao, cap, by rw [List.length_map]; exact e, by rw [List.length_map]; exact hnc, hcm, hnn, ?_⟩
  rcases hh with h0 | ⟨g, rfl, hB, hg, hc⟩
  · left
    rw [List.eq_nil_of_length_eq_zero h0]; rfl
  · refine Or.inr ⟨g, 0, rfl, fun i x hx => ?_⟩
    rw [List.getElem?_map] at hx
    cases hy : l[i]? with
    | none => rw [hy] at hx; cases hx
    | some y =>
      rw [hy] at hx
      simp only [Option.map_some, Option.some.injEq] at hx
      subst hx
      obtain ⟨c, r1, r2, r3⟩ := h2.get hy
      have r1 : c = encI y := r1
      subst r1
      refine ⟨y.2.1, y.2.2, (hp y (List.mem_of_getElem? hy)).1, fun j u hu => ?_⟩
      rw [Nat.zero_add]
      exact hc _ _ (r3 j u hu)
end Go.Proofs.YtakkiipkmogagaaGreat.Fo.Ic

namespace Go.Proofs.YtakkiipkmogagaaGreat.Fo.Ic
open Go.RowKit Te
set_option linter.unusedSimpArgs false
set_option linter.unusedVariables false

/-- What a round leaves: a box with the declaration's item, whose parameters lie in a row of its own. -/
def Bx (V : World) (kind : Int) (name : Bs) (typ bits : Int) (ps : List Int) (g : Nat) (po : Option Addr) (pc : Nat) (wx : World) : Prop :=
  wx.heap[g]? = some (.cells #[ci kind, ct name, ci typ, .int .u64 bits, .slice po ps.length pc] 47 (0, 0)) ∧ V.heap.size ≤ g ∧ Ty.InL wx po pc ps ∧ (∀ k, (Value.slice po ps.length pc).ownBlock = some k → V.heap.size ≤ k ∧ k < wx.heap.size ∧ k ≠ g) ∧ Fr FN V wx
theorem Bx.set {V : World} {kind : Int} {name : Bs} {typ bits : Int} {ps : List Int} {g : Nat} {po : Option Addr} {pc : Nat} {wx : World} (h : Bx V kind name typ bits ps g po pc wx) (b : Int) : Bx V kind name typ b ps g po pc (wx.setCell ⟨g, 3, none⟩ (.int .u64 b)) := by
  obtain ⟨h1, h2, h3, h4, h5⟩ := h
  have hf := Fr.setCell wx ⟨g, 3, none⟩ (.int .u64 b)
  refine ⟨heap_setCell_same wx g 3 _ _ _ h1, h2, InL_keepS h3 hf (fun k hk => (h4 k hk).2.2), fun k hk => ⟨(h4 k hk).1, Nat.lt_of_lt_of_le (h4 k hk).2.1 hf.size, (h4 k hk).2.2⟩, h5.over hf (fun k e => by have e : k = g := e; omega)⟩
theorem bx_in {w7 : World} {B : Nat} {ps : List Pa} {po : Option Addr} {pc : Nat} (o7 : w7.ownsRow B 3 1 (.slice po ps.length pc) ps.length (ps.map fun p => ci p.type)) :
    Ty.InL w7 po pc (ps.map (·.type)) ∧ ∀ k, (Value.slice po ps.length pc).ownBlock = some k → B ≤ k ∧ k < w7.heap.size := by
  have o8 : w7.ownsRow B 3 1 (.slice po ps.length pc) (ps.map (·.type)).length ((ps.map (·.type)).map ci) := by
    rw [List.length_map, List.map_map]; exact o7
  obtain ⟨ao, cap, e, h1, h2⟩ := Ty.own_ints o8
  simp only [Value.slice.injEq] at e
  obtain ⟨rfl, _, rfl⟩ := e
  exact ⟨h1, fun k hk => own_block o7 k hk⟩
theorem bx_new {V w7 : World} {B : Nat} {ps : List Pa} {po : Option Addr} {pc : Nat} {kind typ : Int} {name : Bs} (o7 : w7.ownsRow B 3 1 (.slice po ps.length pc) ps.length (ps.map fun p => ci p.type)) (hB : V.heap.size ≤ B) (f : Fr FN V w7) :
    Bx V kind name typ 0 (ps.map (·.type)) w7.heap.size po pc (w7.alloc (.cells #[ci kind, ct name, ci typ, .int .u64 0, .slice po ps.length pc] 47)) := by
  obtain ⟨h1, h2⟩ := bx_in o7
  have fa := Fr.alloc FN w7 (.cells #[ci kind, ct name, ci typ, .int .u64 0, .slice po ps.length pc] 47)
  refine ⟨by rw [List.length_map]; exact alloc_new _ _, f.size, h1.keep fa, fun k hk => ?_, f.same fa⟩
  rw [List.length_map] at hk
  have := h2 k hk
  exact ⟨by omega, by have := fa.size; omega, by omega⟩
theorem bx_old {V w7 : World} {B : Nat} {ps : List Pa} {po : Option Addr} {pc : Nat} {kind typ : Int} {name : Bs} (o7 : w7.ownsRow B 3 1 (.slice po ps.length pc) ps.length (ps.map fun p => ci p.type)) (hB : V.heap.size < B) (f : Fr FN V w7) (hz : w7.heap[V.heap.size]? = some zIt) :
    Bx V kind name typ 0 (ps.map (·.type)) V.heap.size po pc (((((w7.setCell ⟨V.heap.size, 0, none⟩ (ci kind)).setCell ⟨V.heap.size, 1, none⟩ (ct name)).setCell ⟨V.heap.size, 2, none⟩ (ci typ)).setCell ⟨V.heap.size, 3, none⟩ (.int .u64 0)).setCell ⟨V.heap.size, 4, none⟩ (.slice po ps.length pc)) := by
  obtain ⟨h1, h2⟩ := bx_in o7
  have fa := five_at w7 V.heap.size (ci kind) (ct name) (ci typ) (.int .u64 0) (.slice po ps.length pc)
  refine ⟨by rw [List.length_map]; exact five_put hz _ _ _ _ _, Nat.le_refl _, InL_keepS h1 fa (fun k hk e => ?_), fun k hk => ?_, f.over fa (fun k e => by have e : k = V.heap.size := e; omega)⟩
  · have e : k = V.heap.size := e
    rw [List.length_map] at hk
    have := h2 k hk
    omega
  · rw [List.length_map] at hk
    have := h2 k hk
    exact ⟨by omega, by have := fa.size; omega, by omega⟩
theorem bx_pm {w wr V W : World} {kind typ bits : Int} {name : Bs} {ps : List Int} {g : Nat} {po : Option Addr} {pc : Nat} {lv : Value} (hw : w.heap.size ≤ wr.heap.size) (hV : wr.heap.size ≤ V.heap.size) (hl : ∀ k, lv.ownBlock = some k → k < wr.heap.size) (h : Bx V kind name typ bits ps g po pc W) :
    PmO W w.heap.size lv (⟨kind, name, typ, bits, ps⟩, po, pc) := by
  obtain ⟨h1, h2, h3, h4, h5⟩ := h
  refine ⟨h3, fun k hk => ⟨by have := (h4 k hk).1; omega, (h4 k hk).2.1, fun e => ?_⟩⟩
  have := hl k e
  have := (h4 k hk).1
  omega
theorem it_one (x : IV) : ∀ u ∈ encI x, u.oneCell' = true := by
  intro u hu
  simp only [encI, List.mem_cons, List.not_mem_nil, or_false] at hu
  rcases hu with rfl | rfl | rfl | rfl | rfl <;> rfl
set_option maxRecDepth 20000 in
set_option maxHeartbeats 1500000 in
theorem shown_any (decls : List De) (ao : Option Addr) (cap : Nat) (cs : List Con) (bo : Option Addr) (bc : Nat) (w : World) (hd : DeL w ao cap decls) (hc : CoL w bo bc cs) (hn : cntC decls ≤ cs.length) (hlen : decls.length ≤ 64) (hp : ∀ d ∈ decls, d.params.length ≤ 8) :
    Calls Tryz.prog 51 #[.slice ao decls.length cap, .slice bo cs.length bc] w fun e w' => ∃ v its, e = .returned v ∧ its.Perm (itemsS decls cs) ∧ its.Pairwise (fun x y => ¬ y.name < x.name) ∧ (∃ ao cap, v = .slice ao its.length cap ∧ ∀ w'', Fr (fun k => k < w.heap.size) w' w'' → Ty.ItL w'' ao cap its) ∧ Fr FN w w' := by
  have m1 : cap ≤ 9223372036854775807 := by have := hd.2.1; unfold maxLen at this; omega
  have m2 : bc ≤ 9223372036854775807 := by have := hc.2.1; unfold maxLen at this; omega
  have n1 := hd.1
  have n2 := hc.1
  have hdH : Hidden (DeL w ao cap decls) := hd
  have hcH : Hidden (CoL w bo bc cs) := hc
  have hlenH : Hidden (decls.length ≤ 64) := hlen
  have hpH : Hidden (∀ d ∈ decls, d.params.length ≤ 8) := hp
  clear hd hc hlen hp
  go_enter Tryz.func51, Tryz.ntmps51
  go_wp2_with fail
  go_loopg [5, 6, 12] decls.length (fun g lv nv iv wr => ∃ (i nx : Nat) (acc : List IV), iv = ci (i : Int) ∧ nv = ci (nx : Int) ∧ i ≤ decls.length ∧ nx + cntC (decls.drop i) ≤ cs.length ∧ nx ≤ i ∧ g = decls.length - i ∧ acc.length ≤ i ∧ acc.map (·.1) ++ itemsS (decls.drop i) (cs.drop nx) = itemsS decls cs ∧ Rw.Row RP 47 5 wr w.heap.size lv acc ∧ (∀ x ∈ acc, PmO wr w.heap.size lv x) ∧ Fr FN w wr)
  case atStart => exact ⟨0, 0, [], rfl, rfl, by omega, by simpa using hn, by omega, rfl, by simp, rfl, ⟨[], ⟨by simp, Or.inl ⟨rfl, rfl⟩⟩, rfl⟩, by simp, Fr.refl _ _⟩
  case round =>
    obtain ⟨i, nx, acc, rfl, rfl, hi, hnx, hnxi, hgk, hac, heq, hrow, hpm, hfr⟩ := hrel
    obtain ⟨ao2, cap2, hv, _⟩ := hrow.slice
    subst hv
    have hgkH : Hidden (gk = decls.length - i) := hgk
    have hrowH : Hidden (Rw.Row RP 47 5 wr w.heap.size (.slice ao2 acc.length cap2) acc) := hrow
    have hpmH : Hidden (∀ x ∈ acc, PmO wr w.heap.size (.slice ao2 acc.length cap2) x) := hpm
    have hfrH : Hidden (Fr FN w wr) := hfr
    have heqH : Hidden (acc.map (·.1) ++ itemsS (decls.drop i) (cs.drop nx) = itemsS decls cs) := heq
    clear hgk hrow hpm heq
    by_cases hil : i < decls.length
    · obtain ⟨d, hx⟩ : ∃ d, decls[i]? = some d := ⟨decls[i], List.getElem?_eq_getElem hil⟩
      obtain ⟨db, doff, pv, ev, bv, rfl, hdi, hdc⟩ : ∃ b off pv ev bv, ao = some ⟨b, off, none⟩ ∧ DeI w d pv ev bv ∧ ∀ (j : Nat) (x : Value), (deC d pv ev bv)[j]? = some x → w.cell? ⟨b, off + i * 7 + j, none⟩ = some x := by
        rcases (show DeL w ao cap decls from hdH).2.2 with h0 | ⟨b, off, e, h0⟩
        · rw [h0] at hil; simp at hil
        · obtain ⟨pv, ev, bv, h1, h2⟩ := h0 i d hx
          exact ⟨b, off, pv, ev, bv, e, h1, h2⟩
      obtain ⟨p1, q1, p2, q2, p3, q3, rfl, rfl, rfl, hpl, _, _⟩ := hdi
      have d0 := hfr.cellN (hdc 0 _ rfl)
      have d1 := hfr.cellN (hdc 1 _ rfl)
      have d2 := hfr.cellN (hdc 2 _ rfl)
      have d3 := hfr.cellN (hdc 3 _ rfl)
      have d4 := hfr.cellN (hdc 4 _ rfl)
      have d5 := hfr.cellN (hdc 5 _ rfl)
      have d6 := hfr.cellN (hdc 6 _ rfl)
      simp only [Nat.add_zero] at d0
      have hp8 : d.params.length ≤ 8 := (show ∀ d ∈ decls, d.params.length ≤ 8 from hpH) d (List.mem_of_getElem? hx)
      obtain ⟨V, hV⟩ : ∃ V, V = wr.alloc (.cells #[ci d.kind, .bool d.ex, ct d.name, ci d.type, .slice p1 d.params.length q1, .slice p2 d.e.len q2, .slice p3 d.body.len q3] 59) := ⟨_, rfl⟩
      have fwV : Fr FN wr V := by rw [hV]; exact Fr.alloc _ _ _
      have hbx : V.heap[wr.heap.size]? = some (.cells #[ci d.kind, .bool d.ex, ct d.name, ci d.type, .slice p1 d.params.length q1, .slice p2 d.e.len q2, .slice p3 d.body.len q3] 59 (0, 0)) := by rw [hV]; exact alloc_new _ _
      have hbxH : Hidden (V.heap[wr.heap.size]? = some (.cells #[ci d.kind, .bool d.ex, ct d.name, ci d.type, .slice p1 d.params.length q1, .slice p2 d.e.len q2, .slice p3 d.body.len q3] 59 (0, 0))) := hbx
      obtain ⟨b0, b1, b2, b3, b4, b5, b6⟩ := ex_box hbx
      have fV : Hidden (Fr FN w V) := hfr.same fwV
      have fwVH : Hidden (Fr FN wr V) := fwV
      have hVH : Hidden (V = _) := hV
      have kP : ∀ u, Fr FN V u → Calls Tryz.prog 81 #[.slice p1 d.params.length q1] u fun e w' => ∃ v, e = .returned v ∧ w'.ownsRow u.heap.size 3 1 v d.params.length (d.params.map fun p => ci p.type) ∧ Fr FN u w' := fun u hu => ptypes_any d.params p1 q1 u (hpl.keep ((show Fr FN w V from fV).same hu)) (by omega)
      have hpt : Hidden ((d.params.map (·.type)).length = d.params.length) := by show _ = _; simp
      have hcnt := cntC_drop hx
      have hsplit : Hidden (itemsS (decls.drop i) (cs.drop nx) = (if d.ex then [itOf d (cs.drop nx)] else []) ++ itemsS (decls.drop (i + 1)) (if d.kind = 1 then (cs.drop nx).tail else cs.drop nx)) := by show _ = _; rw [dropAt hx]; rfl
      have hszV : Hidden (V.heap.size = wr.heap.size + 1) := by rw [hV]; simp [Hidden]
      clear hx hdc hpl hbx hV fwV hfr
      go_wp2_with fail
      rw [← (show V = _ from hVH)]
      clear d0 d1 d2 d3 d4 d5 d6
      go_cut [9] (fun pv wx => ∃ g po pc, pv = .pointer (some ⟨g, 0, none⟩) ∧ Bx V d.kind d.name d.type 0 (d.params.map (·.type)) g po pc wx)
      case first =>
        have nn6 := World.new_ne V _ b0
        go_region_held3 (fun w' => w'.cell? ⟨wr.heap.size, 0, none⟩ = some (ci d.kind) ∧ w'.cell? ⟨wr.heap.size, 2, none⟩ = some (ct d.name) ∧ w'.cell? ⟨wr.heap.size, 3, none⟩ = some (ci d.type) ∧ w'.cell? ⟨wr.heap.size, 4, none⟩ = some (.slice p1 d.params.length q1)) (first | (refine ⟨by with_reducible assumption, by with_reducible assumption, by with_reducible assumption, by with_reducible assumption⟩) | go_keep) (first
          | (go_at_call 81; (with_reducible refine Calls.mono (kP V.drew (Fr.drew _ _)) ?_); rintro e w7 ⟨v7, rfl, o7, f7⟩; obtain ⟨po, pc, rfl, pn, pm, pz, _, _⟩ := own_slice o7 (by decide); have f67 : Fr FN V w7 := (Fr.drew _ _).same f7; have r0 := f67.cellN b0; have r2 := f67.cellN b2; have r3 := f67.cellN b3; have r4 := f67.cellN b4; have nn7 := World.new_ne w7 _ r0)
          | (go_at_call 81; (with_reducible refine Calls.mono (kP ((V.alloc zIt).drew) ((Fr.alloc _ _ _).same (Fr.drew _ _))) ?_); rintro e w7 ⟨v7, rfl, o7, f7⟩; obtain ⟨po, pc, rfl, pn, pm, pz, _, _⟩ := own_slice o7 (by decide); have f67 : Fr FN V w7 := ((Fr.alloc _ _ _).same (Fr.drew _ _)).same f7; have hbz : w7.heap[V.heap.size]? = some zIt := ((Fr.drew FN _).same f7).heap (alloc_new V _) (fun f => f); obtain ⟨bz0, bz1, bz2, bz3, bz4⟩ := Ty.box5 hbz; have fz0 := Ty.frozen_row hbz 0; have fz1 := Ty.frozen_row hbz 1; have fz2 := Ty.frozen_row hbz 2; have fz3 := Ty.frozen_row hbz 3; have fz4 := Ty.frozen_row hbz 4; have r0 := f67.cellN b0; have r2 := f67.cellN b2; have r3 := f67.cellN b3; have r4 := f67.cellN b4))
        all_goals go_wp2_with fail
        all_goals go_meet
        · refine ⟨_, po, pc, rfl, ?_⟩
          exact bx_new o7 (Nat.le_refl _) f67
        · refine ⟨_, po, pc, rfl, ?_⟩
          exact bx_old o7 (by simp) f67 hbz
      case rest =>
        obtain ⟨g, po, pc, rfl, hBx⟩ := hcut
        obtain ⟨ps, hps⟩ : ∃ ps, d.params.map (·.type) = ps := ⟨_, rfl⟩
        rw [hps] at hBx
        have hBxH : Hidden (Bx V d.kind d.name d.type 0 ps g po pc wc) := hBx
        have hBf : Fr FN V wc := hBx.2.2.2.2
        obtain ⟨c0, c1, c2, c3, c4, c5, c6⟩ := ex_box (hBf.heap (show V.heap[wr.heap.size]? = _ from hbxH) (fun f => f))
        obtain ⟨y0, y1, y2, y3, y4⟩ := Ty.box5 hBx.1
        have z3 := Ty.frozen_row hBx.1 3
        have hgV : V.heap.size ≤ g := hBx.2.1
        have hgw : g ≠ wr.heap.size := by have : V.heap.size = wr.heap.size + 1 := hszV; omega
        have fww : Fr FN wr wc := (show Fr FN wr V from fwVH).same hBf
        have hit0 : ∀ b, itOf d (cs.drop nx) = ⟨d.kind, d.name, d.type, b, ps⟩ ↔ (if d.kind = 1 then ((cs.drop nx).headD zC).b else 0) = b := fun b => by unfold itOf; rw [hps]; simp
        have hsp0 : acc.map (·.1) ++ ((if d.ex then [itOf d (cs.drop nx)] else []) ++ itemsS (decls.drop (i + 1)) (if d.kind = 1 then (cs.drop nx).tail else cs.drop nx)) = itemsS decls cs := by
          rw [← (show _ = itemsS decls cs from heqH), (show itemsS (decls.drop i) (cs.drop nx) = _ from hsplit)]
        clear hBx heqH hsplit b0 b1 b2 b3 b4 b5 b6 kP hBf hgV
        by_cases hk : d.kind = 1
        · have hcl : nx < cs.length := by rw [hcnt, if_pos hk] at hnx; omega
          have hnx2 : nx + 1 + cntC (decls.drop (i + 1)) ≤ cs.length := by rw [hcnt, if_pos hk] at hnx; omega
          obtain ⟨c, hcx⟩ : ∃ c, cs[nx]? = some c := ⟨cs[nx], List.getElem?_eq_getElem hcl⟩
          have hdn := dropAt hcx
          obtain ⟨cb, coff, rfl, hcc⟩ : ∃ b off, bo = some ⟨b, off, none⟩ ∧ w.cell? ⟨b, off + nx * 4 + 3, none⟩ = some (.int .u64 c.b) := by
            rcases (show CoL w bo bc cs from hcH).2.2 with h0 | ⟨b, off, e, h0⟩
            · rw [h0] at hcl; simp at hcl
            · exact ⟨b, off, e, h0 nx c hcx 3 _ rfl⟩
          have hi9 := (hit0 c.b).2 (by rw [if_pos hk, hdn]; rfl)
          rw [hi9, if_pos hk, hdn, List.tail_cons] at hsp0
          have k3 := ((show Fr FN w wr from hfrH).same fww).cellN hcc
          have hi0 : (0 : Int) ≤ (nx : Int) := by omega
          have hi1 : (nx : Int) < (cs.length : Int) := by omega
          rw [hk] at c0 y0
          rw [hk] at hsp0
          have hbW : Hidden (Bx V 1 d.name d.type c.b ps g po pc (wc.setCell ⟨g, 3, none⟩ (.int .u64 c.b))) := by
            have := (show Bx V d.kind d.name d.type 0 ps g po pc wc from hBxH).set c.b
            rw [hk] at this
            exact this
          have W1 : (wc.setCell ⟨g, 3, none⟩ (.int .u64 c.b)).cell? ⟨wr.heap.size, 1, none⟩ = some (.bool d.ex) := (Fr.setCell wc ⟨g, 3, none⟩ _).cell c1 (fun e => hgw e.symm)
          have fwW : Fr FN wr (wc.setCell ⟨g, 3, none⟩ (.int .u64 c.b)) := (show Fr FN wr V from fwVH).same (show Bx V 1 d.name d.type c.b ps g po pc _ from hbW).2.2.2.2
          obtain ⟨u0, u1, u2, u3, u4⟩ := Ty.box5 (show Bx V 1 d.name d.type c.b ps g po pc _ from hbW).1
          have hsp := hsp0
          clear hsp0 hcnt hnx hit0 hi9 hk fww hps hdn hcx hBxH
          by_cases hex : d.ex = true
          · skip
            have hex1 : d.ex = true := by simpa using hex
            rw [hex1] at c1 W1
            rw [hex1, if_pos rfl] at hsp
            obtain ⟨W9, hW9⟩ : ∃ W9, W9 = (wc.setCell ⟨g, 3, none⟩ (.int .u64 c.b)).alloc (.cells #[ci 1, ct d.name, ci d.type, .int .u64 c.b, .slice po ps.length pc] 47) := ⟨_, rfl⟩
            have f9 : Fr FN (wc.setCell ⟨g, 3, none⟩ (.int .u64 c.b)) W9 := by rw [hW9]; exact Fr.alloc _ _ _
            have hnew : Hidden (W9.heap[wc.heap.size]? = some (.cells (encI (⟨1, d.name, d.type, c.b, ps⟩, po, pc)).toArray 47 (0, 0))) := by rw [hW9]; exact alloc_at _ _ _ (by simp)
            have hrow9 : Hidden (Rw.Row RP 47 5 W9 w.heap.size (.slice ao2 acc.length cap2) acc) := ((show Rw.Row RP _ 5 wr _ _ _ from hrowH).keep (fwW.same f9) (fun _ _ f => f))
            have hpm9 : Hidden (∀ x ∈ acc ++ [(⟨1, d.name, d.type, c.b, ps⟩, po, pc)], PmO W9 w.heap.size (.slice ao2 acc.length cap2) x) := fun x hx => by
              rcases List.mem_append.1 hx with hx | hx
              · exact ((show ∀ x ∈ acc, PmO wr _ _ x from hpmH) x hx).keep (fwW.same f9) (fun _ _ _ _ f => f)
              · rw [List.mem_singleton.1 hx]; exact (bx_pm (show Fr FN w wr from hfrH).size (by have : V.heap.size = wr.heap.size + 1 := hszV; omega) (fun k hk => ((show Rw.Row RP _ 5 wr _ _ _ from hrowH).low k hk).2) hbW).keep f9 (fun _ _ _ _ f => f)
            have g9 : Hidden (Fr FN w W9) := ((show Fr FN w wr from hfrH).same fwW).same f9
            have hW9H : Hidden (W9 = _) := hW9
            have hspH : Hidden (_ = itemsS decls cs) := hsp
            clear hsp hW9 f9 hbW fwW
            go_wp2_with (at_builtin; rw [← (show W9 = _ from hW9H)]; refine wpl_one (R := RP) rfl _ _ 23 47 _ 5 64 Tryz.underlying23 info_it rfl (by decide) rfl w.heap.size (.slice ao2 acc.length cap2) acc (⟨1, d.name, d.type, c.b, ps⟩, po, pc) (encI (⟨1, d.name, d.type, c.b, ps⟩, po, pc)) wc.heap.size 47 rfl hrow9 rfl rfl rfl hnew (it_one _) ?_ ?_ ?_ ?_; (focus (simp only [maxLen]; have : decls.length ≤ 64 := hlenH; omega)); (focus (have : decls.length ≤ 64 := hlenH; omega)); (focus (exact (show Fr FN w W9 from g9).size)); intro v5 w5 hr5 f5 ho5)
            have g5 : Fr FN w w5 := (show Fr FN w W9 from g9).over f5 (fun k hk => ((show Rw.Row RP _ 5 W9 _ _ _ from hrow9).low k hk).1)
            go_roundg (decls.length - (i + 1))
            case measure => have : gk = decls.length - i := hgkH; omega
            case rel => exact ⟨i + 1, nx + 1, acc ++ [(⟨1, d.name, d.type, c.b, ps⟩, po, pc)], by go_num, by go_num, by omega, by omega, by omega, rfl, by simp; omega, by rw [List.map_append, List.append_assoc]; exact hspH, hr5, fun x hx => ((show ∀ x ∈ _, PmO W9 _ _ x from hpm9) x hx).grow f5 ho5, g5⟩
          · skip
            have hex1 : d.ex = false := by simpa using hex
            rw [hex1] at c1 W1
            rw [hex1, if_neg (by simp)] at hsp
            have hspH : Hidden (_ = itemsS decls cs) := hsp
            have gW : Hidden (Fr FN w (wc.setCell ⟨g, 3, none⟩ (.int .u64 c.b))) := (show Fr FN w wr from hfrH).same fwW
            have fwWH : Hidden (Fr FN wr (wc.setCell ⟨g, 3, none⟩ (.int .u64 c.b))) := fwW
            clear hsp fwW
            go_wp2_with fail
            go_roundg (decls.length - (i + 1))
            case measure => have : gk = decls.length - i := hgkH; omega
            case rel => exact ⟨i + 1, nx + 1, acc, by go_num, by go_num, by omega, by omega, by omega, rfl, by omega, hspH, (show Rw.Row RP _ 5 wr _ _ _ from hrowH).keep fwWH (fun _ _ f => f), fun x hx => ((show ∀ x ∈ acc, PmO wr _ _ x from hpmH) x hx).keep fwWH (fun _ _ _ _ f => f), gW⟩
        · have hnx2 : nx + cntC (decls.drop (i + 1)) ≤ cs.length := by rw [hcnt, if_neg hk] at hnx; omega
          have hi9 := (hit0 0).2 (by rw [if_neg hk])
          rw [hi9, if_neg hk] at hsp0
          have b1 : (d.kind == 1) = false := by simpa using hk
          obtain ⟨W, rfl⟩ : ∃ W, W = wc := ⟨_, rfl⟩
          have W1 : W.cell? ⟨wr.heap.size, 1, none⟩ = some (.bool d.ex) := c1
          have fwW : Fr FN wr W := fww
          have hbW : Hidden (Bx V d.kind d.name d.type 0 ps g po pc W) := hBxH
          have hsp := hsp0
          clear hsp0 hcnt hnx hit0 hi9 hk fww hps
          by_cases hex : d.ex = true
          · skip
            have hex1 : d.ex = true := by simpa using hex
            rw [hex1] at c1 W1
            rw [hex1, if_pos rfl] at hsp
            obtain ⟨W9, hW9⟩ : ∃ W9, W9 = W.alloc (.cells #[ci d.kind, ct d.name, ci d.type, .int .u64 0, .slice po ps.length pc] 47) := ⟨_, rfl⟩
            have f9 : Fr FN W W9 := by rw [hW9]; exact Fr.alloc _ _ _
            have hnew : Hidden (W9.heap[W.heap.size]? = some (.cells (encI (⟨d.kind, d.name, d.type, 0, ps⟩, po, pc)).toArray 47 (0, 0))) := by rw [hW9]; exact alloc_new _ _
            have hrow9 : Hidden (Rw.Row RP 47 5 W9 w.heap.size (.slice ao2 acc.length cap2) acc) := ((show Rw.Row RP _ 5 wr _ _ _ from hrowH).keep (fwW.same f9) (fun _ _ f => f))
            have hpm9 : Hidden (∀ x ∈ acc ++ [(⟨d.kind, d.name, d.type, 0, ps⟩, po, pc)], PmO W9 w.heap.size (.slice ao2 acc.length cap2) x) := fun x hx => by
              rcases List.mem_append.1 hx with hx | hx
              · exact ((show ∀ x ∈ acc, PmO wr _ _ x from hpmH) x hx).keep (fwW.same f9) (fun _ _ _ _ f => f)
              · rw [List.mem_singleton.1 hx]; exact (bx_pm (show Fr FN w wr from hfrH).size (by have : V.heap.size = wr.heap.size + 1 := hszV; omega) (fun k hk => ((show Rw.Row RP _ 5 wr _ _ _ from hrowH).low k hk).2) hbW).keep f9 (fun _ _ _ _ f => f)
            have g9 : Hidden (Fr FN w W9) := ((show Fr FN w wr from hfrH).same fwW).same f9
            have hW9H : Hidden (W9 = _) := hW9
            have hspH : Hidden (_ = itemsS decls cs) := hsp
            clear hsp hW9 f9 hbW fwW
            go_wp2_with (at_builtin; rw [← (show W9 = _ from hW9H)]; refine wpl_one (R := RP) rfl _ _ 23 47 _ 5 64 Tryz.underlying23 info_it rfl (by decide) rfl w.heap.size (.slice ao2 acc.length cap2) acc (⟨d.kind, d.name, d.type, 0, ps⟩, po, pc) (encI (⟨d.kind, d.name, d.type, 0, ps⟩, po, pc)) W.heap.size 47 rfl hrow9 rfl rfl rfl hnew (it_one _) ?_ ?_ ?_ ?_; (focus (simp only [maxLen]; have : decls.length ≤ 64 := hlenH; omega)); (focus (have : decls.length ≤ 64 := hlenH; omega)); (focus (exact (show Fr FN w W9 from g9).size)); intro v5 w5 hr5 f5 ho5)
            have g5 : Fr FN w w5 := (show Fr FN w W9 from g9).over f5 (fun k hk => ((show Rw.Row RP _ 5 W9 _ _ _ from hrow9).low k hk).1)
            go_roundg (decls.length - (i + 1))
            case measure => have : gk = decls.length - i := hgkH; omega
            case rel => exact ⟨i + 1, nx, acc ++ [(⟨d.kind, d.name, d.type, 0, ps⟩, po, pc)], by go_num, rfl, by omega, by omega, by omega, rfl, by simp; omega, by rw [List.map_append, List.append_assoc]; exact hspH, hr5, fun x hx => ((show ∀ x ∈ _, PmO W9 _ _ x from hpm9) x hx).grow f5 ho5, g5⟩
          · skip
            have hex1 : d.ex = false := by simpa using hex
            rw [hex1] at c1 W1
            rw [hex1, if_neg (by simp)] at hsp
            have hspH : Hidden (_ = itemsS decls cs) := hsp
            have gW : Hidden (Fr FN w W) := (show Fr FN w wr from hfrH).same fwW
            have fwWH : Hidden (Fr FN wr W) := fwW
            clear hsp fwW
            go_wp2_with fail
            go_roundg (decls.length - (i + 1))
            case measure => have : gk = decls.length - i := hgkH; omega
            case rel => exact ⟨i + 1, nx, acc, by go_num, rfl, by omega, by omega, by omega, rfl, by omega, hspH, (show Rw.Row RP _ 5 wr _ _ _ from hrowH).keep fwWH (fun _ _ f => f), fun x hx => ((show ∀ x ∈ acc, PmO wr _ _ x from hpmH) x hx).keep fwWH (fun _ _ _ _ f => f), gW⟩
    · obtain rfl : i = decls.length := by omega
      have heq := (show acc.map (·.1) ++ itemsS (decls.drop decls.length) (cs.drop nx) = itemsS decls cs from heqH)
      rw [List.drop_length, show itemsS [] (cs.drop nx) = [] from rfl, List.append_nil] at heq
      have heqH2 : Hidden (acc.map (·.1) = itemsS decls cs) := heq
      have kS := sort_any acc (.slice ao2 acc.length cap2) w.heap.size wr hrowH (by have : decls.length ≤ 64 := hlenH; omega)
      clear heq
      go_wp2_with (go_at_call 82; refine kS.mono ?_; rintro e w5 ⟨rfl, l', hp5, hs5, hr5, f5⟩)
      go_ret
      have hpm5 : ∀ x ∈ l', PmO w5 w.heap.size (.slice ao2 acc.length cap2) x := fun x hx => ((show ∀ x ∈ acc, PmO wr _ _ x from hpmH) x (hp5.mem_iff.1 hx)).keep f5 (fun k _ _ e q => e q)
      refine ⟨.slice ao2 acc.length cap2, l'.map (·.1), rfl, ?_, ?_, ?_, (show Fr FN w wr from hfrH).over f5 (fun k hk => ((show Rw.Row RP _ 5 wr _ _ _ from hrowH).low k hk).1)⟩
      · rw [← (show acc.map (·.1) = itemsS decls cs from heqH2)]
        exact hp5.map _
      · exact List.pairwise_map.2 hs5
      · have hll : (l'.map (·.1)).length = acc.length := by rw [List.length_map]; exact hp5.length_eq
        refine ⟨ao2, cap2, by rw [hll], fun w6 f6 => ?_⟩
        obtain ⟨a6, c6, e6, h6⟩ := row_itl (hr5.keep f6 (fun k hk e => by have := (hr5.low k hk).1; omega)) (fun x hx => (hpm5 x hx).keep f6 (fun k hb _ _ e => by omega))
        simp only [Value.slice.injEq] at e6
        obtain ⟨rfl, _, rfl⟩ := e6
        exact h6
end Go.Proofs.YtakkiipkmogagaaGreat.Fo.Ic

namespace Go.Proofs.YtakkiipkmogagaaGreat.Fo.Ic
open Go.RowKit Te
set_option linter.unusedSimpArgs false
set_option linter.unusedVariables false

/-- The place and the error. -/
def exP (m : Mo) (l : List Ty.Fc) : Int × Int :=
  if errM rnS cnS m ≠ 0 then (0, errM rnS cnS m) else match impS l m.imports with
  | none => (0, 31)
  | some g => ((decS (farS g) m.decls).2.2.1, (decS (farS g) m.decls).2.2.2)
/-- The interface. -/
def IsF (m : Mo) (l : List Ty.Fc) (f : Ty.Fc) : Prop :=
  ((exP m l).2 ≠ 0 ∧ f = ⟨[], []⟩) ∨ ((exP m l).2 = 0 ∧ f.name = m.name ∧ errM rnS cnS m = 0 ∧ ∃ g, impS l m.imports = some g ∧ (decS (farS g) m.decls).2.2.2 = 0 ∧ f.items.Perm (itemsS m.decls (decS (farS g) m.decls).1) ∧ f.items.Pairwise (fun x y => ¬ y.name < x.name))
theorem impGo_spec (l : List Ty.Fc) : ∀ (imps done : List Bs) (acc g : List Ty.Fc), impGo l imps done acc = some g → (∀ f ∈ acc, f ∈ l ∧ Ty.rightF f = 0) → g.length ≤ acc.length + imps.length ∧ ∀ f ∈ g, f ∈ l ∧ Ty.rightF f = 0
  | [], done, acc, g, h, ha => by
    have : acc = g := by simpa [impGo] using h
    subst this
    exact ⟨by simp, ha⟩
  | n :: r, done, acc, g, h, ha => by
    unfold impGo at h
    split at h
    · have := impGo_spec l r _ _ _ h ha
      exact ⟨by simp; omega, this.2⟩
    · split at h
      · cases h
      · rename_i f hf
        split at h
        · cases h
        · rename_i hr
          have hmem : f ∈ l := List.mem_of_find?_eq_some hf
          have := impGo_spec l r _ _ _ h (fun x hx => by
            rcases List.mem_append.1 hx with hx | hx
            · exact ha x hx
            · rw [List.mem_singleton.1 hx]; exact ⟨hmem, by simpa using hr⟩)
          exact ⟨by simp at this ⊢; omega, this.2⟩
theorem impS_spec {l : List Ty.Fc} {imps : List Bs} {g : List Ty.Fc} (h : impS l imps = some g) : g.length ≤ imps.length ∧ ∀ f ∈ g, f ∈ l ∧ Ty.rightF f = 0 := by
  have := impGo_spec l imps [] [] g h (by simp)
  simpa using this
theorem rightF_len {f : Ty.Fc} (h : Ty.rightF f = 0) : f.items.length ≤ 64 := by
  unfold Ty.rightF at h
  split at h
  · rename_i h1; exact absurd h h1
  · split at h
    · cases h
    · omega
theorem allI_le : ∀ (g : List Ty.Fc), (∀ f ∈ g, f.items.length ≤ 64) → allI g ≤ g.length * 64
  | [], _ => by simp [allI]
  | f :: g, h => by
    have h1 := h f (by simp)
    have h2 := allI_le g (fun x hx => h x (by simp [hx]))
    unfold allI at *
    simp only [List.map_cons, List.sum_cons, List.length_cons] at *
    omega
theorem farS_b (g : List Ty.Fc) (h : ∀ f ∈ g, ∀ i ∈ f.items, Ty.OkI i) : ∀ c ∈ farS g, U64 c.b := by
  intro c hc
  unfold farS at hc
  obtain ⟨f, hf, hc⟩ := List.mem_flatMap.1 hc
  unfold farI at hc
  obtain ⟨i, hi, rfl⟩ := List.mem_map.1 hc
  exact (h f hf i (List.mem_filter.1 hi).1).bits
/-- Right modules are small. -/
theorem errM_small {m : Mo} (h : errM rnS cnS m = 0) : m.imports.length ≤ 16 ∧ m.decls.length ≤ 64 ∧ ∀ d ∈ m.decls, errD rnS cnS d = 0 := by
  unfold errM at h
  rw [orE_zero, orE_zero, orE_zero, orE_zero] at h
  obtain ⟨_, h1, _, h2, h3⟩ := h
  refine ⟨?_, ?_, ?_⟩
  · split at h1
    · cases h1
    · omega
  · split at h2
    · cases h2
    · omega
  · have : ∀ (l : List De), errDs rnS cnS l = 0 → ∀ d ∈ l, errD rnS cnS d = 0 := by
      intro l
      induction l with
      | nil => simp
      | cons x l ih =>
        intro h d hd
        rw [errDs, orE_zero] at h
        rcases List.mem_cons.1 hd with rfl | hd
        · exact h.1
        · exact ih h.2 d hd
    exact this _ h3
theorem errD_params {d : De} (h : errD rnS cnS d = 0) : d.params.length ≤ 8 := by
  unfold errD at h
  rw [orE_zero, orE_zero, orE_zero, orE_zero] at h
  have := h.2.2.2.1
  split at this
  · cases this
  · omega
theorem decGo_cnt (far : List Con) : ∀ (l : List De) (i : Nat) (seen : List Bs) (cs vs : List Con), (decGo far l i seen cs vs).2.2.2 = 0 → (decGo far l i seen cs vs).1.length = cs.length + cntC l
  | [], i, seen, cs, vs, h => by simp [decGo, cntC]
  | d :: r, i, seen, cs, vs, h => by
    unfold decGo at h ⊢
    by_cases h1 : d.name ∈ seen
    · rw [if_pos h1] at h; cases h
    rw [if_neg h1] at h ⊢
    by_cases h2 : d.kind ≠ 1 ∧ d.kind ≠ 2
    · rw [if_pos h2] at h ⊢
      rw [decGo_cnt far r _ _ _ _ h]
      have : cntC (d :: r) = cntC r := by unfold cntC; rw [List.filter_cons, if_neg (by simpa using h2.1)]
      rw [this]
    rw [if_neg h2] at h ⊢
    by_cases h3 : (valAt d (cs.reverse ++ far)).2 ≠ 0
    · rw [if_pos h3] at h; exact absurd h h3
    rw [if_neg h3] at h ⊢
    by_cases h4 : d.kind = 2
    · rw [if_pos h4] at h ⊢
      rw [decGo_cnt far r _ _ _ _ h]
      have : cntC (d :: r) = cntC r := by unfold cntC; rw [List.filter_cons, if_neg (by simp [h4])]
      rw [this]
    · rw [if_neg h4] at h ⊢
      rw [decGo_cnt far r _ _ _ _ h]
      have : cntC (d :: r) = cntC r + 1 := by unfold cntC; rw [List.filter_cons, if_pos (by have : d.kind = 1 := by omega
                                                                                            simp [this])]; simp
      rw [this, List.length_append, List.length_singleton]
      omega
theorem decGo_zero (far : List Con) : ∀ (l : List De) (i : Nat) (seen : List Bs) (cs vs : List Con), (decGo far l i seen cs vs).2.2.2 = 0 → (decGo far l i seen cs vs).2.2.1 = 0
  | [], i, seen, cs, vs, h => by simp [decGo]
  | d :: r, i, seen, cs, vs, h => by
    unfold decGo at h ⊢
    by_cases h1 : d.name ∈ seen
    · rw [if_pos h1] at h; cases h
    rw [if_neg h1] at h ⊢
    by_cases h2 : d.kind ≠ 1 ∧ d.kind ≠ 2
    · rw [if_pos h2] at h ⊢
      exact decGo_zero far r _ _ _ _ h
    rw [if_neg h2] at h ⊢
    by_cases h3 : (valAt d (cs.reverse ++ far)).2 ≠ 0
    · rw [if_pos h3] at h; exact absurd h h3
    rw [if_neg h3] at h ⊢
    by_cases h4 : d.kind = 2
    · rw [if_pos h4] at h ⊢
      exact decGo_zero far r _ _ _ _ h
    · rw [if_neg h4] at h ⊢
      exact decGo_zero far r _ _ _ _ h
theorem decS_cnt {far : List Con} {l : List De} (h : (decS far l).2.2.2 = 0) : (decS far l).1.length = cntC l := by
  have := decGo_cnt far l 0 [] [] [] h
  simpa [decS] using this
/-- A row of interfaces, read. -/
theorem row_fcl {W w : World} {B : Nat} {v : Value} {l : List Ty.Fc} (h : Rw.Row (RF W) 25 2 w B v l) (hf : Fr FN W w) : ∃ ao cap, v = .slice ao l.length cap ∧ l.length ≤ cap ∧ cap ≤ maxLen ∧ (l = [] ∨ ∃ b off, ao = some ⟨b, off, none⟩ ∧ ∀ (i : Nat) (x : Ty.Fc), l[i]? = some x → LayF w b (off + i * 2) x) := by
  obtain ⟨cells, h1, h2⟩ := h
  obtain ⟨ao, cap, e, hnc, hcm, hnn, hl, hh⟩ := own_slice h1 (by decide)
  refine ⟨ao, cap, e, hnc, hcm, ?_⟩
  rcases hh with h0 | ⟨g, rfl, hB, hg, hc⟩
  · exact Or.inl (List.eq_nil_of_length_eq_zero h0)
  · refine Or.inr ⟨g, 0, rfl, fun i x hx => ?_⟩
    obtain ⟨c, r1, r2, r3⟩ := h2.get hx
    obtain ⟨ai, ic, q1, rfl⟩ := r1
    exact ⟨ai, ic, q1.keep hf, by rw [Nat.zero_add]; exact hc _ _ (r3 0 _ rfl), by rw [Nat.zero_add]; exact hc _ _ (r3 1 _ rfl)⟩
theorem results_cell_tmp2 {fn : Func} {p u x : Tmp} {ty : TypeId} (h : fn.results = #[.cell p ty, .tmp u, .tmp x]) (tmps : Array Value) (P : Program) (w : World) :
    (results fn tmps).run P w = ((asAddr (tmps.getD p undef)).run P w).andThen fun a w₁ => ((loadVar ty a).run P w₁).andThen fun v w₂ => .ok (.tuple #[v, tmps.getD u undef, tmps.getD x undef]) w₂ := by
  simp only [results, h]
  simp [Sem.run_bind, Result.andThen]
theorem post_cell3 {fn : Func} {R : Ending → World → Prop} {a : Act} {w : World} {p u x : Tmp} {ty : TypeId} (h : fn.results = #[.cell p ty, .tmp u, .tmp x]) (hd : a.defers = []) (g : Nat) (cs : Array Value)
    (hp : a.tmps.getD p undef = .pointer (some ⟨g, 0, none⟩)) (hl : (loadVar ty ⟨g, 0, none⟩).run Tryz.prog w = .ok (.agg cs) w)
    (hR : R (.returned (.tuple #[.agg cs, a.tmps.getD u undef, a.tmps.getD x undef])) w) : bodyPost Tryz.prog fn R .ret a w := by
  refine ⟨hd, _, ?_, hR⟩
  rw [results_cell_tmp2 h, hp]
  simp [asAddr, hl, Result.andThen]
end Go.Proofs.YtakkiipkmogagaaGreat.Fo.Ic

namespace Go.Proofs.YtakkiipkmogagaaGreat.Fo.Ic
open Go.RowKit Te
set_option linter.unusedSimpArgs false
set_option linter.unusedVariables false

abbrev zIf : Obj := .cells #[.string ⟨#[]⟩, .slice none 0 0] 25 (0, 0)
theorem size_iface : (Tryz.prog.info? 25).map (·.size) = some 2 := by kernel_rfl
theorem zero_fc (w : World) : Ty.FcI w ⟨[], []⟩ (.agg #[.string ⟨#[]⟩, .slice none 0 0]) := ⟨none, 0, rfl, by simp, by unfold maxLen; omega, fun _ => rfl, Or.inl rfl⟩
set_option maxRecDepth 20000 in
set_option maxHeartbeats 4000000 in
theorem extract_any (m : Mo) (v : Value) (l : List Ty.Fc) (lo : Option Addr) (lc : Nat) (w : World) (om : OkM m) (hm : MoI w m v) (h1 : l.length ≤ lc) (h2 : lc ≤ maxLen) (h3 : l = [] ∨ ∃ b off, lo = some ⟨b, off, none⟩ ∧ ∀ (i : Nat) (x : Ty.Fc), l[i]? = some x → LayF w b (off + i * 2) x) (hokl : ∀ f ∈ l, Ty.OkN f.name ∧ ∀ i ∈ f.items, Ty.OkI i) :
    Calls Tryz.prog 24 #[v, .slice lo l.length lc] w fun e w' => ∃ fv f, e = .returned (.tuple #[fv, ci (exP m l).1, ci (exP m l).2]) ∧ Ty.FcI w' f fv ∧ IsF m l f ∧ Fr FN w w' := by
  have hmH : Hidden (MoI w m v) := hm
  have omH : Hidden (OkM m) := om
  obtain ⟨ao, cap, ad, capd, rfl, hi, hd⟩ := hm
  have m0 : cap ≤ 9223372036854775807 := by have := hi.2.1; unfold maxLen at this; omega
  have m1 : capd ≤ 9223372036854775807 := by have := hd.2.1; unfold maxLen at this; omega
  obtain ⟨V, hV⟩ : ∃ V, V = (w.alloc (.cells #[ct m.name, .slice ao m.imports.length cap, .slice ad m.decls.length capd] 63)).alloc zIf := ⟨_, rfl⟩
  have fV : Fr FN w V := by rw [hV]; exact (Fr.alloc _ _ _).same (Fr.alloc _ _ _)
  have hA : V.heap[w.heap.size]? = some (.cells #[ct m.name, .slice ao m.imports.length cap, .slice ad m.decls.length capd] 63 (0, 0)) := by rw [hV]; exact (alloc_old _ _ _ (by simp)).trans (alloc_new _ _)
  have hB : V.heap[w.heap.size + 1]? = some zIf := by rw [hV]; exact alloc_at _ _ _ (by simp)
  have hVH : Hidden (V = _) := hV
  have fVH : Hidden (Fr FN w V) := fV
  have hsV : V.heap.size = w.heap.size + 2 := by rw [hV]; simp
  have box3 : ∀ u, Fr FN V u → u.cell? ⟨w.heap.size, 0, none⟩ = some (ct m.name) ∧ u.cell? ⟨w.heap.size, 1, none⟩ = some (.slice ao m.imports.length cap) ∧ u.cell? ⟨w.heap.size, 2, none⟩ = some (.slice ad m.decls.length capd) := fun u hu => by
    have h := hu.heap hA (fun f => f)
    exact ⟨cell_of_row _ _ 0 _ _ _ h, cell_of_row _ _ 1 _ _ _ h, cell_of_row _ _ 2 _ _ _ h⟩
  have boxZ : ∀ u, Fr FN V u → u.heap[w.heap.size + 1]? = some zIf := fun u hu => hu.heap hB (fun f => f)
  have box3H : Hidden (∀ u, Fr FN V u → u.cell? ⟨w.heap.size, 0, none⟩ = some (ct m.name) ∧ u.cell? ⟨w.heap.size, 1, none⟩ = some (.slice ao m.imports.length cap) ∧ u.cell? ⟨w.heap.size, 2, none⟩ = some (.slice ad m.decls.length capd)) := box3
  have boxZH : Hidden (∀ u, Fr FN V u → u.heap[w.heap.size + 1]? = some zIf) := boxZ
  have kR : ∀ u, Fr FN V u → Calls Tryz.prog 47 #[.agg #[ct m.name, .slice ao m.imports.length cap, .slice ad m.decls.length capd]] u fun e w' => e = .returned (ci (errM rnS cnS m)) ∧ Fr FN V w' := fun u hu => (right_any m _ u om (MoI.keep hmH (fV.same hu))).mono fun _ _ ⟨q1, q2⟩ => ⟨q1, hu.same q2⟩
  have hex : exP m l = if errM rnS cnS m ≠ 0 then (0, errM rnS cnS m) else match impS l m.imports with
    | none => (0, 31)
    | some g => ((decS (farS g) m.decls).2.2.1, (decS (farS g) m.decls).2.2.2) := rfl
  obtain ⟨E, hE⟩ : ∃ E, errM rnS cnS m = E := ⟨_, rfl⟩
  rw [hE] at kR hex
  by_cases hE0 : E = 0
  · subst hE0
    rw [if_neg (by simp)] at hex
    obtain ⟨hs1, hs2, hs3⟩ := errM_small hE
    have kI : ∀ u, Fr FN V u → Calls Tryz.prog 48 #[.slice ao m.imports.length cap, .slice lo l.length lc] u fun e w' => ∃ v, e = .returned (.tuple #[v, .bool (impS l m.imports).isSome]) ∧ (∀ g, impS l m.imports = some g → Rw.Row (RF u) 25 2 w' u.heap.size v g) ∧ Fr FN u w' := fun u hu => by
      have ff := fV.same hu
      refine imported_any m.imports ao cap l lo lc u (hi.keep ff) h1 h2 ?_ hokl hs1 _ rfl
      rcases h3 with h0 | ⟨b, off, e, h0⟩
      · exact Or.inl h0
      · exact Or.inr ⟨b, off, e, fun i y hy => by
          obtain ⟨ap, cp, q1, q2, q3⟩ := h0 i y hy
          exact ⟨ap, cp, q1.keep ff, ff.cellN q2, ff.cellN q3⟩⟩
    obtain ⟨I, hI⟩ : ∃ I, impS l m.imports = I := ⟨_, rfl⟩
    rw [hI] at kI hex
    cases I with
    | none =>
      have hexH : Hidden (exP m l = (0, 31)) := hex
      obtain ⟨a0, a1, a2⟩ := box3 V (Fr.refl _ _)
      rw [hex]
      clear hE hI hex hs1 hs2 hs3 h3 hokl hi hd box3 boxZ hA hB hV fV
      rw [(show V = _ from hVH)] at a0 a1 a2
      go_enter Tryz.func24, Tryz.ntmps24
      go_wp2_with (first
        | (go_at_call 47; rw [← (show V = _ from hVH)]; refine Calls.mono (kR V (Fr.refl _ _)) ?_; rintro e w1 ⟨rfl, f1⟩; obtain ⟨b0, b1, b2⟩ := (show ∀ u, Fr FN V u → _ from box3H) w1 f1)
        | (go_at_call 48; have f1' := f1; refine Calls.mono (kI w1 f1') ?_; rintro e w2 ⟨v2, rfl, hr2, f2⟩; have f12 : Fr FN V w2 := f1'.same f2; have zz := (show ∀ u, Fr FN V u → u.heap[w.heap.size + 1]? = some zIf from boxZH) w2 f12; obtain ⟨z0, z1⟩ := Ty.box2 zz; have zf0 := Ty.frozen_row zz 0; have zf1 := Ty.frozen_row zz 1))
      refine post_cell3 rfl rfl _ _ rfl (run_loadVar_row _ _ _ _ _ _ _ (two_put ((show ∀ u, Fr FN V u → u.heap[w.heap.size + 1]? = some zIf from boxZH) w2 f12) _ _) Tryz.underlying25 rfl size_iface) ⟨_, ⟨[], []⟩, rfl, zero_fc _, Or.inl ⟨by rw [(show exP m l = _ from hexH)]; exact (by decide), rfl⟩, ((show Fr FN w V from fVH).same f12).over (two_at w2 _ _ _) (fun k e => by subst e; omega)⟩
    | some g =>
      have hexH : Hidden (exP m l = ((decS (farS g) m.decls).2.2.1, (decS (farS g) m.decls).2.2.2)) := hex
      have hIH : Hidden (impS l m.imports = some g) := hI
      obtain ⟨hg1, hg2⟩ := impS_spec hI
      have hgi : allI g ≤ 1024 := by have := allI_le g (fun f hf => rightF_len (hg2 f hf).2); omega
      have hfl : (farS g).length ≤ 1024 := Nat.le_trans (farS_len g) hgi
      have hfb : ∀ c ∈ farS g, U64 c.b := farS_b g (fun f hf i hi => (hokl f (hg2 f hf).1).2 i hi)
      have kF : ∀ (W w2 : World) (gv : Value), Rw.Row (RF W) 25 2 w2 W.heap.size gv g → Fr FN W w2 → Fr FN V w2 → ∀ u, Fr FN w2 u → Calls Tryz.prog 50 #[gv] u fun e w' => ∃ v, e = .returned v ∧ CoW w' u.heap.size v (farS g) ∧ Fr FN V w' := fun W w2 gv hr hW hf u hu => by
        obtain ⟨ga, gc, rfl, q1, q2, q3⟩ := row_fcl (hr.keep hu (fun _ _ f => f)) (hW.same hu)
        exact (far_any g ga gc u q1 q2 q3 (by omega)).mono fun _ _ ⟨x, q4, q5, q6⟩ => ⟨x, q4, q5, (hf.same hu).same q6⟩
      have kD : ∀ (u : World) (fv : Value) (B2 : Nat), Fr FN V u → CoW u B2 fv (farS g) → Calls Tryz.prog 49 #[.agg #[ct m.name, .slice ao m.imports.length cap, .slice ad m.decls.length capd], fv] u fun e w' => ∃ v1 v2, e = .returned (.tuple #[v1, v2, ci (decS (farS g) m.decls).2.2.1, ci (decS (farS g) m.decls).2.2.2]) ∧ CoW w' u.heap.size v1 (decS (farS g) m.decls).1 ∧ Fr FN V w' := fun u fv B2 hu hc => (decls_any (farS g) hfb m _ fv B2 u om (MoI.keep hmH (fV.same hu)) hc (by omega)).mono fun _ _ ⟨x, y, q1, q2, _, q3⟩ => ⟨x, y, q1, q2, hu.same q3⟩
      have kS : (decS (farS g) m.decls).2.2.2 = 0 → ∀ (u : World) (bo : Option Addr) (bc : Nat), Fr FN V u → CoL u bo bc (decS (farS g) m.decls).1 → Calls Tryz.prog 51 #[.slice ad m.decls.length capd, .slice bo (decS (farS g) m.decls).1.length bc] u fun e w' => ∃ v its, e = .returned v ∧ its.Perm (itemsS m.decls (decS (farS g) m.decls).1) ∧ its.Pairwise (fun x y => ¬ y.name < x.name) ∧ (∃ ao cap, v = .slice ao its.length cap ∧ ∀ w'', Fr (fun k => k < u.heap.size) w' w'' → Ty.ItL w'' ao cap its) ∧ Fr FN V w' := fun h0 u bo bc hu hc => (shown_any m.decls ad capd _ bo bc u (hd.keep (fV.same hu)) hc (by rw [decS_cnt h0]; exact Nat.le_refl _) hs2 (fun d hd => errD_params (hs3 d hd))).mono fun _ _ ⟨x, its, q1, q2, q3, q4, q5⟩ => ⟨x, its, q1, q2, q3, q4, hu.same q5⟩
      have hEH : Hidden (errM rnS cnS m = 0) := hE
      obtain ⟨a0, a1, a2⟩ := box3 V (Fr.refl _ _)
      rw [hex]
      have hisH : ∀ f, IsF m l f = (((exP m l).2 ≠ 0 ∧ f = ⟨[], []⟩) ∨ ((exP m l).2 = 0 ∧ f.name = m.name ∧ errM rnS cnS m = 0 ∧ ∃ g, impS l m.imports = some g ∧ (decS (farS g) m.decls).2.2.2 = 0 ∧ f.items.Perm (itemsS m.decls (decS (farS g) m.decls).1) ∧ f.items.Pairwise (fun x y => ¬ y.name < x.name))) := fun f => rfl
      obtain ⟨cs, hcs⟩ : ∃ cs, (decS (farS g) m.decls).1 = cs := ⟨_, rfl⟩
      obtain ⟨P, hP⟩ : ∃ P, (decS (farS g) m.decls).2.2.1 = P := ⟨_, rfl⟩
      obtain ⟨Er, hEr⟩ : ∃ Er, (decS (farS g) m.decls).2.2.2 = Er := ⟨_, rfl⟩
      have hcsH : Hidden ((decS (farS g) m.decls).1 = cs) := hcs
      have hErH : Hidden ((decS (farS g) m.decls).2.2.2 = Er) := hEr
      rw [hcs, hP, hEr] at kD
      rw [hcs, hEr] at kS
      rw [hP, hEr]
      rw [hP, hEr] at hexH
      have hP0 : Er = 0 → P = 0 := fun e => by rw [← hP]; exact decGo_zero _ _ _ _ _ _ (hEr.trans e)
      clear hE hI hex hs1 hs2 hs3 h3 hokl hi hd box3 boxZ hA hB hV fV hg1 hg2 hgi hfl hfb hisH hcs hP hEr
      rw [(show V = _ from hVH)] at a0 a1 a2
      by_cases hE2 : Er = 0
      · subst hE2
        have hP1 := hP0 rfl
        subst hP1
        clear hP0
        replace kS := kS rfl
        go_enter Tryz.func24, Tryz.ntmps24
        go_wp2_with (first
          | (go_at_call 47; rw [← (show V = _ from hVH)]; refine Calls.mono (kR V (Fr.refl _ _)) ?_; rintro e w1 ⟨rfl, f1⟩; obtain ⟨b0, b1, b2⟩ := (show ∀ u, Fr FN V u → _ from box3H) w1 f1)
          | (go_at_call 48; have f1' := f1; refine Calls.mono (kI w1 f1') ?_; rintro e w2 ⟨v2, rfl, hr2, f2⟩; have f12 : Fr FN V w2 := f1'.same f2; have hr2' := hr2 g rfl; obtain ⟨ga, gc, rfl, _⟩ := hr2'.slice; have kF2 := kF w1 w2 _ hr2' f2 f12; clear hr2 hr2'; obtain ⟨d0, d1, d2⟩ := (show ∀ u, Fr FN V u → _ from box3H) w2 f12))
        go_region_held3 (fun w' => w'.cell? ⟨w.heap.size, 0, none⟩ = some (ct m.name) ∧ w'.cell? ⟨w.heap.size, 1, none⟩ = some (.slice ao m.imports.length cap) ∧ w'.cell? ⟨w.heap.size, 2, none⟩ = some (.slice ad m.decls.length capd)) (first | (refine ⟨by with_reducible assumption, by with_reducible assumption, by with_reducible assumption⟩) | go_keep) (first
          | (go_at_call 50; (with_reducible refine Calls.mono (kF2 w2.drew (Fr.drew _ _)) ?_); rintro e w3 ⟨v3, rfl, c3, f3⟩; obtain ⟨fo, fc, rfl, _⟩ := c3.slice; obtain ⟨e0, e1, e2⟩ := (show ∀ u, Fr FN V u → _ from box3H) w3 f3)
          | (go_at_call 49; (with_reducible refine Calls.mono (kD w3 _ _ f3 c3) ?_); rintro e w4 ⟨v4, v5, rfl, c4, f4⟩; obtain ⟨a4, k4, rfl, hc4⟩ := c4.col; obtain ⟨g0, g1, g2⟩ := (show ∀ u, Fr FN V u → _ from box3H) w4 f4; have zz := (show ∀ u, Fr FN V u → u.heap[w.heap.size + 1]? = some zIf from boxZH) w4 f4; obtain ⟨z0, z1⟩ := Ty.box2 zz; have zf0 := Ty.frozen_row zz 0; have zf1 := Ty.frozen_row zz 1))
        clear z0 z1 zf0 zf1
        go_wp2_with fail
        have f4d : Fr FN V w4.drew := f4.same (Fr.drew _ _)
        have hc4d : CoL w4.drew a4 k4 cs := hc4.keep (Fr.drew _ _)
        go_region_held3 (fun w' => w'.cell? ⟨w.heap.size, 0, none⟩ = some (ct m.name) ∧ w'.cell? ⟨w.heap.size, 1, none⟩ = some (.slice ao m.imports.length cap) ∧ w'.cell? ⟨w.heap.size, 2, none⟩ = some (.slice ad m.decls.length capd)) (first | (refine ⟨by with_reducible assumption, by with_reducible assumption, by with_reducible assumption⟩) | go_keep) (first
          | (go_at_call 51; (with_reducible refine Calls.mono (kS w4.drew a4 k4 f4d hc4d) ?_); rintro e w5 ⟨v6, its, rfl, hp5, hs5, ⟨ia, ic, rfl, hit⟩, f5⟩; obtain ⟨h0, h1, h2⟩ := (show ∀ u, Fr FN V u → _ from box3H) w5 f5; have zz := (show ∀ u, Fr FN V u → u.heap[w.heap.size + 1]? = some zIf from boxZH) w5 f5; obtain ⟨z0, z1⟩ := Ty.box2 zz; have zf0 := Ty.frozen_row zz 0; have zf1 := Ty.frozen_row zz 1))
        go_wp2_with fail
        have hs4 := f4.size
        refine post_cell3 rfl rfl _ _ rfl (run_loadVar_row _ _ _ _ _ _ _ (two_put ((show ∀ u, Fr FN V u → u.heap[w.heap.size + 1]? = some zIf from boxZH) w5 f5) _ _) Tryz.underlying25 rfl size_iface) ⟨_, ⟨m.name, its⟩, rfl, ⟨ia, ic, rfl, hit _ ((two_at w5 _ _ _).mono fun k _ e => by subst e; show _ < w4.heap.size; omega)⟩, Or.inr ⟨by rw [(show exP m l = _ from hexH)], rfl, hEH, g, hIH, hErH, ?_, hs5⟩, ((show Fr FN w V from fVH).same f5).over (two_at w5 _ _ _) (fun k e => by subst e; omega)⟩
        rw [(show _ = cs from hcsH)]
        exact hp5
      · have b1 : (Er != 0) = true := by simpa using hE2
        have hE2H : Hidden (Er ≠ 0) := hE2
        clear kS hE2
        go_enter Tryz.func24, Tryz.ntmps24
        go_wp2_with (first
          | (go_at_call 47; rw [← (show V = _ from hVH)]; refine Calls.mono (kR V (Fr.refl _ _)) ?_; rintro e w1 ⟨rfl, f1⟩; obtain ⟨b0, b1, b2⟩ := (show ∀ u, Fr FN V u → _ from box3H) w1 f1)
          | (go_at_call 48; have f1' := f1; refine Calls.mono (kI w1 f1') ?_; rintro e w2 ⟨v2, rfl, hr2, f2⟩; have f12 : Fr FN V w2 := f1'.same f2; have hr2' := hr2 g rfl; obtain ⟨ga, gc, rfl, _⟩ := hr2'.slice; have kF2 := kF w1 w2 _ hr2' f2 f12; clear hr2 hr2'; obtain ⟨d0, d1, d2⟩ := (show ∀ u, Fr FN V u → _ from box3H) w2 f12))
        go_region_held3 (fun w' => w'.cell? ⟨w.heap.size, 0, none⟩ = some (ct m.name) ∧ w'.cell? ⟨w.heap.size, 1, none⟩ = some (.slice ao m.imports.length cap) ∧ w'.cell? ⟨w.heap.size, 2, none⟩ = some (.slice ad m.decls.length capd)) (first | (refine ⟨by with_reducible assumption, by with_reducible assumption, by with_reducible assumption⟩) | go_keep) (first
          | (go_at_call 50; (with_reducible refine Calls.mono (kF2 w2.drew (Fr.drew _ _)) ?_); rintro e w3 ⟨v3, rfl, c3, f3⟩; obtain ⟨fo, fc, rfl, _⟩ := c3.slice; obtain ⟨e0, e1, e2⟩ := (show ∀ u, Fr FN V u → _ from box3H) w3 f3)
          | (go_at_call 49; (with_reducible refine Calls.mono (kD w3 _ _ f3 c3) ?_); rintro e w4 ⟨v4, v5, rfl, c4, f4⟩; obtain ⟨a4, k4, rfl, hc4⟩ := c4.col; obtain ⟨g0, g1, g2⟩ := (show ∀ u, Fr FN V u → _ from box3H) w4 f4; have zz := (show ∀ u, Fr FN V u → u.heap[w.heap.size + 1]? = some zIf from boxZH) w4 f4; obtain ⟨z0, z1⟩ := Ty.box2 zz; have zf0 := Ty.frozen_row zz 0; have zf1 := Ty.frozen_row zz 1))
        go_wp2_with fail
        refine post_cell3 rfl rfl _ _ rfl (run_loadVar_row _ _ _ _ _ _ _ (two_put ((show ∀ u, Fr FN V u → u.heap[w.heap.size + 1]? = some zIf from boxZH) w4 f4) _ _) Tryz.underlying25 rfl size_iface) ⟨_, ⟨[], []⟩, rfl, zero_fc _, Or.inl ⟨by rw [(show exP m l = _ from hexH)]; exact hE2H, rfl⟩, ((show Fr FN w V from fVH).same f4).over (two_at w4 _ _ _) (fun k e => by subst e; omega)⟩
  · have hexH : Hidden (exP m l = (0, E)) := by rw [if_pos (by simpa using hE0)] at hex; exact hex
    have b1 : (E != 0) = true := by simpa using hE0
    obtain ⟨a0, a1, a2⟩ := box3 V (Fr.refl _ _)
    rw [(show exP m l = _ from hexH)]
    have hE0H : Hidden (E ≠ 0) := hE0
    clear hE hex h3 hokl hi hd box3 boxZ hA hB hV fV hE0
    rw [(show V = _ from hVH)] at a0 a1 a2
    go_enter Tryz.func24, Tryz.ntmps24
    go_wp2_with (first | (go_at_call 47; rw [← (show V = _ from hVH)]; refine Calls.mono (kR V (Fr.refl _ _)) ?_; rintro e w1 ⟨rfl, f1⟩; obtain ⟨b0, b1, b2⟩ := (show ∀ u, Fr FN V u → _ from box3H) w1 f1; have zz := (show ∀ u, Fr FN V u → u.heap[w.heap.size + 1]? = some zIf from boxZH) w1 f1; obtain ⟨z0, z1⟩ := Ty.box2 zz; have zf0 := Ty.frozen_row zz 0; have zf1 := Ty.frozen_row zz 1))
    refine post_cell3 rfl rfl _ _ rfl (run_loadVar_row _ _ _ _ _ _ _ (two_put ((show ∀ u, Fr FN V u → u.heap[w.heap.size + 1]? = some zIf from boxZH) w1 f1) _ _) Tryz.underlying25 rfl size_iface) ⟨_, ⟨[], []⟩, rfl, zero_fc _, Or.inl ⟨by rw [(show exP m l = _ from hexH)]; exact hE0H, rfl⟩, ((show Fr FN w V from fVH).same f1).over (two_at w1 _ _ _) (fun k e => by subst e; omega)⟩
end Go.Proofs.YtakkiipkmogagaaGreat.Fo.Ic
