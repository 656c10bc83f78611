/- typesOf; Shape, in general. -/
import Derived.Test.YtphpmaimgndjmaaDoorCdVg
import Derived.Test.YtphpmaimgndjmaaDoorCdFz
namespace Go.Proofs.YtphpmaimgndjmaaDoor.Cd
open Go.RowKit Ty
set_option linter.unusedSimpArgs false
set_option linter.unusedVariables false

/-- A row of ints of the call's own. -/
abbrev IR (w : World) (B : Nat) (v : Value) (l : List Int) : Prop := w.ownsRow B 3 1 v l.length (l.map ci)
theorem info_ii : (Tryd.prog.info? 3).map (fun i => (i.zero, i.size, i.bytes)) = some (some (.int .i64 0), 1, 8) := by kernel_rfl
theorem wpl_int {w : World} {ops : Array Oper} {rest : List Oper} {o : Oper} {a : Act} {Q : Exit → Act → World → Prop} (hgd : o.guard = none) (s x : Operand)
    (ho : o.op = .call { callee := .builtin .append, args := #[s, x], argTypes := #[22, 22] }) (B : Nat) (v : Value) (l : List Int) (c : Int) (g : Nat)
    (hs : a.eval s = v) (hr : IR w B v l) (hx : a.eval x = .slice (some ⟨g, 0, none⟩) 1 1) (hc : w.cell? ⟨g, 0, none⟩ = some (ci c)) (hl : l.length ≤ 100000) (hB : B ≤ w.heap.size)
    (h : ∀ v' w', IR w' B v' (l ++ [c]) → Ap w w' v v' → wpList Tryd.prog ops Q rest (a.put o.dst v') w') : wpList Tryd.prog ops Q (o :: rest) a w := by
  refine wpl_append hgd s x 22 3 _ 1 8 Tryd.underlying22 info_ii rfl (by decide) ho B v l.length (l.map ci) ⟨g, 0, none⟩ 1 1 [ci c] hs hr hx rfl ?_ ?_ ?_ ?_ hB ?_
  · intro j u hu
    rw [Addr.add_lit, Nat.zero_add]
    cases j with
    | zero => simp at hu; subst hu; exact hc
    | succ j => simp at hu
  · intro u hu
    simp only [List.mem_cons, List.not_mem_nil, or_false] at hu
    rw [hu]; rfl
  · simp only [maxLen]; omega
  · omega
  · intro v' w' h1 h2 h3
    refine h v' w' ?_ (Ap.of h2 h3)
    show w'.ownsRow B _ 1 v' (l ++ [c]).length ((l ++ [c]).map ci)
    rw [List.map_append, show (l ++ [c]).length = l.length + 1 by rw [List.length_append]; rfl]
    simpa using h1
set_option maxRecDepth 20000 in
set_option maxHeartbeats 2000000 in
theorem typesOf_any (l : List Int) (hv : Vd l) (hl : l.length ≤ 1000) (w : World) :
    Calls Tryd.prog 19 #[ct (encSt l)] w fun e w' => ∃ v, e = .returned v ∧ IR w' w.heap.size v l ∧ Fr (fun _ => False) w w' := by
  obtain ⟨n, hn⟩ : ∃ n, n = l.length := ⟨_, rfl⟩
  have hel : (encSt l).length = n := by rw [hn]; simp [encSt]
  have hls := str_len (encSt l)
  rw [hel] at hls
  have hidx : ∀ (j : Nat) (x : Int), l[j]? = some x → ∀ W : World, (Instr.index 9 (.string ⟨(encSt l).toArray⟩) (.int .i64 (j : Int))).run Tryd.prog W = .ok (.int .u8 x) W := fun j x hx W => by
    have := str_index (encSt l) j (encB x) (by unfold encSt; rw [List.getElem?_map, hx]; rfl) W
    rw [(encB_val (hv x (List.mem_of_getElem? hx))).1] at this
    exact this
  have hidxH : Hidden _ := hidx
  have hvH : Hidden (Vd l) := hv
  have hnH : Hidden (n = l.length) := hn
  have hln : n ≤ 1000 := by omega
  have helH : Hidden ((encSt l).length = n) := hel
  generalize encSt l = S at hidxH helH ⊢
  clear hidx hv hn hel hl hls
  go_enter Tryd.func19, Tryd.ntmps19
  go_wp2_with fail
  go_loopg [3, 4, 7] n (fun k v _ iv wr => ∃ j : Nat, iv = .int .i64 (j : Int) ∧ j ≤ n ∧ k = n - j ∧ IR wr w.heap.size v (l.take j) ∧ Fr (fun _ => False) w wr)
  case atStart => exact ⟨0, rfl, by omega, rfl, own_nil _ _ _ _, Fr.refl _ _⟩
  case round =>
    obtain ⟨j, rfl, hj, hk, hO, hf⟩ := hrel
    have hkH : Hidden (gk = n - j) := hk
    have hOH : Hidden (IR wr w.heap.size u3 (l.take j)) := hO
    have hfH : Hidden (Fr (fun _ => False) w wr) := hf
    have hszH : Hidden (w.heap.size ≤ wr.heap.size) := hf.size
    clear hk hO hf
    by_cases hjl : j < n
    · obtain ⟨x, hx⟩ : ∃ x, l[j]? = some x := ⟨_, List.getElem?_eq_getElem (by have : n = l.length := hnH; omega)⟩
      have hrun := (show ∀ (j : Nat) (x : Int), l[j]? = some x → _ from hidxH) j x hx
      have hxv := (show Vd l from hvH) x (List.mem_of_getElem? hx)
      have hw : IntKind.i64.wrap x = x := by rcases (valued_iff x).1 hxv with rfl | rfl | rfl <;> decide
      have htk : Hidden (l.take (j + 1) = l.take j ++ [x]) := by show _ = _; rw [List.take_add_one, hx]; rfl
      have hjs : j < List.length S := by have : List.length S = n := helH; omega
      have hjn2 : (j : Int) < (List.length S : Int) := by omega
      clear hx hxv
      go_wp2_with (first
        | (at_builtin
           refine wpl_int rfl _ _ rfl w.heap.size u3 (l.take j) x wr.heap.size rfl ?e0 rfl ?e1 ?e2 ?e3 ?_
           case e0 => exact own_keep (show IR wr w.heap.size u3 (l.take j) from hOH) (Fr.alloc (fun _ => False) _ _) (fun _ _ f => f)
           case e1 => exact cell_of_row _ _ 0 _ _ _ (alloc_new _ _)
           case e2 => rw [List.length_take]; omega
           case e3 => have : w.heap.size ≤ wr.heap.size := hszH; simp; omega
           intro v5 w5 hr5 a5
           have hr5H : Hidden (IR w5 w.heap.size v5 (l.take j ++ [x])) := hr5
           have f5H : Hidden (Fr (fun _ => False) w w5) := (show Fr (fun _ => False) w wr from hfH).over ((Fr.alloc (fun k => u3.ownBlock = some k) _ _).same a5.fr) (fun k e => ((own_block (show IR wr w.heap.size u3 (l.take j) from hOH)) k e).1)
           clear hr5 a5))
      go_roundg (n - (j + 1))
      case measure => have : gk = n - j := hkH; omega
      case rel => exact ⟨j + 1, by go_num, by omega, rfl, by rw [show l.take (j + 1) = _ from htk]; exact hr5H, f5H⟩
    · obtain rfl : j = n := by omega
      have e : l.take j = l := by rw [show j = l.length from hnH, List.take_length]
      have hfin : Hidden (IR wr w.heap.size u3 l) := by have := (show IR wr w.heap.size u3 (l.take j) from hOH); rw [e] at this; exact this
      have hjs : ¬ j < List.length S := by have : List.length S = j := helH; omega
      have hjn2 : decide (j < List.length S) = false := by simpa using hjs
      clear hjl e
      go_wp2_with fail
      go_ret
      exact ⟨_, rfl, hfin, hfH⟩
/-- The shape at a place, if it was come to. -/
def atS (o : Option Cs) (k : Nat) : Option Sp := o.bind fun L => (L[k]?).bind fun c => c.map fun x => x.2
/-- What Shape answers. -/
def shpS (f : Fu) (p : Fm) (a : Int) : Option Sp := if (verS f p).2 ≠ 0 ∨ a < 0 ∨ (f.cd.length : Int) ≤ a then none else atS (finS f p) a.toNat
end Go.Proofs.YtphpmaimgndjmaaDoor.Cd
