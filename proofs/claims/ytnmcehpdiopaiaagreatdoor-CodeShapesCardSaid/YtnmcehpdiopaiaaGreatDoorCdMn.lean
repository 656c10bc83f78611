/- The law's own row of instructions (mine); the program's instructions and the document's (sameCode). -/
import Derived.Test.YtnmcehpdiopaiaaGreatDoorCdNAll
import Derived.Test.YtnmcehpdiopaiaaGreatDoorCdT
import Derived.Deep.RegionHeld3
import Derived.OwnWalk
namespace Go.Proofs.YtnmcehpdiopaiaaGreatDoor.Cd
open Go.RowKit Ty
set_option linter.unusedSimpArgs false
set_option linter.unusedVariables false

/-- append of some elements to a row of the call's own, as a step of a region whose order is drawn. -/
theorem step_raw {w : World} {ops : Array Oper} {o : Oper} {a : Act} {K : Act → World → Prop} {Q : Exit → Act → World → Prop} {E : Prop} (hgd : o.guard = none) (s x : Operand) (ty e : TypeId) (z : Value) (size bytes : Nat)
    (hty : Tryz.prog.underlying ty = some (.slice e)) (hinfo : (Tryz.prog.info? e).map (fun i => (i.zero, i.size, i.bytes)) = some (some z, size, bytes)) (hzs : z.cells.size = size) (hsz : 0 < size)
    (ho : o.op = .call { callee := .builtin .append, args := #[s, x], argTypes := #[ty, ty] }) (B : Nat) (v : Value) (n : Nat) (cells : List Value) (ad : Addr) (k c : Nat) (news : List Value)
    (hs : a.eval s = v) (hr : w.ownsRow B e size v n cells) (hx : a.eval x = .slice (some ad) k c) (hl : news.length = k * size) (hc : ∀ (j : Nat) (u : Value), news[j]? = some u → w.cell? (ad.add j) = some u) (h1 : ∀ u ∈ news, u.oneCell' = true)
    (hm : n + k ≤ maxLen) (hb : (n + k) * bytes ≤ 140737488355328) (hB : B ≤ w.heap.size)
    (h : ∀ v' w', w'.ownsRow B e size v' (n + k) (cells ++ news) → Fr (fun b => v.ownBlock = some b) w w' → (v'.ownBlock = v.ownBlock ∨ v'.ownBlock = some w.heap.size) → K (a.put o.dst v') w') : if Region.wanted o (yielded ops a.tmps) = true then Oper.wp Tryz.prog o a w K Q else E := by
  have hw : Region.wanted o (yielded ops a.tmps) = true := by simp [Region.wanted, hgd]
  rw [if_pos hw]
  cases hi : Tryz.prog.info? e with
  | none => rw [hi] at hinfo; cases hinfo
  | some i =>
    rw [hi] at hinfo
    simp only [Option.map_some, Option.some.injEq, Prod.mk.injEq] at hinfo
    obtain ⟨v', w', hrun, h2, h3, _, h5⟩ := run_append_own_at (P := Tryz.prog) w B ty o.type e i z size bytes hty hi hinfo.1 hinfo.2.1 hinfo.2.2 hzs hsz v n cells hr ad k c news hl hc h1 hm hb hB
    unfold Oper.wp
    simp only [execOp, ho, resolve, invoke, builtin, Sem.run_bind, Sem.run_pure, Result.andThen_ok, List.map_toArray, List.map_cons, List.map_nil, hs, hx, hrun]
    exact h v' w' h2 ((Fr.grown h3).mono fun k _ e => e.symm) h5
theorem inC_one (x : In) : ∀ u ∈ inC x, u.oneCell' = true := by
  intro u hu
  simp only [inC, List.mem_cons, List.not_mem_nil, or_false] at hu
  rcases hu with rfl | rfl | rfl | rfl <;> rfl
theorem flat_snoc (l : List In) (x : In) : (l ++ [x]).flatMap inC = l.flatMap inC ++ inC x := by simp
set_option maxRecDepth 20000 in
set_option maxHeartbeats 4000000 in
theorem mine_any (ao : Option Addr) (n cap : Nat) (l : List In) (hn : l.length = n) (w : World) (h : IL w ao cap l) (hb : n ≤ 4398046510976) :
    Calls Tryz.prog 15 #[.slice ao n cap] w fun e w' => ∃ v, e = .returned v ∧ IW w' w.heap.size 64 v l ∧ Fr (fun _ => False) w w' := by
  have hH : Hidden (IL w ao cap l) := h
  have hnH : Hidden (l.length = n) := hn
  have hcap : n ≤ cap := by rw [← hn]; exact h.1
  have hcm : cap ≤ 9223372036854775807 := by have := h.2.1; simpa [maxLen] using this
  clear hn h
  go_enter Tryz.func15, Tryz.ntmps15
  go_wp2_with fail
  go_loopg [3, 4] n (fun k v iv wr => ∃ j : Nat, iv = .int .i64 (j : Int) ∧ j ≤ n ∧ k = n - j ∧ wr.ownsRow w.heap.size 64 4 v j ((l.take j).flatMap inC) ∧ Ap w wr (.slice none 0 0) v)
  case atStart => exact ⟨0, rfl, by omega, rfl, own_nil _ _ _ _, Ap.refl _ _⟩
  case round =>
    obtain ⟨j, rfl, hj, hk, hO, hap⟩ := hrel
    have hkH : Hidden (gk = n - j) := hk
    have hOH : Hidden (wr.ownsRow w.heap.size 64 4 u3 j ((l.take j).flatMap inC)) := hO
    have hapH : Hidden (Ap w wr (.slice none 0 0) u3) := hap
    have fwr : Fr (fun _ => False) w wr := hap.none
    have hlow := own_block hO
    obtain ⟨aoo, capo, rfl, o1, o2, _⟩ := own_slice hO (by decide)
    have o3 : capo ≤ 9223372036854775807 := by simpa [maxLen] using o2
    clear hk hO hap o2
    by_cases hjl : j < n
    · obtain ⟨x, hx⟩ : ∃ x, l[j]? = some x := ⟨_, List.getElem?_eq_getElem (by have : l.length = n := hnH; omega)⟩
      obtain ⟨b, off, rfl, hcells⟩ := (show IL w ao cap l from hH).2.2.2.resolve_left (by rintro rfl; simp at hx)
      obtain ⟨c0, c1, c2, c3⟩ := IL.at' (cap := cap) (fun i x hx j u hu => fwr.cellN (hcells i x hx j u hu)) hx
      have hbl : b < w.heap.size := World.block_lt_of_cell? w _ (hcells j x hx 0 _ rfl)
      have htk : Hidden (l.take (j + 1) = l.take j ++ [x]) := by show _ = _; rw [List.take_add_one, hx]; rfl
      have nb : ¬ (Value.slice aoo j capo).ownBlock = some b := fun e => by have := (hlow b e).1; omega
      have nbH : Hidden (¬ (Value.slice aoo j capo).ownBlock = some b) := nb
      have hszr : Hidden (w.heap.size ≤ wr.heap.size) := fwr.size
      have hbH : Hidden (n ≤ 4398046510976) := hb
      clear hx hcells hlow fwr hbl nb hb
      obtain ⟨op, nn, t, bb⟩ := x
      simp only [] at c0 c1 c2 c3
      go_wp2_with fail
      go_region_held3 (fun w' => w'.cell? ⟨b, off + j * 4, none⟩ = some (ci op) ∧ w'.cell? ⟨b, off + j * 4 + 1, none⟩ = some (ci nn) ∧ w'.cell? ⟨b, off + j * 4 + 2, none⟩ = some (ci t) ∧ w'.cell? ⟨b, off + j * 4 + 3, none⟩ = some (.int .u64 bb)) (first | (refine ⟨by with_reducible assumption, by with_reducible assumption, by with_reducible assumption, by with_reducible assumption⟩) | go_keep) (
        (refine step_raw rfl _ _ 35 64 (.agg #[.int .i64 0, .int .i64 0, .int .i64 0, .int .u64 0]) 4 32 Tryz.underlying35 info_in rfl (by decide) rfl w.heap.size (.slice aoo j capo) j ((l.take j).flatMap inC) ⟨wr.heap.size, 0, none⟩ 1 1 [ci op, ci nn, ci t, .int .u64 bb] rfl ?_ rfl rfl ?_ ?_ ?_ ?_ ?_ ?_
         · exact own_keep (show wr.ownsRow w.heap.size _ 4 _ j _ from hOH) (by first | exact Fr.alloc (fun _ => False) wr _ | exact (Fr.alloc (fun _ => False) wr _).same (Fr.drew _ _) : Fr (fun _ => False) wr _) (fun _ _ f => f)
         · intro i u hu
           rw [Addr.add_lit, Nat.zero_add]
           refine (cell_of_row _ _ _ _ _ _ (alloc_new wr _)).trans ?_
           rcases i with _ | _ | _ | _ | i
           · simp at hu; subst hu; rfl
           · simp at hu; subst hu; rfl
           · simp at hu; subst hu; rfl
           · simp at hu; subst hu; rfl
           · simp at hu
         · intro u hu
           simp at hu
           rcases hu with rfl | rfl | rfl | rfl <;> rfl
         · have h2 : n ≤ 4398046510976 := hbH
           simp [maxLen]; omega
         · have h2 : n ≤ 4398046510976 := hbH
           omega
         · have h1 : w.heap.size ≤ wr.heap.size := hszr
           simp; omega
         intro v6 w6 r6 f6 o6
         have e0 := f6.cell ((by first | exact Fr.alloc (fun _ => False) wr _ | exact (Fr.alloc (fun _ => False) wr _).same (Fr.drew _ _) : Fr (fun _ => False) wr _).cellN c0) nbH
         have e1 := f6.cell ((by first | exact Fr.alloc (fun _ => False) wr _ | exact (Fr.alloc (fun _ => False) wr _).same (Fr.drew _ _) : Fr (fun _ => False) wr _).cellN c1) nbH
         have e2 := f6.cell ((by first | exact Fr.alloc (fun _ => False) wr _ | exact (Fr.alloc (fun _ => False) wr _).same (Fr.drew _ _) : Fr (fun _ => False) wr _).cellN c2) nbH
         have e3 := f6.cell ((by first | exact Fr.alloc (fun _ => False) wr _ | exact (Fr.alloc (fun _ => False) wr _).same (Fr.drew _ _) : Fr (fun _ => False) wr _).cellN c3) nbH
         have r6H : Hidden (w6.ownsRow w.heap.size 64 4 v6 (j + 1) ((l.take j).flatMap inC ++ [ci op, ci nn, ci t, .int .u64 bb])) := r6
         have a6H : Hidden (Ap wr w6 (.slice aoo j capo) v6) := Ap.after (by first | exact Fr.alloc (fun _ => False) wr _ | exact (Fr.alloc (fun _ => False) wr _).same (Fr.drew _ _) : Fr (fun _ => False) wr _) (Ap.of f6 o6)
         clear r6 f6 o6))
      go_wp2_with fail
      go_roundg (n - (j + 1))
      case measure => have : gk = n - j := hkH; omega
      case rel =>
        refine ⟨j + 1, by go_num, by omega, rfl, ?_, (show Ap w wr _ _ from hapH).trans a6H⟩
        rw [show l.take (j + 1) = l.take j ++ [_] from htk, flat_snoc]
        exact r6H
    · obtain rfl : j = n := by omega
      have hll : l.length = j := hnH
      have e : l.take j = l := by rw [← hll, List.take_length]
      rw [e] at hOH
      clear e hll hjl
      go_wp2_with fail
      go_ret
      refine ⟨_, rfl, ?_, (show Ap w wr _ _ from hapH).none⟩
      unfold IW
      rw [show l.length = j from hnH]
      exact hOH
end Go.Proofs.YtnmcehpdiopaiaaGreatDoor.Cd
