/- The program's texts of expressions: marks, literals, a builder that is written to. -/
import Derived.Test.YtfkccanjdlajlabGreatDoorTrD2
import Derived.Test.YtfkccanjdlajlabGreatDoorNyA
import Derived.Test.YtfkccanjdlajlabGreatDoorIyA
import Derived.Test.YtfkccanjdlajlabGreatDoorLxJoin
namespace Go.Proofs.YtfkccanjdlajlabGreatDoor
open Go.RowKit Te
set_option linter.unusedSimpArgs false
set_option linter.unusedVariables false

/-- The text of a literal. -/
def txS (vt vb : Int) : Bs := if vt = 1 then Lib.itoa vb else if vt = 2 then F.textS vb else if vb = 0 then [102, 97, 108, 115, 101] else [116, 114, 117, 101]
theorem kb_fr {w w' : World} (h : F.Kb w w') : Fr (fun _ => False) w w' := fr_of_kept h.1 h.2
theorem kb_frD {w w' : World} (h : D.Kb w w') : Fr (fun _ => False) w w' := fr_of_kept h.1 h.2
set_option maxRecDepth 20000 in
set_option maxHeartbeats 1000000 in
theorem lit_text (vt vb : Int) (hb0 : 0 ≤ vb) (hb1 : vb < 18446744073709551616) (h1 : vt = 1 → vb < 9223372036854775808) (w : World) (ht : F.Tab w) :
    Calls Tryz.prog 97 #[.agg #[ci vt, .int .u64 vb]] w fun e w' => e = .returned (ct (txS vt vb)) ∧ Fr (fun _ => False) w w' := by
  have f0 := Fr.alloc (fun _ => False) w (.cells #[ci vt, .int .u64 vb] 42)
  by_cases e1 : vt = 1
  · subst e1
    have hlt := h1 rfl
    have kd := D.dec_any vb ⟨by omega, by omega⟩ _ (tab_fr ht f0)
    clear h1
    go_enter Tryz.func97, Tryz.ntmps97
    go_wp2_with fail
    go_at_call 131
    refine kd.mono ?_
    rintro e w1 ⟨rfl, f1⟩
    go_wp2_with fail
    go_ret
    exact ⟨rfl, f0.same (kb_frD f1)⟩
  · have n1 : (vt == 1) = false := by simp [e1]
    by_cases e2 : vt = 2
    · subst e2
      have kd := F.text_any vb ⟨by omega, by omega⟩ _ (tab_fr ht f0)
      clear h1
      go_enter Tryz.func97, Tryz.ntmps97
      go_wp2_with fail
      go_at_call 132
      refine kd.mono ?_
      rintro e w1 ⟨rfl, f1⟩
      go_wp2_with fail
      go_ret
      exact ⟨rfl, f0.same (kb_fr f1)⟩
    · have n2 : (vt == 2) = false := by simp [e2]
      clear h1
      by_cases e3 : vb = 0
      · subst e3
        go_enter Tryz.func97, Tryz.ntmps97
        go_wp2_with fail
        go_ret
        exact ⟨by simp [txS, e1, e2], f0⟩
      · have n3 : (vb == 0) = false := by simp [e3]
        go_enter Tryz.func97, Tryz.ntmps97
        go_wp2_with fail
        go_ret
        exact ⟨by simp [txS, e1, e2, e3], f0⟩
theorem mark_text (op : Int) (r : Bs) (hr : Hidden (Te.mark op = r)) (w : World) : Calls Tryz.prog 102 #[ci op] w fun e w' => e = .returned (ct r) ∧ w' = w := by
  go_enter Tryz.func102, Tryz.ntmps102
  go_wp2
  all_goals (go_ret; refine ⟨?_, rfl⟩; rw [← (show Te.mark op = r from hr)]; clear hr)
  all_goals (simp only [beq_iff_eq, beq_eq_false_iff_ne, ne_eq] at *; simp [Te.mark, *])

/-- A builder's call behind another one. -/
theorem bs_trans {B b : Nat} {w w1 w2 : World} (h : Fr (BS B b w) w w1) (g : Fr (BS B b w1) w1 w2) : Fr (BS B b w) w w2 := by
  refine h.trans g (fun k hk hb => ?_)
  rcases hb with hb | ⟨h1, cur, fr, h2⟩
  · exact Or.inl hb
  · by_cases hS : BS B b w k
    · exact hS
    · exact Or.inr ⟨h1, cur, fr, by rw [← h.block k hk hS]; exact h2⟩
theorem bs_quiet {B b : Nat} {w w1 : World} (h : Fr (fun _ => False) w w1) : Fr (BS B b w) w w1 := h.mono (fun _ _ f => f.elim)
theorem bs_then {B b : Nat} {w w1 w2 : World} (h : Fr (fun _ => False) w w1) (g : Fr (BS B b w1) w1 w2) : Fr (BS B b w) w w2 := bs_trans (bs_quiet h) g
/-- What is no row of bytes and not the builder stays. -/
theorem bs_keep {B b : Nat} {w w1 : World} (h : Fr (BS B b w) w w1) {k : Nat} {cs : Array Value} {t : TypeId} {fr : Nat × Nat} (hk : w.heap[k]? = some (.cells cs t fr)) (hb : k ≠ b) (ht : t ≠ 5) : w1.heap[k]? = some (.cells cs t fr) := by
  refine h.heap hk (fun hS => ?_)
  rcases hS with hS | ⟨_, cur, fr', h2⟩
  · exact hb hS
  · rw [hk] at h2
    simp only [Option.some.injEq, Obj.cells.injEq] at h2
    exact ht h2.2.1
theorem Bld.keepN {B b : Nat} {bs : List UInt8} {w w' : World} (h : Bld B b bs w) (hf : Fr (fun _ => False) w w') : Bld B b bs w' := by
  have key : ∀ {p : Value}, Bat B b p bs w → Bat B b p bs w' := by
    rintro p ⟨h1, v, hb, ho, hn⟩
    refine ⟨h1, v, hf.heap hb (fun f => f), ?_, hn⟩
    obtain ⟨g1, g2⟩ := ho
    refine ⟨g1, ?_⟩
    rcases g2 with h0 | ⟨g, cap, cur, rfl, hb', hg, hr⟩
    · exact Or.inl h0
    · exact Or.inr ⟨g, cap, cur, rfl, hb', hf.heap hg (fun f => f), hr⟩
  rcases h with h | h
  · exact Or.inl (key h)
  · exact Or.inr (key h)
/-- Where an expression is written: the tree lies ahead of the builder. -/
structure Wr (w0 : World) (B b : Nat) (acc : Bs) (w : World) : Prop where
  fr : Fr (fun _ => False) w0 w
  low : w0.heap.size ≤ B
  size : B ≤ w.heap.size
  bld : Bld B b acc w
theorem Wr.quiet {w0 w w' : World} {B b : Nat} {acc : Bs} (h : Wr w0 B b acc w) (f : Fr (fun _ => False) w w') : Wr w0 B b acc w' := ⟨h.fr.same f, h.low, Nat.le_trans h.size f.size, h.bld.keepN f⟩
theorem Wr.next {w0 w w' : World} {B b : Nat} {acc acc' : Bs} (h : Wr w0 B b acc w) (g : Fr (BS B b w) w w') (hb : Bat B b (.pointer (some ⟨b, 0, none⟩)) acc' w') : Wr w0 B b acc' w' :=
  ⟨bs_over h.fr g h.low h.bld.low, h.low, Nat.le_trans h.size g.size, Or.inr hb⟩
/-- Behind a call that wrote. -/
def Wrote (w0 : World) (B b : Nat) (acc : Bs) (w : World) (w' : World) : Prop := Wr w0 B b acc w' ∧ Fr (BS B b w) w w'
end Go.Proofs.YtfkccanjdlajlabGreatDoor
