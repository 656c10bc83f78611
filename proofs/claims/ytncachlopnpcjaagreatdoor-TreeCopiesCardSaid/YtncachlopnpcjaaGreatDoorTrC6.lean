/- The program's copies of expressions, whole (for TreeCopies). -/
import Derived.Test.YtncachlopnpcjaaGreatDoorTrC5
namespace Go.Proofs.YtncachlopnpcjaaGreatDoor.Sl
open Go.RowKit Te
set_option linter.unusedSimpArgs false
set_option linter.unusedVariables false

def AllC : Exs → Prop
  | .nil => True
  | .cons h k r => CxX h k ∧ AllC r
theorem exC1 (h : EH) (ao : Option Addr) (n cap : Nat) : ∀ u ∈ exC h (.slice ao n cap), u.oneCell' = true := by
  intro u hu
  simp only [exC, List.mem_cons, List.not_mem_nil, or_false] at hu
  rcases hu with rfl | rfl | rfl | rfl | rfl | rfl | rfl <;> rfl
/-- A row of copies with an element more. -/
theorem row_more {α : Type} {K : Nat → Nat → World → α → List Value → Prop} {lo a b size : Nat} {ty : TypeId} {W w2 w3 : World} {v v3 : Value} {pre : List α} {x : α} {cells c : List Value} (hch : Rw.Chunks (RE K lo W v) size pre cells) (hr3 : w3.ownsRow lo ty size v3 (pre.length + 1) (cells ++ c)) (hc : c.length = size) (hlow : ∀ k, v.ownBlock = some k → k < W.heap.size)
    (f : Fr (fun k => v.ownBlock = some k) W w3) (hv : v3.ownBlock = v.ownBlock ∨ ∃ n, b ≤ n ∧ W.heap.size ≤ n ∧ v3.ownBlock = some n) (ha : W.heap.size ≤ a) (hla : lo ≤ a) (hb : b ≤ w3.heap.size) (hW : Within a b w2 (fun u => K a b u x c)) (hag : Ag a b w2 w3) : Rw.Row (RE K lo w3 v3) ty size w3 lo v3 (pre ++ [x]) := by
  refine ⟨cells ++ c, by rw [List.length_append]; exact hr3, (chunks_map hch (fun y d h => h.step f ?_)).app ⟨c, [], by simp, hc, ⟨a, b, hla, hb, fun g hg => ?_, hW.later hag⟩, rfl⟩⟩
  · rcases hv with h | ⟨n, _, h1, h2⟩
    · exact Or.inl h
    · exact Or.inr ⟨n, h1, h2⟩
  · rcases hv with h | ⟨n, h0, h1, h2⟩
    · have := hlow g (by rw [← h]; exact hg)
      omega
    · rw [h2] at hg
      injection hg with hg
      omega
set_option maxRecDepth 20000 in
set_option maxHeartbeats 4000000 in
theorem copyL_step (k : Exs) (ih : AllC k) : CxL k := by
  intro ao cap w hk hs hbd
  have hrest := hk.rest
  obtain ⟨hcap, hmax, _⟩ := hk
  have hlen : k.len ≤ 9223372036854775807 := by unfold maxLen at hmax; omega
  have hsH : Hidden (k.len * 88 ≤ 140737488351232) := hs
  have hrow0 : Rw.Row (RE KE w.heap.size w (.slice none 0 0)) 39 7 w w.heap.size (.slice none 0 0) [] := ⟨[], ⟨by simp, Or.inl ⟨rfl, rfl⟩⟩, rfl⟩
  clear hs hmax
  go_enter Tryz.func24, Tryz.ntmps24
  go_wp2_with fail
  go_loopg [5, 10] k.len (fun g cv iv wr => ∃ (i : Nat) (r : Exs) (pre : List (EH × Exs)), iv = ci (i : Int) ∧ i + r.len = k.len ∧ ExR w ao i r ∧ toL k = pre ++ toL r ∧ pre.length = i ∧ Rw.Row (RE KE w.heap.size wr cv) 39 7 wr w.heap.size cv pre ∧ AllC r ∧ BdE r ∧ g = r.len ∧ Fr (fun _ => False) w wr)
  case atStart => exact ⟨0, k, [], rfl, by omega, hrest, rfl, rfl, hrow0, ih, hbd, rfl, Fr.refl _ _⟩
  case round =>
    clear hrest hrow0 ih hbd
    obtain ⟨i, r, pre, rfl, hlen2, hrow, hpre, hpl, hc, hall, hb, hgk, hfr⟩ := hrel
    have hgkH : Hidden (gk = r.len) := hgk
    have hlenH : Hidden (i + r.len = k.len) := hlen2
    have hpreH : Hidden (toL k = pre ++ toL r) := hpre
    have hplH : Hidden (pre.length = i) := hpl
    clear hgk hlen2 hpre hpl
    cases r with
    | nil =>
      have hi : i = k.len := hlenH
      subst hi
      have hcH : Hidden (Rw.Row (RE KE w.heap.size wr _) 39 7 wr w.heap.size _ pre) := hc
      clear hc hrow hall hb hplH
      go_wp2_with fail
      go_ret
      have hp : toL k = pre := by have := (show toL k = pre ++ toL .nil from hpreH); rw [this]; simp [toL]
      exact ⟨_, rfl, by rw [hp]; exact hcH, hfr⟩
    | cons h' k' r' =>
      have hil : i < k.len := by have : i + (r'.len + 1) = k.len := hlenH; omega
      obtain ⟨b, off, ao', cap', rfl, hL, hrow2, d0, d1, d2, d3, d4, d5, d6⟩ := hrow.next
      have d0 := hfr.cellN d0
      have d1 := hfr.cellN d1
      have d2 := hfr.cellN d2
      have d3 := hfr.cellN d3
      have d4 := hfr.cellN d4
      have d5 := hfr.cellN d5
      have d6 := hfr.cellN d6
      have f2 := hfr.same (Fr.alloc (fun _ => False) wr (xO h' (.slice ao' k'.len cap')))
      have ke := hall.1 ao' cap' _ (hL.keep f2) hb.1.1 hb.1.2
      have hallH : Hidden (AllC r') := hall.2
      have hbH : Hidden (BdE r') := hb.2
      have hrow2H : Hidden (ExR w (some ⟨b, off, none⟩) (i + 1) r') := hrow2
      have hfrH : Hidden (Fr (fun _ => False) w wr) := hfr
      obtain ⟨cells, hown, hch⟩ := id hc
      rw [show pre.length = i from hplH] at hown
      have hlow := hc.low
      have hownH : Hidden (wr.ownsRow w.heap.size 39 7 _ i cells) := hown
      have hchH : Hidden (Rw.Chunks (RE KE w.heap.size wr _) 7 pre cells) := hch
      have hlowH : Hidden (∀ g, Value.ownBlock _ = some g → w.heap.size ≤ g ∧ g < wr.heap.size) := hlow
      clear hrow hall hb hL hrow2 hc hown hch hlow hfr f2
      go_wp2_with (first
        | (go_at_call 25; refine ke.mono ?_; rintro e w2 ⟨a2, c2, rfl, hW2, f2⟩)
        | (at_builtin; refine wpl_append rfl _ _ 37 39 _ 7 88 Tryz.underlying37 info_ex rfl (by decide) rfl w.heap.size _ i cells ⟨w2.heap.size, 0, none⟩ 1 1 (exC h' (.slice a2 k'.len c2)) rfl ?_ rfl rfl ?_ (exC1 _ _ _ _) ?_ ?_ ?_ ?_; (focus (exact own_keep hownH ((Fr.alloc (fun _ => False) wr (xO h' (.slice ao' k'.len cap'))).same (f2.same (Fr.alloc (fun _ => False) w2 _))) (fun _ _ f => f))); (focus (exact row_cells (t := 39) (alloc_new _ _))); (focus (have : k.len * 88 ≤ 140737488351232 := hsH; unfold maxLen; omega)); (focus (have : k.len * 88 ≤ 140737488351232 := hsH; omega)); (focus (have h1 := (show Fr (fun _ => False) w wr from hfrH).size; have h2 := f2.size; simp at h2 ⊢; omega)); intro v3 w3 hr3 f3 hown3))
      have hall2 : Hidden (Rw.Row (RE KE w.heap.size w3 v3) 39 7 w3 w.heap.size v3 (pre ++ [(h', k')])) := by
        have s1 := (show Fr (fun _ => False) w wr from hfrH).size
        have s2 : wr.heap.size + 1 ≤ w2.heap.size := by have := f2.size; simpa using this
        have s3 : w2.heap.size + 1 ≤ w3.heap.size := by have := f3.size; simpa using this
        have fa := (Fr.alloc (fun _ => False) wr (xO h' (.slice ao' k'.len cap'))).same (f2.same (Fr.alloc (fun _ => False) w2 (xO h' (.slice a2 k'.len c2))))
        refine row_more (x := (h', k')) hchH (by rw [show pre.length = i from hplH]; exact hr3) rfl (fun g hg => ((show ∀ g, Value.ownBlock _ = some g → _ from hlowH) g hg).2) ((fa.mono (fun _ _ f => f.elim)).same f3) ?_ (a := wr.heap.size + 1) (b := w2.heap.size) (by omega) (by omega) (by omega) (w2 := w2) ?_ ?_
        · rcases hown3 with h | h
          · exact Or.inl h
          · exact Or.inr ⟨_, by simp, by simp; omega, h⟩
        · have : (wr.alloc (xO h' (.slice ao' k'.len cap'))).heap.size = wr.heap.size + 1 := by simp
          rw [this] at hW2
          exact fun u hu => ⟨a2, c2, rfl, (hW2 u hu).1, (hW2 u hu).2⟩
        · exact fun g g1 g2 => (f3.block g (by simp; omega) (fun e => by have := ((show ∀ g, Value.ownBlock _ = some g → _ from hlowH) g e).2; omega)).trans (alloc_old _ _ _ g2)
      have hfr3 : Hidden (Fr (fun _ => False) w w3) := by
        have fa := (show Fr (fun _ => False) w wr from hfrH).same ((Fr.alloc (fun _ => False) wr (xO h' (.slice ao' k'.len cap'))).same (f2.same (Fr.alloc (fun _ => False) w2 (xO h' (.slice a2 k'.len c2)))))
        exact fa.over f3 (fun g hg => ((show ∀ g, Value.ownBlock _ = some g → _ from hlowH) g hg).1)
      clear hown3 hr3 f3 hW2 f2 d0 d1 d2 d3 d4 d5 d6 ke hownH hchH hlowH
      go_wp2_with fail
      go_roundg r'.len
      case measure => have : gk = r'.len + 1 := hgkH; omega
      case rel =>
        refine ⟨i + 1, r', pre ++ [(h', k')], by go_num, ?_, hrow2H, ?_, ?_, hall2, hallH, hbH, rfl, hfr3⟩
        · have : i + (r'.len + 1) = k.len := hlenH
          omega
        · rw [show toL k = pre ++ toL (.cons h' k' r') from hpreH]
          simp [toL]
        · have : pre.length = i := hplH
          simp [this]
theorem allC : ∀ k : Exs, AllC k
  | .nil => trivial
  | .cons h k r => ⟨copyX_step h k (copyL_step k (allC k)), allC r⟩
theorem copyL_any (k : Exs) : CxL k := copyL_step k (allC k)
end Go.Proofs.YtncachlopnpcjaaGreatDoor.Sl
