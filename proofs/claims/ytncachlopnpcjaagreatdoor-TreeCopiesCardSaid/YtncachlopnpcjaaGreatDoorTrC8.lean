/- The program's copies of statements, whole (for TreeCopies). -/
import Derived.Test.YtncachlopnpcjaaGreatDoorTrC7
namespace Go.Proofs.YtncachlopnpcjaaGreatDoor.Sl
open Go.RowKit Te
set_option linter.unusedSimpArgs false
set_option linter.unusedVariables false

def AllCs : Sts → Prop
  | .nil => True
  | .cons h e b l r => CsX ⟨h, e, b, l⟩ ∧ AllCs r
theorem stC1 (h : SH) (a1 : Option Addr) (n1 c1 : Nat) (a2 : Option Addr) (n2 c2 : Nat) (a3 : Option Addr) (n3 c3 : Nat) : ∀ u ∈ stC h (.slice a1 n1 c1) (.slice a2 n2 c2) (.slice a3 n3 c3), u.oneCell' = true := by
  intro u hu
  simp only [stC, List.mem_cons, List.not_mem_nil, or_false] at hu
  rcases hu with rfl | rfl | rfl | rfl | rfl <;> rfl
set_option maxRecDepth 20000 in
set_option maxHeartbeats 4000000 in
theorem copyT_step (k : Sts) (ih : AllCs k) : CsL k := by
  intro ao cap w hk hs hbd
  have hrest := hk.rest
  obtain ⟨hcap, hmax, _⟩ := hk
  have hlen : k.len ≤ 9223372036854775807 := by unfold maxLen at hmax; omega
  have hsH : Hidden (k.len * 96 ≤ 140737488351232) := hs
  have hrow0 : Rw.Row (RE KS w.heap.size w (.slice none 0 0)) 67 5 w w.heap.size (.slice none 0 0) [] := ⟨[], ⟨by simp, Or.inl ⟨rfl, rfl⟩⟩, rfl⟩
  clear hs hmax
  go_enter Tryz.func26, Tryz.ntmps26
  go_wp2_with fail
  go_loopg [5, 10] k.len (fun g cv iv wr => ∃ (i : Nat) (r : Sts) (pre : List StX), iv = ci (i : Int) ∧ i + r.len = k.len ∧ StR w ao i r ∧ toS k = pre ++ toS r ∧ pre.length = i ∧ Rw.Row (RE KS w.heap.size wr cv) 67 5 wr w.heap.size cv pre ∧ AllCs r ∧ BdS r ∧ g = r.len ∧ Fr (fun _ => False) w wr)
  case atStart => exact ⟨0, k, [], rfl, by omega, hrest, rfl, rfl, hrow0, ih, hbd, rfl, Fr.refl _ _⟩
  case round =>
    clear hrest hrow0 ih hbd
    obtain ⟨i, r, pre, rfl, hlen2, hrow, hpre, hpl, hc, hall, hb, hgk, hfr⟩ := hrel
    have hgkH : Hidden (gk = r.len) := hgk
    have hlenH : Hidden (i + r.len = k.len) := hlen2
    have hpreH : Hidden (toS k = pre ++ toS r) := hpre
    have hplH : Hidden (pre.length = i) := hpl
    clear hgk hlen2 hpre hpl
    cases r with
    | nil =>
      have hi : i = k.len := hlenH
      subst hi
      have hcH : Hidden (Rw.Row (RE KS w.heap.size wr _) 67 5 wr w.heap.size _ pre) := hc
      clear hc hrow hall hb hplH
      go_wp2_with fail
      go_ret
      have hp : toS k = pre := by have := (show toS k = pre ++ toS .nil from hpreH); rw [this]; simp [toS]
      exact ⟨_, rfl, by rw [hp]; exact hcH, hfr⟩
    | cons h' e' b' l' r' =>
      have hil : i < k.len := by have : i + (r'.len + 1) = k.len := hlenH; omega
      obtain ⟨b, off, a1, c1, a2, c2, a3, c3, rfl, hE, hB, hL, hrow2, d0, d1, d2, d3, d4⟩ := hrow.next
      have d0 := hfr.cellN d0
      have d1 := hfr.cellN d1
      have d2 := hfr.cellN d2
      have d3 := hfr.cellN d3
      have d4 := hfr.cellN d4
      have f2 := hfr.same (Fr.alloc (fun _ => False) wr (sO h' (.slice a1 e'.len c1) (.slice a2 b'.len c2) (.slice a3 l'.len c3)))
      have ke := hall.1 a1 c1 a2 c2 a3 c3 _ (hE.keep f2) (hB.keep f2) (hL.keep f2) hb.1 hb.2.1 hb.2.2.1
      simp only at ke
      have hallH : Hidden (AllCs r') := hall.2
      have hbH : Hidden (BdS r') := hb.2.2.2
      have hrow2H : Hidden (StR w (some ⟨b, off, none⟩) (i + 1) r') := hrow2
      have hfrH : Hidden (Fr (fun _ => False) w wr) := hfr
      obtain ⟨cells, hown, hch⟩ := id hc
      rw [show pre.length = i from hplH] at hown
      have hlow := hc.low
      have hownH : Hidden (wr.ownsRow w.heap.size 67 5 _ i cells) := hown
      have hchH : Hidden (Rw.Chunks (RE KS w.heap.size wr _) 5 pre cells) := hch
      have hlowH : Hidden (∀ g, Value.ownBlock _ = some g → w.heap.size ≤ g ∧ g < wr.heap.size) := hlow
      clear hrow hall hb hE hB hL hrow2 hc hown hch hlow hfr f2
      go_wp2_with (first
        | (go_at_call 27; refine ke.mono ?_; rintro e w2 ⟨x1, y1, x2, y2, x3, y3, rfl, hW2, f2⟩)
        | (at_builtin; refine wpl_append rfl _ _ 45 67 _ 5 96 Tryz.underlying45 info_st rfl (by decide) rfl w.heap.size _ i cells ⟨w2.heap.size, 0, none⟩ 1 1 (stC h' (.slice x1 e'.len y1) (.slice x2 b'.len y2) (.slice x3 l'.len y3)) rfl ?_ rfl rfl ?_ (stC1 _ _ _ _ _ _ _ _ _ _) ?_ ?_ ?_ ?_; (focus (exact own_keep hownH ((Fr.alloc (fun _ => False) wr (sO h' (.slice a1 e'.len c1) (.slice a2 b'.len c2) (.slice a3 l'.len c3))).same (f2.same (Fr.alloc (fun _ => False) w2 _))) (fun _ _ f => f))); (focus (exact row_cells5 (t := 67) (alloc_new _ _))); (focus (have : k.len * 96 ≤ 140737488351232 := hsH; unfold maxLen; omega)); (focus (have : k.len * 96 ≤ 140737488351232 := hsH; omega)); (focus (have h1 := (show Fr (fun _ => False) w wr from hfrH).size; have h2 := f2.size; simp at h2 ⊢; omega)); intro v3 w3 hr3 f3 hown3))
      have hall2 : Hidden (Rw.Row (RE KS w.heap.size w3 v3) 67 5 w3 w.heap.size v3 (pre ++ [⟨h', e', b', l'⟩])) := by
        have s1 := (show Fr (fun _ => False) w wr from hfrH).size
        have s2 : wr.heap.size + 1 ≤ w2.heap.size := by have := f2.size; simpa using this
        have s3 : w2.heap.size + 1 ≤ w3.heap.size := by have := f3.size; simpa using this
        have fa := (Fr.alloc (fun _ => False) wr (sO h' (.slice a1 e'.len c1) (.slice a2 b'.len c2) (.slice a3 l'.len c3))).same (f2.same (Fr.alloc (fun _ => False) w2 (sO h' (.slice x1 e'.len y1) (.slice x2 b'.len y2) (.slice x3 l'.len y3))))
        refine row_more (x := (⟨h', e', b', l'⟩ : StX)) hchH (by rw [show pre.length = i from hplH]; exact hr3) rfl (fun g hg => ((show ∀ g, Value.ownBlock _ = some g → _ from hlowH) g hg).2) ((fa.mono (fun _ _ f => f.elim)).same f3) ?_ (a := wr.heap.size + 1) (b := w2.heap.size) (by omega) (by omega) (by omega) (w2 := w2) ?_ ?_
        · rcases hown3 with h | h
          · exact Or.inl h
          · exact Or.inr ⟨_, by simp, by simp; omega, h⟩
        · have : (wr.alloc (sO h' (.slice a1 e'.len c1) (.slice a2 b'.len c2) (.slice a3 l'.len c3))).heap.size = wr.heap.size + 1 := by simp
          rw [this] at hW2
          exact fun u hu => ⟨x1, y1, x2, y2, x3, y3, rfl, hW2 u hu⟩
        · exact fun g g1 g2 => (f3.block g (by simp; omega) (fun e => by have := ((show ∀ g, Value.ownBlock _ = some g → _ from hlowH) g e).2; omega)).trans (alloc_old _ _ _ g2)
      have hfr3 : Hidden (Fr (fun _ => False) w w3) := by
        have fa := (show Fr (fun _ => False) w wr from hfrH).same ((Fr.alloc (fun _ => False) wr (sO h' (.slice a1 e'.len c1) (.slice a2 b'.len c2) (.slice a3 l'.len c3))).same (f2.same (Fr.alloc (fun _ => False) w2 (sO h' (.slice x1 e'.len y1) (.slice x2 b'.len y2) (.slice x3 l'.len y3)))))
        exact fa.over f3 (fun g hg => ((show ∀ g, Value.ownBlock _ = some g → _ from hlowH) g hg).1)
      clear hown3 hr3 f3 hW2 f2 d0 d1 d2 d3 d4 ke hownH hchH hlowH
      go_wp2_with fail
      go_roundg r'.len
      case measure => have : gk = r'.len + 1 := hgkH; omega
      case rel =>
        refine ⟨i + 1, r', pre ++ [(⟨h', e', b', l'⟩ : StX)], by go_num, ?_, hrow2H, ?_, ?_, hall2, hallH, hbH, rfl, hfr3⟩
        · have : i + (r'.len + 1) = k.len := hlenH
          omega
        · rw [show toS k = pre ++ toS (.cons h' e' b' l' r') from hpreH]
          simp [toS]
        · have : pre.length = i := hplH
          simp [this]
theorem allCs : ∀ k : Sts, AllCs k
  | .nil => trivial
  | .cons h e b l r => ⟨copyS_step ⟨h, e, b, l⟩ (copyT_step b (allCs b)) (copyT_step l (allCs l)), allCs r⟩
theorem copyT_any (k : Sts) : CsL k := copyT_step k (allCs k)
end Go.Proofs.YtncachlopnpcjaaGreatDoor.Sl
