/- The program's copies of declarations, and Copy (for TreeCopies). -/
import Derived.Test.YtncachlopnpcjaaGreatDoorTrCa
namespace Go.Proofs.YtncachlopnpcjaaGreatDoor.Sl
open Go.RowKit Te
set_option linter.unusedSimpArgs false
set_option linter.unusedVariables false

theorem deC1 (d : De) (a1 : Option Addr) (n1 c1 : Nat) (a2 : Option Addr) (n2 c2 : Nat) (a3 : Option Addr) (n3 c3 : Nat) : ∀ u ∈ deC d (.slice a1 n1 c1) (.slice a2 n2 c2) (.slice a3 n3 c3), u.oneCell' = true := by
  intro u hu
  simp only [deC, List.mem_cons, List.not_mem_nil, or_false] at hu
  rcases hu with rfl | rfl | rfl | rfl | rfl | rfl | rfl <;> rfl
theorem info_de2 : (Tryz.prog.info? 47).map (fun i => (i.zero, i.size, i.bytes)) = some (some (.agg #[.int .i64 0, .bool false, .string ⟨#[]⟩, .int .i64 0, .slice none 0 0, .slice none 0 0, .slice none 0 0]), 7, 112) := by kernel_rfl
theorem take_snoc2 {α : Type} {l : List α} {i : Nat} {c : α} (h : l[i]? = some c) : l.take (i + 1) = l.take i ++ [c] := by
  rw [List.take_add_one, h]
  rfl
def CdL (l : List De) : Prop := ∀ (ao : Option Addr) (cap : Nat) (w : World), DeL w ao cap l → l.length * 112 ≤ 140737488351232 → (∀ d ∈ l, BdD d) →
  Calls Tryz.prog 12 #[.slice ao l.length cap, .func (.func 13) #[] #[]] w fun e w' => ∃ v', e = .returned v' ∧ Rw.Row (RE KD w.heap.size w' v') 47 7 w' w.heap.size v' l ∧ Fr (fun _ => False) w w'
set_option maxRecDepth 20000 in
set_option maxHeartbeats 4000000 in
theorem copyDs_any (l : List De) : CdL l := by
  intro ao cap w hk hs hbd
  obtain ⟨hcap, hmax, hrows⟩ := hk
  have hlen : l.length ≤ 9223372036854775807 := by unfold maxLen at hmax; omega
  have hsH : Hidden (l.length * 112 ≤ 140737488351232) := hs
  have hbdH : Hidden (∀ d ∈ l, BdD d) := hbd
  have hrowsH : Hidden (l = [] ∨ ∃ b off, ao = some ⟨b, off, none⟩ ∧ ∀ (i : Nat) (d : De), l[i]? = some d → ∃ pv ev bv, DeI w d pv ev bv ∧ ∀ (j : Nat) (x : Value), (deC d pv ev bv)[j]? = some x → w.cell? ⟨b, off + i * 7 + j, none⟩ = some x) := hrows
  have hrow0 : Rw.Row (RE KD w.heap.size w (.slice none 0 0)) 47 7 w w.heap.size (.slice none 0 0) (l.take 0) := ⟨[], ⟨by simp, Or.inl ⟨rfl, by simp⟩⟩, by rw [List.take_zero]; rfl⟩
  clear hs hmax hbd hrows
  go_enter Tryz.func12, Tryz.ntmps12
  go_wp2_with fail
  go_loopg [5, 10] l.length (fun g cv iv wr => ∃ (i : Nat), iv = ci (i : Int) ∧ i ≤ l.length ∧ Rw.Row (RE KD w.heap.size wr cv) 47 7 wr w.heap.size cv (l.take i) ∧ g = l.length - i ∧ Fr (fun _ => False) w wr)
  case atStart => exact ⟨0, rfl, by omega, hrow0, rfl, Fr.refl _ _⟩
  case round =>
    clear hrow0
    obtain ⟨i, rfl, hi, hc, hgk, hfr⟩ := hrel
    have hgkH : Hidden (gk = l.length - i) := hgk
    clear hgk
    by_cases hil : i < l.length
    · obtain ⟨d, hd⟩ : ∃ d, l[i]? = some d := ⟨l[i], List.getElem?_eq_getElem hil⟩
      obtain ⟨b, off, rfl, hrow⟩ : ∃ b off, ao = some ⟨b, off, none⟩ ∧ ∀ (i : Nat) (d : De), l[i]? = some d → ∃ pv ev bv, DeI w d pv ev bv ∧ ∀ (j : Nat) (x : Value), (deC d pv ev bv)[j]? = some x → w.cell? ⟨b, off + i * 7 + j, none⟩ = some x := by
        rcases (show l = [] ∨ _ from hrowsH) with h0 | h
        · rw [h0] at hil; simp at hil
        · exact h
      obtain ⟨pv, ev, bv, ⟨a1, c1, a2, c2, a3, c3, rfl, rfl, rfl, hP, hE, hS⟩, hcc⟩ := hrow i d hd
      have d0 := hfr.cellN (hcc 0 _ rfl)
      have d1 := hfr.cellN (hcc 1 _ rfl)
      have d2 := hfr.cellN (hcc 2 _ rfl)
      have d3 := hfr.cellN (hcc 3 _ rfl)
      have d4 := hfr.cellN (hcc 4 _ rfl)
      have d5 := hfr.cellN (hcc 5 _ rfl)
      have d6 := hfr.cellN (hcc 6 _ rfl)
      simp only [Nat.add_zero] at d0
      have f2 := hfr.same (Fr.alloc (fun _ => False) wr (dO d (.slice a1 d.params.length c1) (.slice a2 d.e.len c2) (.slice a3 d.body.len c3)))
      have ke := copyD_any d a1 c1 a2 c2 a3 c3 _ (hP.keep f2) (hE.keep f2) (hS.keep f2) ((show ∀ d ∈ l, BdD d from hbdH) d (List.mem_of_getElem? hd))
      have hts : Hidden (l.take (i + 1) = l.take i ++ [d]) := take_snoc2 hd
      have hpl : (l.take i).length = i := by simp; omega
      have hplH : Hidden ((l.take i).length = i) := hpl
      have hfrH : Hidden (Fr (fun _ => False) w wr) := hfr
      obtain ⟨cells, hown, hch⟩ := id hc
      rw [hpl] at hown
      have hlow := hc.low
      have hownH : Hidden (wr.ownsRow w.heap.size 47 7 _ i cells) := hown
      have hchH : Hidden (Rw.Chunks (RE KD w.heap.size wr _) 7 (l.take i) cells) := hch
      have hlowH : Hidden (∀ g, Value.ownBlock _ = some g → w.heap.size ≤ g ∧ g < wr.heap.size) := hlow
      clear hrow hP hE hS hc hown hch hlow hfr f2 hcc hd hpl
      go_wp2_with (first
        | (go_at_call 13; refine ke.mono ?_; rintro e w2 ⟨x1, y1, x2, y2, x3, y3, rfl, hW2, f2⟩)
        | (at_builtin; refine wpl_append rfl _ _ 23 47 _ 7 112 Tryz.underlying23 info_de2 rfl (by decide) rfl w.heap.size _ i cells ⟨w2.heap.size, 0, none⟩ 1 1 (deC d (.slice x1 d.params.length y1) (.slice x2 d.e.len y2) (.slice x3 d.body.len y3)) rfl ?_ rfl rfl ?_ (deC1 _ _ _ _ _ _ _ _ _ _) ?_ ?_ ?_ ?_; (focus (exact own_keep hownH ((Fr.alloc (fun _ => False) wr (dO d (.slice a1 d.params.length c1) (.slice a2 d.e.len c2) (.slice a3 d.body.len c3))).same (f2.same (Fr.alloc (fun _ => False) w2 _))) (fun _ _ f => f))); (focus (exact row_cells (t := 47) (alloc_new _ _))); (focus (have : l.length * 112 ≤ 140737488351232 := hsH; unfold maxLen; omega)); (focus (have : l.length * 112 ≤ 140737488351232 := hsH; omega)); (focus (have h1 := (show Fr (fun _ => False) w wr from hfrH).size; have h2 := f2.size; simp at h2 ⊢; omega)); intro v3 w3 hr3 f3 hown3))
      have hall2 : Hidden (Rw.Row (RE KD w.heap.size w3 v3) 47 7 w3 w.heap.size v3 (l.take i ++ [d])) := by
        have s1 := (show Fr (fun _ => False) w wr from hfrH).size
        have s2 : wr.heap.size + 1 ≤ w2.heap.size := by have := f2.size; simpa using this
        have s3 : w2.heap.size + 1 ≤ w3.heap.size := by have := f3.size; simpa using this
        have fa := (Fr.alloc (fun _ => False) wr (dO d (.slice a1 d.params.length c1) (.slice a2 d.e.len c2) (.slice a3 d.body.len c3))).same (f2.same (Fr.alloc (fun _ => False) w2 (dO d (.slice x1 d.params.length y1) (.slice x2 d.e.len y2) (.slice x3 d.body.len y3))))
        refine row_more (x := d) hchH (by rw [show (l.take i).length = i from hplH]; exact hr3) rfl (fun g hg => ((show ∀ g, Value.ownBlock _ = some g → _ from hlowH) g hg).2) ((fa.mono (fun _ _ f => f.elim)).same f3) ?_ (a := wr.heap.size + 1) (b := w2.heap.size) (by omega) (by omega) (by omega) (w2 := w2) ?_ ?_
        · rcases hown3 with h | h
          · exact Or.inl h
          · exact Or.inr ⟨_, by simp, by simp; omega, h⟩
        · have : (wr.alloc (dO d (.slice a1 d.params.length c1) (.slice a2 d.e.len c2) (.slice a3 d.body.len c3))).heap.size = wr.heap.size + 1 := by simp
          rw [this] at hW2
          exact fun u hu => ⟨x1, y1, x2, y2, x3, y3, rfl, hW2 u hu⟩
        · exact fun g g1 g2 => (f3.block g (by simp; omega) (fun e => by have := ((show ∀ g, Value.ownBlock _ = some g → _ from hlowH) g e).2; omega)).trans (alloc_old _ _ _ g2)
      have hfr3 : Hidden (Fr (fun _ => False) w w3) := by
        have fa := (show Fr (fun _ => False) w wr from hfrH).same ((Fr.alloc (fun _ => False) wr (dO d (.slice a1 d.params.length c1) (.slice a2 d.e.len c2) (.slice a3 d.body.len c3))).same (f2.same (Fr.alloc (fun _ => False) w2 (dO d (.slice x1 d.params.length y1) (.slice x2 d.e.len y2) (.slice x3 d.body.len y3)))))
        exact fa.over f3 (fun g hg => ((show ∀ g, Value.ownBlock _ = some g → _ from hlowH) g hg).1)
      clear hown3 hr3 f3 hW2 f2 d0 d1 d2 d3 d4 d5 d6 ke hownH hchH hlowH
      go_wp2_with fail
      go_roundg (l.length - (i + 1))
      case measure => have : gk = l.length - i := hgkH; omega
      case rel => exact ⟨i + 1, by go_num, by omega, by rw [show l.take (i + 1) = _ from hts]; exact hall2, rfl, hfr3⟩
    · obtain rfl : i = l.length := by omega
      have hcH : Hidden (Rw.Row (RE KD w.heap.size wr _) 47 7 wr w.heap.size _ (l.take l.length)) := hc
      clear hc
      go_wp2_with fail
      go_ret
      rw [List.take_length] at hcH
      exact ⟨_, rfl, hcH, hfr⟩
/-- A row of copied declarations. -/
theorem row_de {lo : Nat} {W : World} {v : Value} {l : List De} (h : Rw.Row (RE KD lo W v) 47 7 W lo v l) : ∃ ao cap, v = .slice ao l.length cap ∧ Within lo W.heap.size W (fun u => DeL u ao cap l ∧ (l.length ≤ cap ∧ cap ≤ maxLen ∧ (l = [] ∨ ∃ b, ao = some ⟨b, 0, none⟩ ∧ RwB u lo W.heap.size b 47 (l.length * 7) ∧ ∀ (i : Nat) (d : De), l[i]? = some d → ShD u lo W.heap.size b i d))) := by
  obtain ⟨ao, cap, h1, h2, h3, h4⟩ := row_open h
  refine ⟨ao, cap, h1, fun u hu => ?_⟩
  rcases h4 u hu with h0 | ⟨g, rfl, hb, hc⟩
  · exact ⟨⟨h2, h3, Or.inl h0⟩, ⟨h2, h3, Or.inl h0⟩⟩
  · refine ⟨⟨h2, h3, Or.inr ⟨g, 0, rfl, fun i d hd => ?_⟩⟩, ⟨h2, h3, Or.inr ⟨g, rfl, hb, fun i d hd => ?_⟩⟩⟩
    · obtain ⟨a, b, c, q1, q2, ⟨a1, c1, a2, c2, a3, c3, rfl, ⟨x1, x2⟩, ⟨y1, y2⟩, z1, z2⟩, _, q5⟩ := hc i d hd
      exact ⟨_, _, _, ⟨a1, c1, a2, c2, a3, c3, rfl, rfl, rfl, x1, y1, z1⟩, fun j x hx => by rw [Nat.zero_add]; exact q5 j x hx⟩
    · obtain ⟨a, b, c, q1, q2, ⟨a1, c1, a2, c2, a3, c3, rfl, ⟨x1, x2⟩, ⟨y1, y2⟩, z1, z2⟩, _, q5⟩ := hc i d hd
      exact ⟨a1, c1, a2, c2, a3, c3, q5 4 _ rfl, q5 5 _ rfl, q5 6 _ rfl, x2.wide q1 q2, y2.wide q1 q2, z2.wide q1 q2⟩
end Go.Proofs.YtncachlopnpcjaaGreatDoor.Sl
