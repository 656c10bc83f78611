/- The law's spoil (for TreeCopies). -/
import Derived.Test.YtncachlopnpcjaaGreatDoorTrC2
namespace Go.Proofs.YtncachlopnpcjaaGreatDoor.Sl
open Go.RowKit Te
set_option linter.unusedSimpArgs false
set_option linter.unusedVariables false

/-- The shape of parameters, of declarations, of a module. -/
def ShP (w : World) (lo hi : Nat) (ao : Option Addr) (cap : Nat) (l : List Pa) : Prop := l.length ≤ cap ∧ cap ≤ maxLen ∧ (l = [] ∨ ∃ b, ao = some ⟨b, 0, none⟩ ∧ RwB w lo hi b 53 (l.length * 2))
theorem ShP.sp {lo hi : Nat} {w w' : World} {ao : Option Addr} {cap : Nat} {l : List Pa} (h : ShP w lo hi ao cap l) (g : Sp lo hi w w') : ShP w' lo hi ao cap l := by
  obtain ⟨h1, h2, h3⟩ := h
  refine ⟨h1, h2, ?_⟩
  rcases h3 with h3 | ⟨b, rfl, h4⟩
  · exact Or.inl h3
  · exact Or.inr ⟨b, rfl, h4.sp g⟩
def ShD (w : World) (lo hi b i : Nat) (d : De) : Prop := ∃ ao1 c1 ao2 c2 ao3 c3, w.cell? ⟨b, i * 7 + 4, none⟩ = some (.slice ao1 d.params.length c1) ∧ w.cell? ⟨b, i * 7 + 5, none⟩ = some (.slice ao2 d.e.len c2) ∧ w.cell? ⟨b, i * 7 + 6, none⟩ = some (.slice ao3 d.body.len c3) ∧ ShP w lo hi ao1 c1 d.params ∧ ShX w lo hi ao2 c2 d.e ∧ ShT w lo hi ao3 c3 d.body
theorem ShD.sp {lo hi b i n : Nat} {w w' : World} {d : De} (hb : RwB w lo hi b 47 n) (h : ShD w lo hi b i d) (g : Sp lo hi w w') : ShD w' lo hi b i d := by
  obtain ⟨ao1, c1, ao2, c2, ao3, c3, x1, x2, x3, h1, h2, h3⟩ := h
  exact ⟨ao1, c1, ao2, c2, ao3, c3, hb.same g (by rw [free_de]; omega) x1, hb.same g (by rw [free_de]; omega) x2, hb.same g (by rw [free_de]; omega) x3, h1.sp g, h2.sp g, h3.sp g⟩
def ShM (w : World) (lo hi : Nat) (m : Mo) (ao : Option Addr) (cap : Nat) (aod : Option Addr) (capd : Nat) : Prop := (m.imports.length ≤ cap ∧ cap ≤ maxLen ∧ (m.imports = [] ∨ ∃ b, ao = some ⟨b, 0, none⟩ ∧ RwB w lo hi b 9 m.imports.length)) ∧
  (m.decls.length ≤ capd ∧ capd ≤ maxLen ∧ (m.decls = [] ∨ ∃ b, aod = some ⟨b, 0, none⟩ ∧ RwB w lo hi b 47 (m.decls.length * 7) ∧ ∀ (i : Nat) (d : De), m.decls[i]? = some d → ShD w lo hi b i d))
set_option maxRecDepth 20000 in
set_option maxHeartbeats 8000000 in
theorem spoil_any (m : Mo) (lo hi : Nat) (w : World) (ao : Option Addr) (cap : Nat) (aod : Option Addr) (capd : Nat) (hhi : hi ≤ w.heap.size) (hs : ShM w lo hi m ao cap aod capd) :
    Calls Tryz.prog 7 #[moV m ao cap aod capd] w fun e w' => e = .returned (.tuple #[]) ∧ Sp lo hi w w' := by
  obtain ⟨⟨h1, h2, h3⟩, h4, h5, h6⟩ := hs
  obtain ⟨name, imports, decls⟩ := m
  simp only at h1 h2 h3 h4 h5 h6
  have hc2 : cap ≤ 9223372036854775807 := by unfold maxLen at h2; omega
  have hd2 : capd ≤ 9223372036854775807 := by unfold maxLen at h5; omega
  obtain ⟨W0, hW0⟩ : ∃ W, W = w.alloc (.cells #[ct name, .slice ao imports.length cap, .slice aod decls.length capd] 25) := ⟨_, rfl⟩
  have f0 : Fr (fun _ => False) w W0 := by rw [hW0]; exact Fr.alloc _ _ _
  have s0 : Sp lo hi w W0 := Sp.of_fr f0
  have hbx : Hidden (W0.heap[w.heap.size]? = some (.cells #[ct name, .slice ao imports.length cap, .slice aod decls.length capd] 25 (0, 0))) := by rw [hW0]; exact alloc_new _ _
  have box : Hidden (∀ u, Sp lo hi W0 u → u.cell? ⟨w.heap.size, 0, none⟩ = some (ct name) ∧ u.cell? ⟨w.heap.size, 1, none⟩ = some (.slice ao imports.length cap) ∧ u.cell? ⟨w.heap.size, 2, none⟩ = some (.slice aod decls.length capd)) := fun u s => by
    have hb := s.fr.heap (show W0.heap[w.heap.size]? = _ from hbx) (fun e => by omega)
    exact ⟨cell_of_row _ _ 0 _ _ _ hb, cell_of_row _ _ 1 _ _ _ hb, cell_of_row _ _ 2 _ _ _ hb⟩
  have hW0H : Hidden (W0 = _) := hW0
  have s0H : Hidden (Sp lo hi w W0) := s0
  have h3H : Hidden (imports = [] ∨ ∃ b, ao = some ⟨b, 0, none⟩ ∧ RwB w lo hi b 9 imports.length) := h3
  have h6H : Hidden (decls = [] ∨ ∃ b, aod = some ⟨b, 0, none⟩ ∧ RwB w lo hi b 47 (decls.length * 7) ∧ ∀ (i : Nat) (d : De), decls[i]? = some d → ShD w lo hi b i d) := h6
  clear h2 h3 h5 h6 hW0 f0 s0 hbx hhi
  go_enter Tryz.func7, Tryz.ntmps7
  go_wp2_with fail
  rw [← (show W0 = _ from hW0H)]
  go_loopg [2] imports.length (fun g iv wr => ∃ (i : Nat), iv = ci (i : Int) ∧ i ≤ imports.length ∧ g = imports.length - i ∧ Sp lo hi W0 wr)
  case atStart => exact ⟨0, rfl, by omega, rfl, Sp.refl _ _ _⟩
  case round =>
    obtain ⟨i, rfl, hi', hgk, hsp⟩ := hrel
    have hgkH : Hidden (gk = imports.length - i) := hgk
    have hspH : Hidden (Sp lo hi W0 wr) := hsp
    obtain ⟨c0, c1, c2⟩ := (show ∀ u, Sp lo hi W0 u → _ from box) wr hsp
    clear hgk hsp
    by_cases hil : i < imports.length
    · obtain ⟨b, rfl, hb⟩ : ∃ b, ao = some ⟨b, 0, none⟩ ∧ RwB w lo hi b 9 imports.length := by
        rcases (show imports = [] ∨ _ from h3H) with h0 | h
        · rw [h0] at hil; simp at hil
        · exact h
      have hbr := (hb.sp s0H).sp hspH
      obtain ⟨v3, y3, z3⟩ := hbr.cell (p := i) hil
      have s4 : Sp lo hi wr (wr.setCell ⟨b, i, none⟩ (.string ⟨#[115, 112, 111, 105, 108, 116]⟩)) := hbr.set (free_str _) _
      have s4H : Hidden (Sp lo hi W0 (wr.setCell ⟨b, i, none⟩ (.string ⟨#[115, 112, 111, 105, 108, 116]⟩))) := (show Sp lo hi W0 wr from hspH).trans s4
      clear hb hbr s4
      go_wp2_with fail
      go_roundg (imports.length - (i + 1))
      case measure => have : gk = imports.length - i := hgkH; omega
      case rel => exact ⟨i + 1, by go_num, by omega, rfl, s4H⟩
    · clear hgkH c0 c2
      obtain ⟨W1, eW1⟩ : ∃ W1, W1 = wr := ⟨_, rfl⟩
      subst eW1
      go_wp2_with fail
      go_loopg [3] decls.length (fun g iv wr => ∃ (i : Nat), iv = ci (i : Int) ∧ i ≤ decls.length ∧ g = decls.length - i ∧ Sp lo hi W0 wr)
      case atStart => exact ⟨0, rfl, by omega, rfl, hspH⟩
      case round =>
        clear c1
        obtain ⟨j, rfl, hj', hgk, hsp⟩ := hrel
        have hgkH : Hidden (gk = decls.length - j) := hgk
        have hspH2 : Hidden (Sp lo hi W0 wr) := hsp
        obtain ⟨c0, c1, c2⟩ := (show ∀ u, Sp lo hi W0 u → _ from box) wr hsp
        clear hgk hsp c0 c1
        by_cases hjl : j < decls.length
        · obtain ⟨d, hd⟩ : ∃ d, decls[j]? = some d := ⟨decls[j], List.getElem?_eq_getElem hjl⟩
          obtain ⟨b, rfl, hb, hD⟩ : ∃ b, aod = some ⟨b, 0, none⟩ ∧ RwB w lo hi b 47 (decls.length * 7) ∧ ∀ (i : Nat) (d : De), decls[i]? = some d → ShD w lo hi b i d := by
            rcases (show decls = [] ∨ _ from h6H) with h0 | h
            · rw [h0] at hjl; simp at hjl
            · exact h
          have sw : Sp lo hi w wr := (show Sp lo hi w W0 from s0H).trans hspH2
          have hbr : RwB wr lo hi b 47 (decls.length * 7) := hb.sp sw
          obtain ⟨ao1, p1, ao2, p2, ao3, p3, x1, x2, x3, hP, hX, hT⟩ := ShD.sp hb (hD j d hd) sw
          have hbrH : Hidden (RwB wr lo hi b 47 (decls.length * 7)) := hbr
          have x1H : Hidden (wr.cell? ⟨b, j * 7 + 4, none⟩ = some (.slice ao1 d.params.length p1)) := x1
          have x2H : Hidden (wr.cell? ⟨b, j * 7 + 5, none⟩ = some (.slice ao2 d.e.len p2)) := x2
          have x3H : Hidden (wr.cell? ⟨b, j * 7 + 6, none⟩ = some (.slice ao3 d.body.len p3)) := x3
          have hpl : d.params.length ≤ p1 ∧ p1 ≤ 9223372036854775807 := by have := hP.2.1; unfold maxLen at this; exact ⟨hP.1, by omega⟩
          have hPH : Hidden (ShP wr lo hi ao1 p1 d.params) := hP
          have kX : Hidden (∀ u, Sp lo hi wr u → Calls Tryz.prog 17 #[.slice ao2 d.e.len p2] u fun e w' => e = .returned (.tuple #[]) ∧ Sp lo hi u w') := fun u s => spoilX_any d.e lo hi u ao2 p2 (hX.sp s)
          have kT : Hidden (∀ u, Sp lo hi wr u → Calls Tryz.prog 18 #[.slice ao3 d.body.len p3] u fun e w' => e = .returned (.tuple #[]) ∧ Sp lo hi u w') := fun u s => spoilT_any d.body lo hi u ao3 p3 (hT.sp s)
          clear hd hb hD hbr x1 x2 x3 hP hX hT sw
          obtain ⟨W2, eW2⟩ : ∃ W2, W2 = wr := ⟨_, rfl⟩
          subst eW2
          obtain ⟨gk0, egk⟩ : ∃ g0, g0 = gk := ⟨_, rfl⟩
          subst egk
          go_wp2_with fail
          go_loopg [4] d.params.length (fun g iv wr => ∃ (i : Nat), iv = ci (i : Int) ∧ i ≤ d.params.length ∧ g = d.params.length - i ∧ Sp lo hi W2 wr)
          case atStart => exact ⟨0, rfl, by omega, rfl, Sp.refl _ _ _⟩
          case round =>
            clear c2
            obtain ⟨q, rfl, hq', hgk, hsp⟩ := hrel
            have hgkH2 : Hidden (gk = d.params.length - q) := hgk
            have hspH3 : Hidden (Sp lo hi W2 wr) := hsp
            obtain ⟨c0, c1, c2⟩ := (show ∀ u, Sp lo hi W0 u → _ from box) wr ((show Sp lo hi W0 W2 from hspH2).trans hsp)
            have x1 : wr.cell? ⟨b, j * 7 + 4, none⟩ = some (.slice ao1 d.params.length p1) := RwB.same hbrH hsp (by rw [free_de]; omega) x1H
            clear hgk hsp c0 c1
            by_cases hql : q < d.params.length
            · obtain ⟨b1, rfl, hb1⟩ : ∃ b1, ao1 = some ⟨b1, 0, none⟩ ∧ RwB W2 lo hi b1 53 (d.params.length * 2) := by
                rcases (show ShP W2 lo hi ao1 p1 d.params from hPH).2.2 with h0 | h
                · rw [h0] at hql; simp at hql
                · exact h
              have hb2 := hb1.sp hspH3
              obtain ⟨v3, y3, z3⟩ := hb2.cell (p := q * 2) (by omega)
              have s4 : Sp lo hi wr (wr.setCell ⟨b1, q * 2, none⟩ (.string ⟨#[115, 112, 111, 105, 108, 116]⟩)) := hb2.set (by rw [free_pa]; omega) _
              have s4H : Hidden (Sp lo hi W2 (wr.setCell ⟨b1, q * 2, none⟩ (.string ⟨#[115, 112, 111, 105, 108, 116]⟩))) := (show Sp lo hi W2 wr from hspH3).trans s4
              clear hb1 hb2 s4
              go_wp2_with fail
              go_roundg (d.params.length - (q + 1))
              case measure => have : gk = d.params.length - q := hgkH2; omega
              case rel => exact ⟨q + 1, by go_num, by omega, rfl, s4H⟩
            · have x2 : wr.cell? ⟨b, j * 7 + 5, none⟩ = some (.slice ao2 d.e.len p2) := RwB.same hbrH hspH3 (by rw [free_de]; omega) x2H
              have kX1 := (show ∀ u, Sp lo hi W2 u → Calls Tryz.prog 17 #[.slice ao2 d.e.len p2] u fun e w' => e = .returned (.tuple #[]) ∧ Sp lo hi u w' from kX) wr hspH3
              go_upto_region 13 with (go_at_call 17; refine kX1.mono ?_; rintro e W4 ⟨rfl, s4⟩)
              replace s4 := (show Sp lo hi W2 wr from hspH3).trans s4
              have x3 : W4.cell? ⟨b, j * 7 + 6, none⟩ = some (.slice ao3 d.body.len p3) := RwB.same hbrH s4 (by rw [free_de]; omega) x3H
              have kT1 := (show ∀ u, Sp lo hi W2 u → Calls Tryz.prog 18 #[.slice ao3 d.body.len p3] u fun e w' => e = .returned (.tuple #[]) ∧ Sp lo hi u w' from kT) W4 s4
              clear c2 x1 x2 kX1
              obtain ⟨c0, c1, c2⟩ := (show ∀ u, Sp lo hi W0 u → _ from box) W4 ((show Sp lo hi W0 W2 from hspH2).trans s4)
              clear c0 c1
              go_upto_region 14 with (go_at_call 18; refine kT1.mono ?_; rintro e W5 ⟨rfl, s5⟩)
              replace s5 := s4.trans s5
              clear c2 x3 kT1 s4
              obtain ⟨c0, c1, c2⟩ := (show ∀ u, Sp lo hi W0 u → _ from box) W5 ((show Sp lo hi W0 W2 from hspH2).trans s5)
              have hb5 : RwB W5 lo hi b 47 (decls.length * 7) := RwB.sp hbrH s5
              obtain ⟨v6, y6, z6⟩ := hb5.cell (p := j * 7) (by omega)
              have s6H : Hidden (Sp lo hi W0 (W5.setCell ⟨b, j * 7, none⟩ (.int .i64 77))) := ((show Sp lo hi W0 W2 from hspH2).trans s5).trans (hb5.set (by rw [free_de]; omega) _)
              clear c0 c1 hb5 s5
              go_wp2_with fail
              go_roundg (decls.length - (j + 1))
              case measure => have : gk0 = decls.length - j := hgkH; omega
              case rel => exact ⟨j + 1, by go_num, by omega, rfl, s6H⟩
        · go_wp2_with fail
          go_end0
          exact ⟨rfl, (show Sp lo hi w W0 from s0H).trans hspH2⟩
end Go.Proofs.YtncachlopnpcjaaGreatDoor.Sl
