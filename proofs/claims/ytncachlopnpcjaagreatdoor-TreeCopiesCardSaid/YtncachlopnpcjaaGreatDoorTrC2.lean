/- The law's spoilExprs, spoilStmts (for TreeCopies). -/
import Derived.Test.YtncachlopnpcjaaGreatDoorTrC1
import Derived.Deep.LoopGhost
namespace Go.Proofs.YtncachlopnpcjaaGreatDoor.Sl
open Go.RowKit Te
set_option linter.unusedSimpArgs false
set_option linter.unusedVariables false

def SpX (k : Exs) : Prop := ∀ (lo hi : Nat) (w : World) (ao : Option Addr) (cap : Nat), ShX w lo hi ao cap k → Calls Tryz.prog 17 #[.slice ao k.len cap] w fun e w' => e = .returned (.tuple #[]) ∧ Sp lo hi w w'
def AllSp : Exs → Prop
  | .nil => True
  | .cons _ k r => SpX k ∧ AllSp r
set_option maxRecDepth 20000 in
set_option maxHeartbeats 4000000 in
theorem spoilX_step (k : Exs) (ih : AllSp k) : SpX k := by
  intro lo hi w ao cap hs
  obtain ⟨h1, h2, h3⟩ := hs
  have hc2 : cap ≤ 9223372036854775807 := by unfold maxLen at h2; omega
  have hlen : k.len ≤ 9223372036854775807 := by omega
  have hrow : k = .nil ∨ ∃ b, ao = some ⟨b, 0, none⟩ ∧ RwB w lo hi b 39 (k.len * 7) ∧ ShE w lo hi k b 0 := by
    rcases h3 with h0 | h
    · cases k with
      | nil => exact Or.inl rfl
      | cons _ _ _ => simp [Exs.len] at h0
    · exact Or.inr h
  clear h2 h3
  go_enter Tryz.func17, Tryz.ntmps17
  go_wp2_with fail
  go_loopg [2] k.len (fun g iv wr => ∃ (i : Nat) (r : Exs), iv = ci (i : Int) ∧ i + r.len = k.len ∧ (r = .nil ∨ ∃ b, ao = some ⟨b, 0, none⟩ ∧ RwB wr lo hi b 39 (k.len * 7) ∧ ShE wr lo hi r b i) ∧ AllSp r ∧ g = r.len ∧ Sp lo hi w wr)
  case atStart => exact ⟨0, k, rfl, by omega, hrow, ih, rfl, Sp.refl _ _ _⟩
  case round =>
    clear hrow ih
    obtain ⟨i, r, rfl, hi', hr, hall, hgk, hsp⟩ := hrel
    have hgkH : Hidden (gk = r.len) := hgk
    have hiH : Hidden (i + r.len = k.len) := hi'
    have hspH : Hidden (Sp lo hi w wr) := hsp
    clear hgk hi' hsp
    cases r with
    | nil =>
      have hi : i = k.len := hiH
      subst hi
      clear hr hall
      go_wp2_with fail
      go_end0
      exact ⟨rfl, hspH⟩
    | cons h' k' r' =>
      have hil : i < k.len := by have : i + (r'.len + 1) = k.len := hiH; omega
      obtain ⟨b, rfl, hb, ⟨ao', cap', c6, k1, k2, k3⟩, hE⟩ : ∃ b, ao = some ⟨b, 0, none⟩ ∧ RwB wr lo hi b 39 (k.len * 7) ∧ ShE wr lo hi (.cons h' k' r') b i := by
        rcases hr with h0 | h
        · cases h0
        · exact h
      have kc := hall.1 lo hi wr ao' cap' ⟨k1, k2, k3⟩
      have hallH : Hidden (AllSp r') := hall.2
      have hbH : Hidden (RwB wr lo hi b 39 (k.len * 7)) := hb
      have hEH : Hidden (ShE wr lo hi r' b (i + 1)) := hE
      clear hr hall hb hE k1 k2 k3
      go_upto_region 4 with (go_at_call 17; refine kc.mono ?_; rintro e W3 ⟨rfl, s3⟩)
      have hb3 : RwB W3 lo hi b 39 (k.len * 7) := (show RwB wr lo hi b 39 (k.len * 7) from hbH).sp s3
      obtain ⟨v3, y3, z3⟩ := hb3.cell (p := i * 7 + 3) (by omega)
      have s4 : Sp lo hi W3 (W3.setCell ⟨b, i * 7 + 3, none⟩ (.string ⟨#[115, 112, 111, 105, 108, 116]⟩)) := hb3.set (by rw [free_ex]; omega) _
      have hb4 := hb3.sp s4
      obtain ⟨v4, y4, z4⟩ := hb4.cell (p := i * 7) (by omega)
      have s5 : Sp lo hi (W3.setCell ⟨b, i * 7 + 3, none⟩ (.string ⟨#[115, 112, 111, 105, 108, 116]⟩)) ((W3.setCell ⟨b, i * 7 + 3, none⟩ (.string ⟨#[115, 112, 111, 105, 108, 116]⟩)).setCell ⟨b, i * 7, none⟩ (.int .i64 77)) := hb4.set (by rw [free_ex]; omega) _
      have s35H : Hidden (Sp lo hi wr ((W3.setCell ⟨b, i * 7 + 3, none⟩ (.string ⟨#[115, 112, 111, 105, 108, 116]⟩)).setCell ⟨b, i * 7, none⟩ (.int .i64 77))) := (s3.trans s4).trans s5
      clear hb3 hb4 s3 s4 s5 kc c6
      go_wp2_with fail
      go_roundg r'.len
      case measure => have : gk = r'.len + 1 := hgkH; omega
      case rel =>
        refine ⟨i + 1, r', by go_num, ?_, ?_, hallH, rfl, (show Sp lo hi w wr from hspH).trans s35H⟩
        · have : i + (r'.len + 1) = k.len := hiH
          omega
        · exact Or.inr ⟨b, rfl, (show RwB wr lo hi b 39 (k.len * 7) from hbH).sp s35H, ShE.sp s35H r' b (i + 1) _ hbH hEH⟩
theorem allSp : ∀ k : Exs, AllSp k
  | .nil => trivial
  | .cons _ k r => ⟨spoilX_step k (allSp k), allSp r⟩
theorem spoilX_any (k : Exs) : SpX k := spoilX_step k (allSp k)
def SpT (k : Sts) : Prop := ∀ (lo hi : Nat) (w : World) (ao : Option Addr) (cap : Nat), ShT w lo hi ao cap k → Calls Tryz.prog 18 #[.slice ao k.len cap] w fun e w' => e = .returned (.tuple #[]) ∧ Sp lo hi w w'
def AllSt : Sts → Prop
  | .nil => True
  | .cons _ _ b l r => SpT b ∧ SpT l ∧ AllSt r
set_option maxRecDepth 20000 in
set_option maxHeartbeats 4000000 in
theorem spoilT_step (k : Sts) (ih : AllSt k) : SpT k := by
  intro lo hi w ao cap hs
  obtain ⟨h1, h2, h3⟩ := hs
  have hc2 : cap ≤ 9223372036854775807 := by unfold maxLen at h2; omega
  have hlen : k.len ≤ 9223372036854775807 := by omega
  have hrow : k = .nil ∨ ∃ b, ao = some ⟨b, 0, none⟩ ∧ RwB w lo hi b 67 (k.len * 5) ∧ ShS w lo hi k b 0 := by
    rcases h3 with h0 | h
    · cases k with
      | nil => exact Or.inl rfl
      | cons _ _ _ _ _ => simp [Sts.len] at h0
    · exact Or.inr h
  clear h2 h3
  go_enter Tryz.func18, Tryz.ntmps18
  go_wp2_with fail
  go_loopg [2] k.len (fun g iv wr => ∃ (i : Nat) (r : Sts), iv = ci (i : Int) ∧ i + r.len = k.len ∧ (r = .nil ∨ ∃ b, ao = some ⟨b, 0, none⟩ ∧ RwB wr lo hi b 67 (k.len * 5) ∧ ShS wr lo hi r b i) ∧ AllSt r ∧ g = r.len ∧ Sp lo hi w wr)
  case atStart => exact ⟨0, k, rfl, by omega, hrow, ih, rfl, Sp.refl _ _ _⟩
  case round =>
    clear hrow ih
    obtain ⟨i, r, rfl, hi', hr, hall, hgk, hsp⟩ := hrel
    have hgkH : Hidden (gk = r.len) := hgk
    have hiH : Hidden (i + r.len = k.len) := hi'
    have hspH : Hidden (Sp lo hi w wr) := hsp
    clear hgk hi' hsp
    cases r with
    | nil =>
      have hi : i = k.len := hiH
      subst hi
      clear hr hall
      go_wp2_with fail
      go_end0
      exact ⟨rfl, hspH⟩
    | cons h' e' b' l' r' =>
      have hil : i < k.len := by have : i + (r'.len + 1) = k.len := hiH; omega
      obtain ⟨b, rfl, hb, ⟨ao1, c1, ao2, c2, ao3, c3, x1, x2, x3, hX, hY, hZ⟩, hE⟩ : ∃ b, ao = some ⟨b, 0, none⟩ ∧ RwB wr lo hi b 67 (k.len * 5) ∧ ShS wr lo hi (.cons h' e' b' l' r') b i := by
        rcases hr with h0 | h
        · cases h0
        · exact h
      have kc1 := spoilX_any e' lo hi wr ao1 c1 hX
      have hallH : Hidden (AllSt r') := hall.2.2
      have kY : ∀ w1, Sp lo hi wr w1 → Calls Tryz.prog 18 #[.slice ao2 b'.len c2] w1 fun e w' => e = .returned (.tuple #[]) ∧ Sp lo hi w1 w' := fun w1 s => hall.1 lo hi w1 ao2 c2 (ShT.sp hY s)
      have kZ : ∀ w1, Sp lo hi wr w1 → Calls Tryz.prog 18 #[.slice ao3 l'.len c3] w1 fun e w' => e = .returned (.tuple #[]) ∧ Sp lo hi w1 w' := fun w1 s => hall.2.1 lo hi w1 ao3 c3 (ShT.sp hZ s)
      have hbH : Hidden (RwB wr lo hi b 67 (k.len * 5)) := hb
      have hEH : Hidden (ShS wr lo hi r' b (i + 1)) := hE
      have x2H : Hidden (wr.cell? ⟨b, i * 5 + 3, none⟩ = some (.slice ao2 b'.len c2)) := x2
      have x3H : Hidden (wr.cell? ⟨b, i * 5 + 4, none⟩ = some (.slice ao3 l'.len c3)) := x3
      clear hr hall hb hE hX hY hZ x2 x3
      go_upto_region 4 with (go_at_call 17; refine kc1.mono ?_; rintro e W1 ⟨rfl, s1⟩)
      have x2 : W1.cell? ⟨b, i * 5 + 3, none⟩ = some (.slice ao2 b'.len c2) := RwB.same hbH s1 (by rw [free_st]; omega) x2H
      have kY1 := kY W1 s1
      clear x1 kc1
      go_upto_region 5 with (go_at_call 18; refine kY1.mono ?_; rintro e W2 ⟨rfl, s2⟩)
      have s12 := s1.trans s2
      have x3 : W2.cell? ⟨b, i * 5 + 4, none⟩ = some (.slice ao3 l'.len c3) := RwB.same hbH s12 (by rw [free_st]; omega) x3H
      have kZ1 := kZ W2 s12
      clear x2 kY1 kY kZ s1 s2
      go_upto_region 6 with (go_at_call 18; refine kZ1.mono ?_; rintro e W3 ⟨rfl, s3⟩)
      replace s3 := s12.trans s3
      have hb3 : RwB W3 lo hi b 67 (k.len * 5) := (show RwB wr lo hi b 67 (k.len * 5) from hbH).sp s3
      obtain ⟨v3, y3, z3⟩ := hb3.cell (p := i * 5 + 1) (by omega)
      have s4 : Sp lo hi W3 (W3.setCell ⟨b, i * 5 + 1, none⟩ (.string ⟨#[115, 112, 111, 105, 108, 116]⟩)) := hb3.set (by rw [free_st]; omega) _
      have hb4 := hb3.sp s4
      obtain ⟨v4, y4, z4⟩ := hb4.cell (p := i * 5) (by omega)
      have s5 : Sp lo hi (W3.setCell ⟨b, i * 5 + 1, none⟩ (.string ⟨#[115, 112, 111, 105, 108, 116]⟩)) ((W3.setCell ⟨b, i * 5 + 1, none⟩ (.string ⟨#[115, 112, 111, 105, 108, 116]⟩)).setCell ⟨b, i * 5, none⟩ (.int .i64 77)) := hb4.set (by rw [free_st]; omega) _
      have s35H : Hidden (Sp lo hi wr ((W3.setCell ⟨b, i * 5 + 1, none⟩ (.string ⟨#[115, 112, 111, 105, 108, 116]⟩)).setCell ⟨b, i * 5, none⟩ (.int .i64 77))) := (s3.trans s4).trans s5
      clear hb3 hb4 s3 s4 s5 kZ1 x3 s12
      go_wp2_with fail
      go_roundg r'.len
      case measure => have : gk = r'.len + 1 := hgkH; omega
      case rel =>
        refine ⟨i + 1, r', by go_num, ?_, ?_, hallH, rfl, (show Sp lo hi w wr from hspH).trans s35H⟩
        · have : i + (r'.len + 1) = k.len := hiH
          omega
        · exact Or.inr ⟨b, rfl, (show RwB wr lo hi b 67 (k.len * 5) from hbH).sp s35H, ShS.sp s35H r' b (i + 1) _ hbH hEH⟩
theorem allSt : ∀ k : Sts, AllSt k
  | .nil => trivial
  | .cons _ _ b l r => ⟨spoilT_step b (allSt b), spoilT_step l (allSt l), allSt r⟩
theorem spoilT_any (k : Sts) : SpT k := spoilT_step k (allSt k)
end Go.Proofs.YtncachlopnpcjaaGreatDoor.Sl
