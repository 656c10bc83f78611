/- The document's Reader: many, Raw, Text, Done. -/
import Derived.Test.YtakkiipkmogagaaGreatIdF
import Derived.Deep.RegionHeld3
namespace Go.Proofs.YtakkiipkmogagaaGreat.Fo.Ic
open Go.RowKit Te
set_option linter.unusedSimpArgs false
set_option linter.unusedVariables false
set_option maxRecDepth 20000

def mnS (most : Nat) (s : Option (List UInt8)) : Nat × Option (List UInt8) := if most < (inS s).1 then (0, none) else inS s
theorem inS_lt (s : Option (List UInt8)) : (inS s).1 < 2147483648 := by
  unfold inS
  split
  · show 0 < _; omega
  · omega
set_option maxHeartbeats 1000000 in
theorem rmany_any (q : Nat) (bo : Option Addr) (bk : Nat) (b : List UInt8) (s : Option (List UInt8)) (most : Nat) (hm : most ≤ 64) (hb : b.length ≤ 140737488351232) (w : World) (h : Rr w q bo bk b s) : Calls Tryz.prog 42 #[.pointer (some ⟨q, 0, none⟩), ci (most : Int)] w fun e w' => e = .returned (ci ((mnS most s).1 : Int)) ∧ Rr w' q bo bk b (mnS most s).2 ∧ Fr (fun k => k = q) w w' := by
  have ki := rint_any q bo bk b s hb w h
  have hl := inS_lt s
  have kf := fun (u : World) (s' : Option (List UInt8)) (hu : Rr u q bo bk b s') => rfail_any q bo bk b s' 3 (by decide) u hu
  by_cases hbig : most < (inS s).1
  · have e1 : mnS most s = (0, none) := by unfold mnS; rw [if_pos hbig]
    rw [e1]
    generalize (inS s).2 = s' at ki
    generalize (inS s).1 = N at ki hl hbig
    have t1 : decide ((most : Int) < (N : Int)) = true := by simp; omega
    have t2 : decide ((0 : Int) < (N : Int)) = true := by simp; omega
    have t3 : decide (most < N) = true := by simp; omega
    have t4 : decide (0 < N) = true := by simp; omega
    clear h e1
    go_enter Tryz.func42, Tryz.ntmps42
    go_wp2_with (first
      | (go_at_call 17; refine Calls.mono ki ?_; rintro e w1 ⟨rfl, r1, f1⟩; have kf1 := kf w1 s' r1)
      | (go_at_call 41; refine Calls.mono kf1 ?_; rintro e w2 ⟨rfl, r2, f2⟩))
    go_ret
    exact ⟨rfl, r2, f1.same f2⟩
  · have e1 : mnS most s = inS s := by unfold mnS; rw [if_neg hbig]
    rw [e1]
    generalize (inS s).2 = s' at ki ⊢
    generalize (inS s).1 = N at ki hl hbig ⊢
    have t1 : decide ((most : Int) < (N : Int)) = false := by simp; omega
    have t3 : decide (most < N) = false := by simp; omega
    clear h e1 kf
    go_enter Tryz.func42, Tryz.ntmps42
    go_wp2_with (go_at_call 17; refine Calls.mono ki ?_; rintro e w1 ⟨rfl, r1, f1⟩)
    go_ret
    exact ⟨rfl, r1, f1⟩
/-- Done. -/
def dnS : Option (List UInt8) → Bool
  | some [] => true
  | _ => false
set_option maxHeartbeats 1000000 in
theorem rdone_any (q : Nat) (bo : Option Addr) (bk : Nat) (b : List UInt8) (s : Option (List UInt8)) (hb : b.length ≤ 140737488351232) (w : World) (h : Rr w q bo bk b s) : Calls Tryz.prog 21 #[.pointer (some ⟨q, 0, none⟩)] w fun e w' => ∃ c : Int, e = .returned (ci c) ∧ (c == 0) = dnS s ∧ Fr FN w w' := by
  obtain ⟨a, e, h1, h2, h3, h4, h5⟩ := h
  obtain ⟨c0, c1, c2⟩ := box3r h1
  have hbm : b.length ≤ bk ∧ bk ≤ 9223372036854775807 := by
    obtain ⟨ao', cap', e', q1, q2, _⟩ := id h4
    simp only [Value.slice.injEq] at e'
    obtain ⟨_, _, rfl⟩ := e'
    rw [Wi.bc_length] at q1
    unfold maxLen at q2
    exact ⟨q1, by omega⟩
  have hfz : ∀ nq, Fr FN w (w.drewN nq) := fun nq => Ty.drewN_fr (Fr.refl _ _) _
  have hfzH : Hidden (∀ nq, Fr FN w (w.drewN nq)) := hfz
  have c2d : ∀ nq, (w.drewN nq).cell? ⟨q, 2, none⟩ = some (ci e) := fun nq => (hfz nq).cellN c2
  rcases h3 with ⟨rfl, rfl⟩ | ⟨he, rfl⟩
  · obtain ⟨L, hL⟩ : ∃ L, b.length = L := ⟨_, rfl⟩
    rw [hL] at c0 hbm hb h2
    by_cases hl : a < L
    · have hd : dnS (some (b.drop a)) = false := by
        have hne : b.drop a ≠ [] := by intro e; have := congrArg List.length e; rw [List.length_drop] at this; simp at this; omega
        cases hh : b.drop a with
        | nil => exact absurd hh hne
        | cons c r => rfl
      rw [hd]
      have t1 : decide ((a : Int) < (L : Int)) = true := by simp; omega
      have t2 : decide (a < L) = true := by simp; omega
      clear h1 h4 h5 hd hL hfz
      go_enter Tryz.func21, Tryz.ntmps21
      go_wp2_with fail
      go_quiet (fail)
      go_wp2_with fail
      go_ret
      exact ⟨41, rfl, by decide, (show ∀ nq, _ from hfzH) _⟩
    · have hd : dnS (some (b.drop a)) = true := by
        rw [List.drop_eq_nil_of_le (by omega)]; rfl
      rw [hd]
      have t1 : decide ((a : Int) < (L : Int)) = false := by simp; omega
      have t2 : decide (a < L) = false := by simp; omega
      clear h1 h4 h5 hd hL hfz
      go_enter Tryz.func21, Tryz.ntmps21
      go_wp2_with fail
      go_quiet (fail)
      go_wp2_with fail
      go_ret
      exact ⟨0, rfl, by decide, (show ∀ nq, _ from hfzH) _⟩
  · have b1 : (e != 0) = true := by simpa using he
    have heH : Hidden ((e == 0) = false) := he
    clear h1 h4 h5 hfz
    go_enter Tryz.func21, Tryz.ntmps21
    go_wp2_with fail
    go_quiet (fail)
    go_wp2_with fail
    go_ret
    exact ⟨e, rfl, heH, (show ∀ nq, _ from hfzH) _⟩
/-- Raw, Text. -/
def cutS (N : Nat) : Option (List UInt8) → List UInt8 × Option (List UInt8)
  | none => ([], none)
  | some r => if N ≤ r.length then (r.take N, some (r.drop N)) else ([], none)
def rwS (most : Nat) (s : Option (List UInt8)) : List UInt8 × Option (List UInt8) := cutS (mnS most s).1 (mnS most s).2
end Go.Proofs.YtakkiipkmogagaaGreat.Fo.Ic
