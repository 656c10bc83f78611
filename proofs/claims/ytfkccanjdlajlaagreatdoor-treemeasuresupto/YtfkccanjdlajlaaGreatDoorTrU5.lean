/- The document's Uses: statements. -/
import Derived.Test.YtfkccanjdlajlaaGreatDoorTrU4
import Derived.Deep.RegionHeld3
namespace Go.Proofs.YtfkccanjdlajlaaGreatDoor.X
open Go.RowKit Te
set_option linter.unusedSimpArgs false
set_option linter.unusedVariables false

def UsS (k : Sts) : Prop := ∀ (ao : Option Addr) (cap : Nat) (w : World) (v : Value) (l : List Bs), StL w ao cap k → U.Tl w v l → Fit l (usS k) →
  Calls Tryz.prog 51 #[v, .slice ao k.len cap] w fun e w' => ∃ v', e = .returned v' ∧ U.Tl w' v' ((usS k).foldl U.putS l) ∧ Fr (fun _ => False) w w'
set_option maxRecDepth 20000 in
set_option maxHeartbeats 4000000 in
theorem usS_step (k : Sts) (ih : ∀ k' : Sts, k'.size < k.size → UsS k') : UsS k := by
  intro ao cap w v l hk ht hb
  have hrest := hk.rest
  obtain ⟨hcap, hmax, _⟩ := hk
  have hlen : k.len ≤ 9223372036854775807 := by unfold maxLen at hmax; omega
  obtain ⟨R, hR⟩ : ∃ R, (usS k).foldl U.putS l = R := ⟨_, rfl⟩
  rw [hR]
  obtain ⟨vao, vcap, rfl, _⟩ := id ht
  go_enter Tryz.func51, Tryz.ntmps51
  go_wp2_with fail
  go_loopg [0, 5] k.len (fun g mv iv wr => ∃ (i : Nat) (r : Sts) (l1 : List Bs), iv = ci (i : Int) ∧ i + r.len = k.len ∧ r.size ≤ k.size ∧ StR w ao i r ∧ U.Tl wr mv l1 ∧ (usS r).foldl U.putS l1 = R ∧ Fit l1 (usS r) ∧ g = r.len ∧ Fr (fun _ => False) w wr)
  case atStart => exact ⟨0, k, l, rfl, by omega, Nat.le_refl _, hrest, ht, hR, hb, rfl, Fr.refl _ _⟩
  case round =>
    obtain ⟨i, r, l1, rfl, hlen2, hsize, hrow, hto, hdk, hfit, hgk, hfr⟩ := hrel
    have hgkH : Hidden (gk = r.len) := hgk
    have hdkH : Hidden ((usS r).foldl U.putS l1 = R) := hdk
    have hlenH : Hidden (i + r.len = k.len) := hlen2
    clear hgk hdk hlen2 hrest hR hb
    cases r with
    | nil =>
      have hi : i = k.len := hlenH
      subst hi
      obtain rfl : l1 = R := hdkH
      go_wp2_with fail
      go_ret
      exact ⟨_, rfl, hto, hfr⟩
    | cons h' e' b' l' r' =>
      have hil : i < k.len := by have : i + (r'.len + 1) = k.len := hlenH; omega
      obtain ⟨b, off, ao1, cap1, ao2, cap2, ao3, cap3, rfl, hL1, hL2, hL3, hrow2, d0, d1, d2, d3, d4⟩ := hrow.next
      have d0 := hfr.cellN d0
      have d1 := hfr.cellN d1
      have d2 := hfr.cellN d2
      have d3 := hfr.cellN d3
      have d4 := hfr.cellN d4
      simp only [Sts.size] at hsize
      have kB := ih b' (by omega)
      have kL := ih l' (by omega)
      unfold UsS at kB kL
      have hd2 : Hidden ((usS r').foldl U.putS ((usS l').foldl U.putS ((usS b').foldl U.putS ((usE e').foldl U.putS l1))) = R) := by
        have h0 : (usE e' ++ usS b' ++ usS l' ++ usS r').foldl U.putS l1 = R := hdkH
        rw [List.foldl_append, List.foldl_append, List.foldl_append] at h0
        exact h0
      have hft : Fit l1 (usE e' ++ (usS b' ++ (usS l' ++ usS r'))) := by
        have h0 : Fit l1 (usE e' ++ usS b' ++ usS l' ++ usS r') := hfit
        rw [List.append_assoc, List.append_assoc] at h0
        exact h0
      have t1 := fit_app hft
      have t2 := fit_app t1.2
      have t3 := fit_app t2.2
      have kE := fun (w1 : World) (f : Fr (fun _ => False) wr w1) => usE_any e' ao1 cap1 w1 _ l1 (hL1.keep (hfr.same f)) (hto.later (fr_u f)) t1.1
      clear hdkH hfit hft
      go_wp2_with fail
      go_region_held3 (fun w' => w'.cell? ⟨b, off + i * 5, none⟩ = some (ci h'.kind) ∧ w'.cell? ⟨b, off + i * 5 + 1, none⟩ = some (ct h'.name) ∧ w'.cell? ⟨b, off + i * 5 + 2, none⟩ = some (.slice ao1 e'.len cap1) ∧ w'.cell? ⟨b, off + i * 5 + 3, none⟩ = some (.slice ao2 b'.len cap2) ∧ w'.cell? ⟨b, off + i * 5 + 4, none⟩ = some (.slice ao3 l'.len cap3)) (go_keep) (first
        | (go_at_call 52; refine (kE _ (Fr.drew _ _)).mono ?_; rintro e w3 ⟨v3, rfl, to3, f3⟩; have fr3 := (Fr.drew (fun _ => False) wr).same f3; have x0 := fr3.cellN d0; have x1 := fr3.cellN d1; have x2 := fr3.cellN d2; have x3 := fr3.cellN d3; have x4 := fr3.cellN d4; have kB1 := kB ao2 cap2 w3 v3 _ (hL2.keep (hfr.same fr3)) to3 t2.1)
        | (go_at_call 51; refine kL1.mono ?_; rintro e w5 ⟨v5, rfl, to5, f5⟩; have fr5 := fr4.same f5; have z0 := fr5.cellN d0; have z1 := fr5.cellN d1; have z2 := fr5.cellN d2; have z3 := fr5.cellN d3; have z4 := fr5.cellN d4)
        | (go_at_call 51; refine kB1.mono ?_; rintro e w4 ⟨v4, rfl, to4, f4⟩; have fr4 := fr3.same f4; have y0 := fr4.cellN d0; have y1 := fr4.cellN d1; have y2 := fr4.cellN d2; have y3 := fr4.cellN d3; have y4 := fr4.cellN d4; have kL1 := kL ao3 cap3 w4 v4 _ (hL3.keep (hfr.same fr4)) to4 t3.1))
      all_goals
        go_wp2_with fail
        go_roundg r'.len
        case measure =>
          have : gk = r'.len + 1 := hgkH
          omega
        case rel =>
          refine ⟨i + 1, r', _, by go_num, ?_, by omega, hrow2, to5, hd2, t3.2, rfl, hfr.same fr5⟩
          have : i + (r'.len + 1) = k.len := hlenH
          omega
theorem usS_any (k : Sts) : UsS k := by
  have : ∀ (n : Nat) (k : Sts), k.size < n → UsS k := by
    intro n
    induction n with
    | zero => intro k hk; omega
    | succ n ih => intro k hk; exact usS_step k (fun k' hk' => ih k' (by omega))
  exact this (k.size + 1) k (by omega)
end Go.Proofs.YtfkccanjdlajlaaGreatDoor.X
