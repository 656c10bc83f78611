/- DepgraphOrdered: where there is no order. -/
import Derived.Test.YtdnghklfeldbpaaDgY2
import Derived.Test.YtdnghklfeldbpaaDgZ
namespace Go.Proofs.Ytdnghklfeldbpaa.depgraphOrdered
open Go.RowKit Go.Sort Dg
set_option linter.unusedSimpArgs false
set_option linter.unusedVariables false
set_option maxRecDepth 20000 in
set_option maxHeartbeats 4000000 in
/-- Where there is no order. -/
theorem err (v : Value) (nl : List Nd) (w : World) (hm : NL w v nl) (hok : ∀ n ∈ nl, OkN n.1 ∧ ∀ x ∈ n.2, OkN x) (hsz : nl.length * 40 ≤ 140737488355328 ∧ ∀ n ∈ nl, n.2.length * 16 ≤ 140737488355328) (hno : newE nl = 0 → ordE (gOf nl) ≠ 0) :
    Calls Try.prog 5 #[v] w fun e w' => e = .returned (.bool true) ∧ Fr (fun _ => False) w w' := by
  obtain ⟨ao, cap, rfl, t1, t2, _⟩ := id hm
  have ko := own_any ao cap nl w hm hsz.1 hsz.2
  have hokH : Hidden (∀ n ∈ nl, OkN n.1 ∧ ∀ x ∈ n.2, OkN x) := hok
  obtain ⟨nn, hnn⟩ : ∃ n, n = nl.length := ⟨_, rfl⟩
  rw [← hnn] at ko t1 ⊢
  have hnnH : Hidden (nn = nl.length) := hnn
  clear hm hok hsz hnn
  go_enter Try.func5, Try.ntmps5
  go_wp2_with fail
  refine ko.mono ?_
  rintro e w1 ⟨ao1, cap1, xs, rfl, o1, f1⟩
  have f1H : Hidden (Fr (fun _ => False) w w1) := f1
  have kn := new_any ao1 cap1 nl w1 (by rw [← (show nn = nl.length from hnnH)]; exact o1.nl) hokH
  rw [← (show nn = nl.length from hnnH)] at kn
  clear ko o1 f1
  go_wp2_with fail
  refine kn.mono ?_
  rintro e w2 ⟨hR, f2⟩
  have f2H : Hidden (Fr (fun _ => False) w w2) := Fr.same f1H f2
  have ka := alive_any w2
  clear kn f2
  rcases hR with ⟨hE, rfl⟩ | ⟨hE0, B, rfl, hG⟩
  · have hE' : (newE nl == 0) = false := beq_eq_false_iff_ne.2 hE
    clear hno
    generalize newE nl = E at *
    go_wp2_with fail
    refine ka.mono ?_
    rintro e w3 ⟨rfl, f3⟩
    have f3H : Hidden (Fr (fun _ => False) w w3) := Fr.same f2H f3
    clear ka f3
    go_wp2
    go_ret
    exact ⟨rfl, f3H⟩
  have hg : Gp w2 (.pointer (some ⟨B, 0, none⟩)) (gOf nl) := hG w2 (Fr.refl _ _)
  have hgH : Hidden (Gp w2 (.pointer (some ⟨B, 0, none⟩)) (gOf nl)) := hg
  have hsm := hg.small
  have hwf := gOf_wf nl
  have hno' := hno hE0
  clear hG hg hno hE0
  generalize gOf nl = g at *
  go_wp2_with fail
  refine ka.mono ?_
  rintro e w3 ⟨rfl, f3⟩
  have f3H : Hidden (Fr (fun _ => False) w2 w3) := f3
  have hoq : ordC (some (⟨B, 0, none⟩ : Addr)) g ≠ 0 := hno'
  have ko := order_err (some ⟨B, 0, none⟩) g w3 (Gp.later hgH f3H) hoq
  have hoE : ordC (some (⟨B, 0, none⟩ : Addr)) g = ordE g := rfl
  rw [hoE] at ko
  clear ka f3 hoE hoq
  have km := fun W hW => missing_any (.pointer (some ⟨B, 0, none⟩)) g W (Gp.later hgH hW)
  have kr := fun W hW => ring_any (.pointer (some ⟨B, 0, none⟩)) g W (Gp.later hgH hW)
  cases hms : missS g with
  | some un =>
    obtain ⟨u, n⟩ := un
    have hv : ordE g = 31 := by unfold ordE; rw [hms]; rfl
    rw [hv] at ko hno'
    rw [hms] at km
    simp only [missV] at km
    clear hms hv hno'
    go_wp2_with fail
    refine ko.mono ?_
    rintro e w4 ⟨rfl, f4⟩
    have f4H : Hidden (Fr (fun _ => False) w2 w4) := Fr.same f3H f4
    have km := km w4 f4H
    clear ko f4
    go_wp2_with fail
    refine km.mono ?_
    rintro e w5 ⟨rfl, f5⟩
    have f5H : Hidden (Fr (fun _ => False) w2 w5) := Fr.same f4H f5
    have kr := kr w5 f5H
    clear km f5
    go_wp2_with fail
    refine kr.mono ?_
    rintro e w6 ⟨⟨ao6, cap6, rfl, t6⟩, f6⟩
    have f6H : Hidden (Fr (fun _ => False) w w6) := Fr.same f2H (Fr.same f5H f6)
    clear kr f6 t6
    go_wp2
    go_ret
    exact ⟨rfl, f6H⟩
  | none =>
    have hrne : ringS g ≠ [] := by
      intro h
      apply hno'
      unfold ordE
      rw [hms, if_neg (by simp), if_pos h]
    have hv : ordE g = 32 := by unfold ordE; rw [hms, if_neg (by simp), if_neg hrne]
    have hrl : 0 < (ringS g).length := List.length_pos_iff.2 hrne
    have hrz : (0 : Int) < ((ringS g).length : Int) := by omega
    rw [hv] at ko hno'
    rw [hms] at km
    simp only [missV] at km
    clear hms hv hno' hrne
    go_wp2_with fail
    refine ko.mono ?_
    rintro e w4 ⟨rfl, f4⟩
    have f4H : Hidden (Fr (fun _ => False) w2 w4) := Fr.same f3H f4
    have km := km w4 f4H
    clear ko f4
    go_wp2_with fail
    refine km.mono ?_
    rintro e w5 ⟨rfl, f5⟩
    have f5H : Hidden (Fr (fun _ => False) w2 w5) := Fr.same f4H f5
    have kr := kr w5 f5H
    clear km f5
    go_wp2_with fail
    refine kr.mono ?_
    rintro e w6 ⟨⟨ao6, cap6, rfl, t6⟩, f6⟩
    have f6H : Hidden (Fr (fun _ => False) w w6) := Fr.same f2H (Fr.same f5H f6)
    clear kr f6 t6
    go_wp2
    go_ret
    exact ⟨rfl, f6H⟩
end Go.Proofs.Ytdnghklfeldbpaa.depgraphOrdered
