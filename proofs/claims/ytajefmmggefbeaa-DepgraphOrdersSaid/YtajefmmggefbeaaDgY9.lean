/- DepgraphOrders. -/
import Derived.Test.YtajefmmggefbeaaDgY7
namespace Go.Proofs.Ytajefmmggefbeaa.Dg
open Go.RowKit Go.Sort
set_option linter.unusedSimpArgs false
set_option linter.unusedVariables false
/-- The order, and the levels, where there are some. -/
def ordL (g : Gr) : List Str := if ordE g = 0 then (orderS g).getD [] else []
def levL (g : Gr) : List (List Str) := if ordE g = 0 then (levelsS g).getD [] else []
def OrdR (B : Nat) (g : Gr) (e : Ending) (w' : World) : Prop := ∃ ao cap, e = .returned (.tuple #[.slice ao (ordL g).length cap, .int .i64 (ordE g)]) ∧ To w' B (.slice ao (ordL g).length cap) (ordL g)
def LevR (B : Nat) (g : Gr) (e : Ending) (w' : World) : Prop := ∃ ao cap, e = .returned (.tuple #[.slice ao (levL g).length cap, .int .i64 (ordE g)]) ∧ LL w' B (.slice ao (levL g).length cap) (levL g)
theorem order_all (a : Addr) (g : Gr) (w : World) (h : Gp w (.pointer (some a)) g) : Calls Try.prog 20 #[.pointer (some a)] w fun e w' => OrdR w.heap.size g e w' ∧ Fr (fun _ => False) w w' := by
  by_cases he : ordE g = 0
  · obtain ⟨R, hR, _⟩ := (calm_of h.wf he).order
    have e1 : ordL g = R := by unfold ordL; rw [if_pos he, hR]; rfl
    unfold OrdR
    rw [e1, he]
    exact order_ok (some a) g w h he R hR
  · have e1 : ordL g = [] := by unfold ordL; rw [if_neg he]
    unfold OrdR
    rw [e1]
    refine (order_err (some a) g w h he).mono ?_
    rintro e w' ⟨rfl, hf⟩
    exact ⟨⟨none, 0, rfl, To.nil _ _⟩, hf⟩
theorem rorder_all (p : Value) (g : Gr) (w : World) (h : Rg w p g) : Calls Try.prog 21 #[p] w fun e w' => OrdR w.heap.size g e w' ∧ Fr (fun _ => False) w w' := by
  by_cases he : ordE g = 0
  · obtain ⟨R, hR, _⟩ := (calm_of h.wf he).order
    have e1 : ordL g = R := by unfold ordL; rw [if_pos he, hR]; rfl
    unfold OrdR
    rw [e1, he]
    exact rorder_ok p g w h he R hR
  · have e1 : ordL g = [] := by unfold ordL; rw [if_neg he]
    unfold OrdR
    rw [e1]
    refine (rorder_err p g w h he).mono ?_
    rintro e w' ⟨rfl, hf⟩
    exact ⟨⟨none, 0, rfl, To.nil _ _⟩, hf⟩
theorem levels_all (a : Addr) (g : Gr) (w : World) (h : Gp w (.pointer (some a)) g) : Calls Try.prog 22 #[.pointer (some a)] w fun e w' => LevR w.heap.size g e w' ∧ Fr (fun _ => False) w w' := by
  by_cases he : ordE g = 0
  · obtain ⟨R, hR, _⟩ := (calm_of h.wf he).levels
    have e1 : levL g = R := by unfold levL; rw [if_pos he, hR]; rfl
    unfold LevR
    rw [e1, he]
    exact levels_ok (some a) g w h he R hR
  · have e1 : levL g = [] := by unfold levL; rw [if_neg he]
    unfold LevR
    rw [e1]
    refine (levels_err (some a) g w h he).mono ?_
    rintro e w' ⟨rfl, hf⟩
    exact ⟨⟨none, 0, rfl, LL.nil _ _⟩, hf⟩
theorem rlevels_all (p : Value) (g : Gr) (w : World) (h : Rg w p g) : Calls Try.prog 23 #[p] w fun e w' => LevR w.heap.size g e w' ∧ Fr (fun _ => False) w w' := by
  by_cases he : ordE g = 0
  · obtain ⟨R, hR, _⟩ := (calm_of h.wf he).levels
    have e1 : levL g = R := by unfold levL; rw [if_pos he, hR]; rfl
    unfold LevR
    rw [e1, he]
    exact rlevels_ok p g w h he R hR
  · have e1 : levL g = [] := by unfold levL; rw [if_neg he]
    unfold LevR
    rw [e1]
    refine (rlevels_err p g w h he).mono ?_
    rintro e w' ⟨rfl, hf⟩
    exact ⟨⟨none, 0, rfl, LL.nil _ _⟩, hf⟩
end Go.Proofs.Ytajefmmggefbeaa.Dg
namespace Go.Proofs.Ytajefmmggefbeaa.depgraphOrders
open Go.RowKit Go.Sort Dg
set_option linter.unusedSimpArgs false
set_option linter.unusedVariables false
set_option maxRecDepth 20000 in
set_option maxHeartbeats 8000000 in
theorem walk (v : Value) (nl : List Nd) (w : World) (hm : NL w v nl) (hok : ∀ n ∈ nl, OkN n.1 ∧ ∀ x ∈ n.2, OkN x) (hsz : nl.length * 40 ≤ 140737488355328 ∧ ∀ n ∈ nl, n.2.length * 16 ≤ 140737488355328) :
    Calls Try.prog 4 #[v] w fun e w' => e = .returned (.bool true) ∧ Fr (fun _ => False) w w' := by
  obtain ⟨ao, cap, rfl, t1, t2, _⟩ := id hm
  have km := made_any ao cap nl w hm hok hsz
  obtain ⟨nn, hnn⟩ : ∃ n, n = nl.length := ⟨_, rfl⟩
  rw [← hnn] at km t1 ⊢
  clear hm hok hsz hnn
  go_enter Try.func4, Try.ntmps4
  go_wp2_with fail
  refine km.mono ?_
  rintro e w2 ⟨hR, f2⟩
  have f2H : Hidden (Fr (fun _ => False) w w2) := f2
  clear km f2
  rcases hR with ⟨_, rfl⟩ | ⟨_, B1, B2, rfl, hG, hT⟩
  · go_wp2
    go_ret
    exact ⟨rfl, f2H⟩
  obtain ⟨g, hg⟩ : ∃ g, g = gOf nl := ⟨_, rfl⟩
  rw [← hg] at hG hT
  have hGH : Hidden (Gp w2 (.pointer (some ⟨B1, 0, none⟩)) g) := hG
  have hTH : Hidden (Rg w2 (.pointer (some ⟨B2, 0, none⟩)) g) := hT
  have k1 := order_all _ g w2 hG
  clear hG hT hg
  go_wp2_with fail
  refine k1.mono ?_
  rintro e w3 ⟨⟨aoa, capa, rfl, ta⟩, f3⟩
  have g3 : Hidden (Fr (fun _ => False) w2 w3) := f3
  have taH : Hidden (To w3 w2.heap.size (.slice aoa (ordL g).length capa) (ordL g)) := ta
  have k2 := rorder_all _ g w3 (Rg.later hTH g3)
  clear k1 ta f3
  go_wp2_with fail
  refine k2.mono ?_
  rintro e w4 ⟨⟨aob, capb, rfl, tb⟩, f4⟩
  have f34 : Hidden (Fr (fun _ => False) w3 w4) := f4
  have g4 : Hidden (Fr (fun _ => False) w2 w4) := Fr.same g3 f4
  have tbH : Hidden (To w4 w3.heap.size (.slice aob (ordL g).length capb) (ordL g)) := tb
  have k3 := levels_all _ g w4 (Gp.later hGH g4)
  clear k2 tb f4
  go_wp2_with fail
  refine k3.mono ?_
  rintro e w5 ⟨⟨aoc, capc, rfl, tc⟩, f5⟩
  have f45 : Hidden (Fr (fun _ => False) w4 w5) := f5
  have g5 : Hidden (Fr (fun _ => False) w2 w5) := Fr.same g4 f5
  have tcH : Hidden (LL w5 w4.heap.size (.slice aoc (levL g).length capc) (levL g)) := tc
  have k4 := rlevels_all _ g w5 (Rg.later hTH g5)
  clear k3 tc f5
  go_wp2_with fail
  refine k4.mono ?_
  rintro e w6 ⟨⟨aod, capd, rfl, td⟩, f6⟩
  have f56 : Hidden (Fr (fun _ => False) w5 w6) := f6
  have g6 : Hidden (Fr (fun _ => False) w2 w6) := Fr.same g5 f6
  have tdH : Hidden (LL w6 w5.heap.size (.slice aod (levL g).length capd) (levL g)) := td
  have k5 := ring_any _ g w6 (Gp.later hGH g6)
  clear k4 td f6
  go_wp2_with fail
  refine k5.mono ?_
  rintro e w7 ⟨⟨aor, capr, rfl, tr⟩, f7⟩
  have f67 : Hidden (Fr (fun _ => False) w6 w7) := f7
  have g7 : Hidden (Fr (fun _ => False) w2 w7) := Fr.same g6 f7
  have trH : Hidden (Tl w7 (.slice aor (ringS g).length capr) (ringS g)) := tr
  have k6 := rring_any _ g w7 (Rg.later hTH g7)
  clear k5 tr f7
  go_wp2_with fail
  refine k6.mono ?_
  rintro e w8 ⟨⟨aos, caps, rfl, ts⟩, f8⟩
  have f78 : Hidden (Fr (fun _ => False) w7 w8) := f8
  have g8 : Hidden (Fr (fun _ => False) w2 w8) := Fr.same g7 f8
  have k7 := texts3_is _ _ (ringS g) (ringS g) w8 (Tl.later trH f8) ts.tn.tl true (by simp)
  clear k6 ts f8
  go_wp2_with fail
  refine k7.mono ?_
  rintro e w9 ⟨rfl, f9⟩
  have f89 : Hidden (Fr (fun _ => False) w8 w9) := f9
  have g9 : Hidden (Fr (fun _ => False) w2 w9) := Fr.same g8 f9
  have f49 : Hidden (Fr (fun _ => False) w4 w9) := Fr.same f45 (Fr.same f56 (Fr.same f67 (Fr.same f78 f9)))
  have f59 : Hidden (Fr (fun _ => False) w5 w9) := Fr.same f56 (Fr.same f67 (Fr.same f78 f9))
  have f69 : Hidden (Fr (fun _ => False) w6 w9) := Fr.same f67 (Fr.same f78 f9)
  have ta9 : Hidden (To w9 w2.heap.size (.slice aoa (ordL g).length capa) (ordL g)) := To.later taH (Fr.same f34 f49)
  have tb9 : Hidden (To w9 w3.heap.size (.slice aob (ordL g).length capb) (ordL g)) := To.later tbH f49
  have tc9 : Hidden (LL w9 w4.heap.size (.slice aoc (levL g).length capc) (levL g)) := LL.later tcH f59
  have td9 : Hidden (LL w9 w5.heap.size (.slice aod (levL g).length capd) (levL g)) := LL.later tdH f69
  have k8 := texts3_is _ _ (ordL g) (ordL g) w9 (show To w9 _ _ _ from ta9).tn.tl (show To w9 _ _ _ from tb9).tn.tl true (by simp)
  have hcc : (levL g).length ≤ capc ∧ capc ≤ 9223372036854775807 := by obtain ⟨_, _, e, q1, q2⟩ := (show LL w9 _ _ _ from tc9).shape; cases e; exact ⟨q1, q2⟩
  have hcd : (levL g).length ≤ capd ∧ capd ≤ 9223372036854775807 := by obtain ⟨_, _, e, q1, q2⟩ := (show LL w9 _ _ _ from td9).shape; cases e; exact ⟨q1, q2⟩
  obtain ⟨hcc1, hcc2⟩ := hcc
  obtain ⟨hcd1, hcd2⟩ := hcd
  have alow : Hidden (∀ k, (Value.slice aoa (ordL g).length capa).ownBlock = some k → w2.heap.size ≤ k ∧ k < w3.heap.size) := (show To w3 w2.heap.size _ _ from taH).own
  clear k7 f9 f34 f45 f56 f67 f78 f89 f49 f59 f69 g3 g4 g5 g6 g7 g8 taH tbH tcH tdH trH
  obtain ⟨ol, hol⟩ : ∃ n, n = (ordL g).length := ⟨_, rfl⟩
  have holH : Hidden (ol = (ordL g).length) := hol
  rw [← hol] at ta9 tb9 alow k8 ⊢
  obtain ⟨E, hE⟩ : ∃ E, E = ordE g := ⟨_, rfl⟩
  have hEH : Hidden (E = ordE g) := hE
  rw [← hE]
  clear hol hE
  go_wp2_with fail
  refine k8.mono ?_
  rintro e w10 ⟨rfl, f10⟩
  have g10 : Hidden (Fr (fun _ => False) w9 w10) := f10
  clear k8 f10
  go_wp2_with fail
  go_loopg [14] (levL g).length (fun q iv wr => ∃ k : Nat, iv = .int .i64 (k : Int) ∧ k ≤ (levL g).length ∧ q = (levL g).length - k ∧ Fr (fun _ => False) w9 wr)
  case atStart => exact ⟨0, rfl, by omega, rfl, g10⟩
  case round =>
    obtain ⟨k, rfl, hk, hq, hf⟩ := hrel
    have hqH : Hidden (gk = (levL g).length - k) := hq
    have hfH : Hidden (Fr (fun _ => False) w9 wr) := hf
    clear hq g10
    by_cases hkl : k < (levL g).length
    · obtain ⟨l, hl⟩ : ∃ l, (levL g)[k]? = some l := ⟨(levL g)[k], List.getElem?_eq_getElem hkl⟩
      obtain ⟨bc, xc, e1, cc, tc, _⟩ := LL.at (LL.later tc9 hf) hl
      subst e1
      obtain ⟨bd, xd, e2, cd, td, _⟩ := LL.at (LL.later td9 hf) hl
      subst e2
      have kt := texts3_is xc xd l l wr.drew (tc.later (Fr.drew _ _)) (td.later (Fr.drew _ _)) true (by simp)
      obtain ⟨ao1, cap1, hx1, _⟩ := id tc
      subst hx1
      obtain ⟨ao2, cap2, hx2, _⟩ := id td
      subst hx2
      have cc0 : wr.cell? ⟨bc, 0 + k, none⟩ = some (.slice ao1 l.length cap1) := by rw [Nat.zero_add]; exact cc
      clear hl hf tc td
      go_wp2_with fail
      go_region_held3 (fun w' => w'.cell? ⟨bc, k, none⟩ = some (.slice ao1 l.length cap1) ∧ w'.cell? ⟨bd, k, none⟩ = some (.slice ao2 l.length cap2)) (first | (refine ⟨by with_reducible assumption, by with_reducible assumption⟩) | go_keep) (first | (go_at_call 8; refine kt.mono ?_; rintro e w12 ⟨rfl, f12⟩; have fr12 : Hidden (Fr (fun _ => False) w9 w12) := Fr.same hfH ((Fr.drew _ _).same f12); have cc2 := ((Fr.drew (fun _ => False) wr).same f12).cellN cc; have cd2 := ((Fr.drew (fun _ => False) wr).same f12).cellN cd; clear f12))
      go_wp2
      go_roundg ((levL g).length - (k + 1))
      case measure => have := (show gk = (levL g).length - k from hqH); omega
      case rel => exact ⟨k + 1, by go_num, by omega, rfl, fr12⟩
    · obtain rfl : k = (levL g).length := by omega
      have tar : To wr w2.heap.size (.slice aoa ol capa) (ordL g) := To.later ta9 hf
      have ks := spoil_any _ _ _ wr tar
      have tbr : Hidden (To wr w3.heap.size (.slice aob ol capb) (ordL g)) := To.later tb9 hf
      have gr : Hidden (Fr (fun _ => False) w2 wr) := Fr.same g9 hf
      clear hf tar
      go_wp2_with fail
      refine ks.mono ?_
      rintro e w13 ⟨rfl, f13⟩
      have g13 : Hidden (Fr (fun _ => False) w2 w13) := Fr.over gr f13 (fun k hk => ((show ∀ k, _ → w2.heap.size ≤ k ∧ k < w3.heap.size from alow) k hk).1)
      have tb13 : Hidden (To w13 w3.heap.size (.slice aob ol capb) (ordL g)) := To.keep tbr f13 (fun k hk e => by
        have h1 := ((show ∀ k, _ → w2.heap.size ≤ k ∧ k < w3.heap.size from alow) k e).2
        have h2 := ((show To wr w3.heap.size _ _ from tbr).own k hk).1
        omega)
      have ko := order_all _ g w13 (Gp.later hGH g13)
      clear ks f13
      go_wp2_with fail
      refine ko.mono ?_
      rintro e w14 ⟨⟨aoz, capz, rfl, tz⟩, f14⟩
      have g14 : Hidden (Fr (fun _ => False) w2 w14) := Fr.same g13 f14
      have tb14 : To w14 w3.heap.size (.slice aob ol capb) (ordL g) := To.later tb13 f14
      have kt := texts3_is _ _ (ordL g) (ordL g) w14 tz.tn.tl tb14.tn.tl true (by simp)
      clear ko f14 tz tb14
      go_wp2_with fail
      refine kt.mono ?_
      rintro e w15 ⟨rfl, f15⟩
      have g15 : Hidden (Fr (fun _ => False) w w15) := Fr.same f2H (Fr.same g14 f15)
      clear kt f15
      go_wp2
      go_ret
      exact ⟨rfl, g15⟩
end Go.Proofs.Ytajefmmggefbeaa.depgraphOrders
