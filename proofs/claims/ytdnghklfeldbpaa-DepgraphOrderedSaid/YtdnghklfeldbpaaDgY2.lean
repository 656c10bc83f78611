/- DepgraphOver. -/
import Derived.Test.YtdnghklfeldbpaaDgX
import Derived.Test.YtdnghklfeldbpaaDgOw
namespace Go.Proofs.Ytdnghklfeldbpaa.Dg
open Go.RowKit Go.Sort
theorem at_is {w : World} {v : Value} {l : List Str} (s : Str) (h : Tl w v l) : ∃ R : Int, (∀ W, Fr (fun _ => False) w W → Calls Try.prog 34 #[v, .string ⟨s.toArray⟩] W (fun e w' => e = .returned (.int .i64 R) ∧ w' = W)) ∧ ((s ∈ l ∧ 0 ≤ R ∧ R < 9223372036854775807) ∨ (s ∉ l ∧ R = -1)) := by
  refine ⟨_, fun W hW => at_any v l s _ rfl W (h.later hW), ?_⟩
  rcases findS_spec l s with ⟨a1, _, a3⟩ | ⟨k, a1, _, a3⟩
  · exact Or.inr ⟨a1, a3⟩
  · refine Or.inl ⟨List.mem_of_getElem? a1, ?_⟩
    obtain ⟨ao, cap, rfl, h1, h2, _⟩ := h
    have := (List.getElem?_eq_some_iff.1 a1).1
    rw [a3]
    omega
theorem mem_users {g : Gr} {n x : Str} (hg : g.WF) : x ∈ usersS g n ↔ n ∈ g.im x := by
  unfold usersS
  rw [List.mem_filter]
  simp only [decide_eq_true_eq]
  exact ⟨fun h => h.2, fun h => ⟨Reach.node hg (.one h), h⟩⟩
end Go.Proofs.Ytdnghklfeldbpaa.Dg
namespace Go.Proofs.Ytdnghklfeldbpaa.depgraphOver
open Go.RowKit Go.Sort Dg
set_option linter.unusedSimpArgs false
set_option linter.unusedVariables false
set_option maxRecDepth 20000 in
set_option maxHeartbeats 4000000 in
theorem walk (v : Value) (nl : List Nd) (x y : Str) (w : World) (hm : NL w v nl) (hok : ∀ n ∈ nl, OkN n.1 ∧ ∀ x ∈ n.2, OkN x) (hsz : nl.length * 40 ≤ 140737488355328 ∧ ∀ n ∈ nl, n.2.length * 16 ≤ 140737488355328) (hx : x.length ≤ 140737488351232) (hy : y.length ≤ 140737488351232) :
    Calls Try.prog 7 #[v, .string ⟨x.toArray⟩, .string ⟨y.toArray⟩] w fun e w' => e = .returned (.bool true) ∧ Fr (fun _ => False) w w' := by
  obtain ⟨ao, cap, rfl, t1, t2, _⟩ := id hm
  have ko := own_any ao cap nl w hm hsz.1 hsz.2
  have hokH : Hidden (∀ n ∈ nl, OkN n.1 ∧ ∀ x ∈ n.2, OkN x) := hok
  have hxok : Hidden (OkN x) := by show _ ≤ _; omega
  have hyok : Hidden (OkN y) := by show _ ≤ _; omega
  obtain ⟨nn, hnn⟩ : ∃ n, n = nl.length := ⟨_, rfl⟩
  rw [← hnn] at ko t1 ⊢
  have hnnH : Hidden (nn = nl.length) := hnn
  clear hm hok hsz hx hy hnn
  go_enter Try.func7, Try.ntmps7
  go_wp2_with fail
  refine ko.mono ?_
  rintro e w1 ⟨ao1, cap1, xs, rfl, o1, f1⟩
  have f1H : Hidden (Fr (fun _ => False) w w1) := f1
  have kn := new_any ao1 cap1 nl w1 (by rw [← (show nn = nl.length from hnnH)]; exact o1.nl) hokH
  rw [← (show nn = nl.length from hnnH)] at kn
  clear ko o1 f1
  go_wp2_with fail
  refine kn.mono ?_
  rintro e w2 ⟨hR, f2⟩
  have f2H : Hidden (Fr (fun _ => False) w w2) := Fr.same f1H f2
  have ka := alive_any w2
  clear kn f2
  rcases hR with ⟨hE, rfl⟩ | ⟨_, B, rfl, hG⟩
  · have hE' : (newE nl == 0) = false := beq_eq_false_iff_ne.2 hE
    generalize newE nl = E at *
    go_wp2_with fail
    refine ka.mono ?_
    rintro e w3 ⟨rfl, f3⟩
    have f3H : Hidden (Fr (fun _ => False) w w3) := Fr.same f2H f3
    clear ka f3
    go_wp2
    go_ret
    exact ⟨rfl, f3H⟩
  have hg : Gp w2 (.pointer (some ⟨B, 0, none⟩)) (gOf nl) := hG w2 (Fr.refl _ _)
  have hgH : Hidden (Gp w2 (.pointer (some ⟨B, 0, none⟩)) (gOf nl)) := hg
  clear hg hG
  go_wp2_with fail
  refine ka.mono ?_
  rintro e w3 ⟨rfl, f3⟩
  have f3H : Hidden (Fr (fun _ => False) w2 w3) := f3
  have kn := names_any _ _ w3 (Gp.later hgH f3H)
  clear ka f3
  go_wp2_with fail
  refine kn.mono ?_
  rintro e w4 ⟨⟨ao4, cap4, rfl, t4⟩, f4⟩
  have f4H : Hidden (Fr (fun _ => False) w2 w4) := Fr.same f3H f4
  obtain ⟨rx, kx, hrx⟩ := at_is x t4.tn.tl
  obtain ⟨ry, ky, hry⟩ := at_is y t4.tn.tl
  have kx := kx _ (Fr.refl _ _)
  have hrxH : Hidden ((x ∈ (gOf nl).ks ∧ 0 ≤ rx ∧ rx < 9223372036854775807) ∨ (x ∉ (gOf nl).ks ∧ rx = -1)) := hrx
  have hryH : Hidden ((y ∈ (gOf nl).ks ∧ 0 ≤ ry ∧ ry < 9223372036854775807) ∨ (y ∉ (gOf nl).ks ∧ ry = -1)) := hry
  clear kn t4 f4 hrx hry
  go_wp2_with fail
  refine kx.mono ?_
  rintro e w5 ⟨rfl, rfl⟩
  have ky := ky _ (Fr.refl _ _)
  clear kx
  go_wp2_with fail
  refine ky.mono ?_
  rintro e w5' ⟨rfl, rfl⟩
  clear ky
  have ku := users_any _ _ y w5' (Gp.later hgH f4H)
  go_wp2_with fail
  refine ku.mono ?_
  rintro e w6 ⟨⟨ao6, cap6, rfl, t6⟩, f6⟩
  have f6H : Hidden (Fr (fun _ => False) w2 w6) := Fr.same f4H f6
  obtain ⟨ru, ka, hru⟩ := at_is x t6.tn.tl
  have ka := ka _ (Fr.refl _ _)
  have hruH : Hidden ((x ∈ usersS (gOf nl) y ∧ 0 ≤ ru ∧ ru < 9223372036854775807) ∨ (x ∉ usersS (gOf nl) y ∧ ru = -1)) := hru
  clear ku t6 f6 hru
  go_wp2_with fail
  refine ka.mono ?_
  rintro e w6' ⟨rfl, rfl⟩
  clear ka
  have kv := over_any _ _ _ _ [y] _ (Gp.later hgH (Fr.same f6H (Fr.alloc _ w6' (.cells #[ct y] 9)))) (Tl.one w6' y) (fun z hz => by simp at hz; subst hz; exact hyok) (by simp)
  go_wp2_with fail
  refine kv.mono ?_
  rintro e w7 ⟨⟨l7, ⟨ao7, cap7, rfl, t7⟩, u7⟩, f7⟩
  have f7H : Hidden (Fr (fun _ => False) w2 w7) := Fr.same f6H ((Fr.alloc _ _ _).same f7)
  obtain ⟨ro, ka, hro⟩ := at_is x t7
  have ka := ka _ (Fr.refl _ _)
  rw [u7.2] at hro
  have hroH : Hidden (((x ∈ (gOf nl).ks ∧ (x ∈ [y] ∨ ∃ z ∈ [y], Dg.Reach (gOf nl) x z)) ∧ 0 ≤ ro ∧ ro < 9223372036854775807) ∨ (¬(x ∈ (gOf nl).ks ∧ (x ∈ [y] ∨ ∃ z ∈ [y], Dg.Reach (gOf nl) x z)) ∧ ro = -1)) := hro
  clear kv t7 f7 hro u7
  go_wp2_with fail
  refine ka.mono ?_
  rintro e w7' ⟨rfl, rfl⟩
  clear ka
  have kd := under_any _ _ x w7' (Gp.later hgH f7H) hxok
  go_wp2_with fail
  refine kd.mono ?_
  rintro e w8 ⟨⟨l8, ⟨ao8, cap8, rfl, t8⟩, u8⟩, f8⟩
  have f8H : Hidden (Fr (fun _ => False) w2 w8) := Fr.same f7H f8
  obtain ⟨rd, ka, hrd⟩ := at_is y t8.tn.tl
  have ka := ka _ (Fr.refl _ _)
  rw [u8.2] at hrd
  have hrdH : Hidden ((Dg.Reach (gOf nl) x y ∧ 0 ≤ rd ∧ rd < 9223372036854775807) ∨ (¬ Dg.Reach (gOf nl) x y ∧ rd = -1)) := hrd
  clear kd t8 f8 hrd u8
  go_wp2_with fail
  refine ka.mono ?_
  rintro e w8' ⟨rfl, rfl⟩
  clear ka
  have ki := imports_any _ _ x w8' (Gp.later hgH f8H) hxok
  go_wp2_with fail
  refine ki.mono ?_
  rintro e w9 ⟨⟨ao9, cap9, rfl, t9⟩, f9⟩
  have f9H : Hidden (Fr (fun _ => False) w2 w9) := Fr.same f8H f9
  obtain ⟨ri, ka, hri⟩ := at_is y t9.tn.tl
  have ka := ka _ (Fr.refl _ _)
  have hriH : Hidden ((y ∈ (gOf nl).im x ∧ 0 ≤ ri ∧ ri < 9223372036854775807) ∨ (y ∉ (gOf nl).im x ∧ ri = -1)) := hri
  clear ki t9 f9 hri
  go_wp2_with fail
  refine ka.mono ?_
  rintro e w9' ⟨rfl, rfl⟩
  clear ka
  have hF : Hidden (Fr (fun _ => False) w w9') := Fr.same f2H f9H
  have hwf := gOf_wf nl
  have hrx : (x ∈ (gOf nl).ks ∧ 0 ≤ rx ∧ rx < 9223372036854775807) ∨ (x ∉ (gOf nl).ks ∧ rx = -1) := hrxH
  have hry : (y ∈ (gOf nl).ks ∧ 0 ≤ ry ∧ ry < 9223372036854775807) ∨ (y ∉ (gOf nl).ks ∧ ry = -1) := hryH
  have hru : (y ∈ (gOf nl).im x ∧ 0 ≤ ru ∧ ru < 9223372036854775807) ∨ (y ∉ (gOf nl).im x ∧ ru = -1) := by rw [← mem_users hwf]; exact hruH
  have hri : (y ∈ (gOf nl).im x ∧ 0 ≤ ri ∧ ri < 9223372036854775807) ∨ (y ∉ (gOf nl).im x ∧ ri = -1) := hriH
  have hrd : (Dg.Reach (gOf nl) x y ∧ 0 ≤ rd ∧ rd < 9223372036854775807) ∨ (¬ Dg.Reach (gOf nl) x y ∧ rd = -1) := hrdH
  have hro : ((x ∈ (gOf nl).ks ∧ (x = y ∨ Dg.Reach (gOf nl) x y)) ∧ 0 ≤ ro ∧ ro < 9223372036854775807) ∨ (¬(x ∈ (gOf nl).ks ∧ (x = y ∨ Dg.Reach (gOf nl) x y)) ∧ ro = -1) := by
    have h : ((x ∈ (gOf nl).ks ∧ (x ∈ [y] ∨ ∃ z ∈ [y], Dg.Reach (gOf nl) x z)) ∧ 0 ≤ ro ∧ ro < 9223372036854775807) ∨ (¬(x ∈ (gOf nl).ks ∧ (x ∈ [y] ∨ ∃ z ∈ [y], Dg.Reach (gOf nl) x z)) ∧ ro = -1) := hroH
    simpa using h
  have hir : y ∈ (gOf nl).im x → Dg.Reach (gOf nl) x y := fun h => .one h
  have hrn : Dg.Reach (gOf nl) x y → x ∈ (gOf nl).ks := Dg.Reach.node hwf
  have hxy : x = y → (x ∈ (gOf nl).ks ↔ y ∈ (gOf nl).ks) := fun h => by rw [h]
  clear hrxH hryH hruH hriH hrdH hroH hwf f1H f2H f3H f4H f6H f7H f8H f9H hgH hokH hxok hyok
  generalize (gOf nl).ks = K at *
  generalize (gOf nl).im x = M at *
  generalize Dg.Reach (gOf nl) x y = Rc at *
  rcases hrx with ⟨px, rx0, _⟩ | ⟨px, rx0⟩ <;> rcases hry with ⟨py, ry0, _⟩ | ⟨py, ry0⟩ <;> rcases hrd with ⟨pd, rd0, _⟩ | ⟨pd, rd0⟩ <;> rcases hru with ⟨pu, ru0, _⟩ | ⟨pu, ru0⟩ <;> rcases hri with ⟨pi, ri0, _⟩ | ⟨pi, ri0⟩ <;> first
    | (exact absurd pi pu)
    | (exact absurd pu pi)
    | (exact absurd (hir pu) pd)
    | (exact absurd (hrn pd) px)
    | (rcases hro with ⟨⟨po1, po2⟩, ro0, _⟩ | ⟨po, ro0⟩ <;> by_cases he : x = y <;> first
        | (exact absurd po1 px)
        | (exact absurd ((hxy he).1 px) py)
        | (exact absurd ((hxy he).2 py) px)
        | (exfalso; apply po; constructor; assumption; left; assumption; done)
        | (exfalso; apply po; constructor; assumption; right; assumption; done)
        | (exact absurd (po2.resolve_left he) pd)
        | (first | subst he | (have hne : (x == y) = false := beq_eq_false_iff_ne.2 he)
           try subst rx0
           try subst ry0
           try subst rd0
           try subst ru0
           try subst ri0
           try subst ro0
           clear hir hrn hxy
           try clear po
           try clear po2
           try clear po1
           try clear px
           try clear py
           try clear pd
           try clear pu
           try clear pi
           go_wp2
           go_ret
           exact ⟨rfl, hF⟩))
end Go.Proofs.Ytdnghklfeldbpaa.depgraphOver
