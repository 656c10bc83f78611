/- allIn, closed: what Order, Levels and Ring ask. -/
import Derived.Test.YtajefmmggefbeaaDgN
import Derived.Deep.QuietTactic
import Derived.BigQuiet
namespace Go.Proofs.Ytajefmmggefbeaa.Dg
open Go.RowKit Go.Sort
set_option linter.unusedSimpArgs false
set_option linter.unusedVariables false

theorem wrap_small {z : Int} (h0 : -9223372036854775808 ≤ z) (h1 : z ≤ 9223372036854775807) : IntKind.i64.wrap z = z := by
  exact IntWalk.i64_in z ⟨h0, h1⟩
theorem box_cell (w : World) (v : Value) (t : TypeId) : (w.alloc (.cells #[v] t)).cell? ⟨w.heap.size, 0, none⟩ = some v := by
  rw [cell_of_row _ _ _ _ _ _ (alloc_new w _)]; rfl
theorem fr_drewN (w : World) (k : Nat) : Fr (fun _ => False) w (w.drewN k) := ⟨rfl, rfl, Nat.le_refl _, fun _ _ _ => rfl⟩
theorem allin1_any (B b n : Nat) (u : List Str) (y : Str) (w : World) (c : w.cell? ⟨B, 0, none⟩ = some (.map (some b))) (hs : SM w b n u) (hy : OkN y) :
    Calls Try.prog 66 #[ct y, .pointer (some ⟨B, 0, none⟩)] w fun e w' => e = .returned (.bool (!decide (y ∈ u))) ∧ Fr (fun _ => False) w w' := by
  obtain ⟨r, hr⟩ : ∃ r, decide (y ∈ u) = r := ⟨_, rfl⟩
  have k := has_any b n u y r hr w hs hy
  rw [hr]
  clear hs hr hy
  go_enter Try.func66, Try.ntmps66
  go_wp2_with (go_at_call 41; refine k.mono ?_; rintro e w1 ⟨rfl, f1⟩)
  go_ret
  exact ⟨rfl, f1⟩
theorem okIn_any (g : Gr) (u : List Str) (x : Str) : okIn g u x = !(g.im x).any fun i => !decide (i ∈ u) := by
  unfold okIn
  rw [List.any_eq_not_all_not]
  simp
set_option maxHeartbeats 1000000 in
theorem allin_any (p : Value) (g : Gr) (x : Str) (b n : Nat) (u : List Str) (w : World) (h : Gp w p g) (hs : SM w b n u) (hx : OkN x) (r : Bool) (hr : okIn g u x = r) :
    Calls Try.prog 47 #[p, ct x, .map (some b)] w fun e w' => e = .returned (.bool r) ∧ Fr (fun _ => False) w w' := by
  have fa := Fr.alloc (fun _ => False) w (.cells #[.map (some b)] 67)
  obtain ⟨mb, hgt, kt⟩ := h.table
  have kt := kt _ fa
  obtain ⟨ao, cap, hl, htl⟩ := (hgt.later fa).look x hx
  obtain ⟨r', hr'⟩ : ∃ r', ((g.im x).any fun i => !decide (i ∈ u)) = r' := ⟨_, rfl⟩
  have hrr : Hidden ((!r') = r) := by show _ = _; rw [← hr, okIn_any, hr']
  have kc : Calls Try.prog 40 #[.slice ao (g.im x).length cap, .func (.func 66) #[] #[.pointer (some ⟨w.heap.size, 0, none⟩)]] (w.alloc (.cells #[.map (some b)] 67)) fun e w' => e = .returned (.bool r') ∧ Fr (fun _ => False) (w.alloc (.cells #[.map (some b)] 67)) w' := by
    obtain ⟨ao', cap', e, t1, t2, t3, t4⟩ := id htl
    cases e
    refine cfuncSA 66 #[.pointer (some ⟨w.heap.size, 0, none⟩)] (enters_of Try.func66 (by kernel_rfl) rfl) ao _ cap (g.im x) (fun i => !decide (i ∈ u)) r' _ rfl t1 t2 t4 ?_ hr'
    intro W hW y hy
    exact allin1_any w.heap.size b n u y W (hW.cellN (box_cell _ _ _)) (hs.later (fa.same hW)) (h.okI hy)
  clear hgt h htl hs hx hr hr'
  go_enter Try.func47, Try.ntmps47
  go_wp2_with (first
    | (go_at_call 30; refine kt.mono ?_; rintro e w1 ⟨rfl, rfl⟩)
    | (go_at_call 40; refine kc.mono ?_; rintro e w1 ⟨rfl, f1⟩; have f1H : Hidden (Fr (fun _ => False) (w.alloc (.cells #[.map (some b)] 67)) w1) := f1; clear f1))
  go_ret
  exact ⟨by rw [← (show (!r') = r from hrr)]; rfl, fa.same f1H⟩
theorem order1_any (Bg Bp : Nat) (p : Value) (g : Gr) (x : Str) (b n : Nat) (u : List Str) (w : World) (cg : w.cell? ⟨Bg, 0, none⟩ = some p) (cp : w.cell? ⟨Bp, 0, none⟩ = some (.map (some b))) (h : Gp w p g) (hs : SM w b n u) (hx : OkN x) :
    Calls Try.prog 46 #[ct x, .pointer (some ⟨Bg, 0, none⟩), .pointer (some ⟨Bp, 0, none⟩)] w fun e w' => e = .returned (.bool (okIn g u x)) ∧ Fr (fun _ => False) w w' := by
  obtain ⟨r, hr⟩ : ∃ r, okIn g u x = r := ⟨_, rfl⟩
  have k := allin_any p g x b n u w h hs hx r hr
  have hp : ∃ q, p = .pointer q := by
    rcases h.cell with ⟨rfl, _⟩ | ⟨B, mv, rfl, _⟩
    · exact ⟨_, rfl⟩
    · exact ⟨_, rfl⟩
  obtain ⟨q, rfl⟩ := hp
  rw [hr]
  clear hs hr hx h
  go_enter Try.func46, Try.ntmps46
  go_wp2_with (go_at_call 47; refine k.mono ?_; rintro e w1 ⟨rfl, f1⟩)
  go_ret
  exact ⟨rfl, f1⟩
set_option maxRecDepth 20000 in
set_option maxHeartbeats 1000000 in
/-- Does the last one import the first? -/
theorem closed_any (p : Value) (g : Gr) (v : Value) (path : List Str) (w : World) (h : Gp w p g) (hv : Tl w v path) (hne : path ≠ []) (hok : ∀ x ∈ path, OkN x) :
    Calls Try.prog 51 #[p, v] w fun e w' => e = .returned (.bool (closedP g path)) ∧ Fr (fun _ => False) w w' := by
  obtain ⟨r, hr⟩ : ∃ r, closedP g path = r := ⟨_, rfl⟩
  rw [hr]
  obtain ⟨a, t, rfl⟩ : ∃ a t, path = a :: t := by
    cases path with
    | nil => exact absurd rfl hne
    | cons a t => exact ⟨a, t, rfl⟩
  obtain ⟨z, hz⟩ : ∃ z, lastP (a :: t) = z := ⟨_, rfl⟩
  have hzl : (a :: t)[t.length]? = some z := by
    rw [← hz]
    simp [lastP, List.getLastD_eq_getLast?, List.getLast?_eq_getElem?]
  have hzm : z ∈ a :: t := List.mem_of_getElem? hzl
  simp only [closedP, hz, List.headD_cons] at hr
  obtain ⟨ao, cap, rfl, a1, a2, a3, a4⟩ := id hv
  obtain ⟨B, off, rfl, c1⟩ := Tl.at hv hzl
  obtain ⟨B', off', e, c0⟩ := Tl.at hv (j := 0) (x := a) rfl
  simp only [Option.some.injEq, Addr.mk.injEq, and_true] at e
  rw [Nat.add_zero] at c0
  obtain ⟨rfl, rfl⟩ := e
  obtain ⟨mb, hgt, kt⟩ := h.table
  obtain ⟨aoi, capi, htl, hlk⟩ := hgt.looks z (hok z hzm)
  have kt' : ∀ k, Calls Try.prog 30 #[p] (w.drewN k) fun e w'' => e = .returned (.map mb) ∧ w'' = w.drewN k := fun k => kt _ (fr_drewN w k)
  have hl : ∀ k, (Instr.lookup 52 (.map mb) (ct z) false).run Try.prog (w.drewN k) = .ok (.slice aoi (g.im z).length capi) (w.drewN k) := fun k => hlk _ (fr_drewN w k)
  have kc : ∀ k, Calls Try.prog 68 #[.slice aoi (g.im z).length capi, ct a] (w.drewN k) fun e w' => e = .returned (.bool r) ∧ w' = w.drewN k := fun k => contains_any _ _ a _ (htl.later (fr_drewN w k)) r hr
  have i1 : (0 : Int) ≤ (t.length : Int) := by omega
  have i2 : (t.length : Int) < ((t.length + 1 : Nat) : Int) := by omega
  have hlen : (a :: t).length = t.length + 1 := rfl
  rw [hlen] at a1 ⊢
  clear hgt h htl hlk kt hv a3 a4 hok hzm hzl hz hr hne hlen
  generalize t.length = m at *
  have i3 : (m : Int) < (m : Int) + 1 := by omega
  have hwr : IntKind.i64.wrap (m : Int) = (m : Int) := wrap_small (by omega) (by omega)
  go_enter Try.func51, Try.ntmps51
  go_wp2_with fail
  go_quiet ((first | (go_at_call 30; exact Calls.quiet_of_same (kt' _)) | (go_at_call 68; exact Calls.quiet_of_same (kc _))))
  go_wp2
  go_ret
  exact ⟨rfl, fr_drewN _ _⟩
end Go.Proofs.Ytajefmmggefbeaa.Dg
