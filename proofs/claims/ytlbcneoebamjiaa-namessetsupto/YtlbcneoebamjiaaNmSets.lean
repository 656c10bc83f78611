/- NamesSets walked. -/
import Derived.Test.YtlbcneoebamjiaaNmRSet
import Derived.Test.YtlbcneoebamjiaaNmUnion
import Derived.Test.YtlbcneoebamjiaaNmPick2
namespace Go.Proofs.Ytlbcneoebamjiaa
open Go.RowKit Go.Sort
set_option linter.unusedSimpArgs false
set_option linter.unusedVariables false

theorem rminus_any (va vb : Value) (a b : List Str) (w : World) (ha : Tl w va a) (hb : Tl w vb b) (la : a.length ≤ 4194304) (xa : ∀ x ∈ a, x.length ≤ 9223372036854775807) :
    Calls Try.prog 24 #[va, vb] w fun e w' => ∃ v', e = .returned v' ∧ Tl w' v' (minusS a b) ∧ Fr (fun _ => False) w w' := by
  have ks := rset_any va a w ha la xa
  have hbH : Hidden (Tl w vb b) := hb
  have hlH : Hidden ((setS a).length ≤ 4194304) := Nat.le_trans (setS_len a) la
  have e0 : Hidden ((setS a).filter (fun x => decide (x ∈ b) == false) = minusS a b) := by
    show _ = _
    unfold minusS
    congr 1
    funext x
    cases decide (x ∈ b) <;> rfl
  clear ha hb la xa
  go_enter Try.func24, Try.ntmps24
  go_wp2_with (first
    | (go_at_call 20; refine ks.mono ?_; rintro e w1 ⟨v1, rfl, t1, f1⟩; have kc := chosen_any v1 vb _ b false w1 t1.tn.tl ((show Tl w vb b from hbH).later f1) hlH)
    | (go_at_call 41; refine kc.mono ?_; rintro e w2 ⟨v2, rfl, t2, f2⟩))
  go_ret
  rw [show (setS a).filter (fun x => decide (x ∈ b) == false) = minusS a b from e0] at t2
  exact ⟨v2, rfl, t2.tn.tl, f1.same f2⟩
theorem rboth_any (va vb : Value) (a b : List Str) (w : World) (ha : Tl w va a) (hb : Tl w vb b) (la : a.length ≤ 4194304) (xa : ∀ x ∈ a, x.length ≤ 9223372036854775807) :
    Calls Try.prog 26 #[va, vb] w fun e w' => ∃ v', e = .returned v' ∧ Tl w' v' (bothS a b) ∧ Fr (fun _ => False) w w' := by
  have ks := rset_any va a w ha la xa
  have hbH : Hidden (Tl w vb b) := hb
  have hlH : Hidden ((setS a).length ≤ 4194304) := Nat.le_trans (setS_len a) la
  have e0 : Hidden ((setS a).filter (fun x => decide (x ∈ b) == true) = bothS a b) := by
    show _ = _
    unfold bothS
    congr 1
    funext x
    cases decide (x ∈ b) <;> rfl
  clear ha hb la xa
  go_enter Try.func26, Try.ntmps26
  go_wp2_with (first
    | (go_at_call 20; refine ks.mono ?_; rintro e w1 ⟨v1, rfl, t1, f1⟩; have kc := chosen_any v1 vb _ b true w1 t1.tn.tl ((show Tl w vb b from hbH).later f1) hlH)
    | (go_at_call 41; refine kc.mono ?_; rintro e w2 ⟨v2, rfl, t2, f2⟩))
  go_ret
  rw [show (setS a).filter (fun x => decide (x ∈ b) == true) = bothS a b from e0] at t2
  exact ⟨v2, rfl, t2.tn.tl, f1.same f2⟩

theorem To.empty (w : World) : To (w.alloc (.cells #[] 9)) w.heap.size (.slice (some ⟨w.heap.size, 0, none⟩) 0 0) [] :=
  ⟨by simp, Or.inr ⟨w.heap.size, 0, #[], rfl, Nat.le_refl _, alloc_new w _, by simp, by simp, by simp, by simp⟩⟩

/-- Texts that may be written over. -/
def Sp (w : World) (b off m : Nat) : Prop := ∀ i, i < m → (∃ z : Str, w.cell? ⟨b, off + i, none⟩ = some (encStr z)) ∧ w.frozen? ⟨b, off + i, none⟩ = false
theorem Sp.set {w : World} {b off m : Nat} (h : Sp w b off m) (j : Nat) (hj : j < m) (z : Str) : Sp (w.setCell ⟨b, off + j, none⟩ (encStr z)) b off m := by
  intro i hi
  rw [World.frozen?_setCell]
  refine ⟨?_, (h i hi).2⟩
  by_cases e : i = j
  · subst e
    refine ⟨z, ?_⟩
    have := World.cell?_setCells_in b [encStr z] (off + i) w (fun j' hj' => by
      obtain rfl : j' = 0 := by simpa using hj'
      obtain ⟨z', hz⟩ := (h i hi).1
      rw [Nat.add_zero, hz]; rfl) 0 (by simp)
    simpa [World.setCells] using this
  · obtain ⟨z', hz⟩ := (h i hi).1
    refine ⟨z', ?_⟩
    rw [World.cell?_setCell_other _ _ _ _ (fun e2 => by simp only [Addr.mk.injEq, and_true, true_and] at e2; omega)]
    exact hz
theorem Sp.of {w : World} {b off : Nat} {l : List Str} (h : Holds encStr w b off l.toArray) : Sp w b off l.length := fun i hi => ⟨⟨_, (h i (by simpa using hi)).1⟩, (h i (by simpa using hi)).2⟩

theorem rooma {x y : Nat} (hx : x ≤ 1048576) (hy : y ≤ 1048576) : (x + y) * 16 ≤ 140737488355328 := by omega
theorem roomb {x : Nat} (hx : x ≤ 1048576) : x * 16 ≤ 140737488355328 := by omega
theorem long {a : List Str} (h : ∀ s ∈ a, s.length ≤ 1048576) : ∀ s ∈ a, s.length ≤ 9223372036854775807 := fun s hs => Nat.le_trans (h s hs) (by omega)

set_option maxHeartbeats 8000000 in
set_option maxRecDepth 20000 in
theorem namesSets.walk (va : Value) (a : List Str) (vb : Value) (b : List Str) (s : Str) (w : World) (ha : Tl w va a) (hla : a.length ≤ 1048576) (hma : ∀ s ∈ a, s.length ≤ 1048576) (hb : Tl w vb b) (hlb : b.length ≤ 1048576) (hmb : ∀ s ∈ b, s.length ≤ 1048576) (_ : s.length ≤ 1048576) :
    Calls Try.prog 4 #[va, vb, .string ⟨s.toArray⟩] w fun e w' => e = .returned (.bool true) ∧ Fr (fun _ => False) w w' := by
  have hla' : Hidden (a.length ≤ 1048576) := hla
  have hlb' : Hidden (b.length ≤ 1048576) := hlb
  have hxa : Hidden (∀ s ∈ a, s.length ≤ 9223372036854775807) := long hma
  have hxb : Hidden (∀ s ∈ b, s.length ≤ 9223372036854775807) := long hmb
  have r1 : Hidden ((0 + a.length) * 16 ≤ 140737488355328) := show (0 + a.length) * 16 ≤ 140737488355328 by omega
  have r2 : Hidden ((0 + b.length) * 16 ≤ 140737488355328) := show (0 + b.length) * 16 ≤ 140737488355328 by omega
  have kl := live_any
  clear hla hlb hma hmb
  go_enter Try.func4, Try.ntmps4
  go_wp2_with (first
    | (at_builtin; have q := hx; refine wpList_app rfl _ _ rfl w1.heap.size _ _ [] b rfl (To.empty w1) rfl (hb.later (Fr.alloc _ _ _)) (Fr.alloc (fun _ => False) w1 _).size r2 ?_; intro vy w2 ty f2 _)
    | (at_builtin; refine wpList_app rfl _ _ rfl w.heap.size _ _ [] a rfl (To.empty w) rfl (ha.later (Fr.alloc _ _ _)) (Fr.alloc (fun _ => False) w _).size r1 ?_; intro vx w1 tx f1 _; have g : Fr (fun _ => False) w w1 := (Fr.alloc _ _ _).over f1 (fun k hk => ((To.empty w).own k hk).1); have hx := tx.tn.tl; replace ha := ha.later g; replace hb := hb.later g)
    | fail)
  have g2 : Fr (fun _ => False) w1 w2 := (Fr.alloc _ _ _).over f2 (fun k hk => ((To.empty w1).own k hk).1)
  have hy := ty.tn.tl
  replace hx := hx.later g2
  replace ha := ha.later g2
  replace hb := hb.later g2
  replace g := g.same g2
  clear f1 f2 g2 tx ty
  have k1 := find_any _ _ s _ rfl _ hx
  have k2 := rfind_any _ _ s _ rfl _ ha
  simp only [List.nil_append] at hx hy k1 k2
  generalize findS a s = R at k1 k2
  obtain ⟨q, r⟩ := R
  simp only at k1 k2
  refine k1.mono ?_
  rintro e w3 ⟨rfl, rfl⟩
  go_wp2_with fail
  refine k2.mono ?_
  rintro e w4 ⟨rfl, rfl⟩
  clear k1 k2
  go_wp2_with fail
  refine (set_any _ _ _ hx (roomb hla')).mono ?_
  rintro e w5 ⟨vp1, rfl, t, f⟩
  have hp1 := t.tl
  clear t
  replace ha := ha.later f
  replace hb := hb.later f
  replace hx := hx.later f
  replace hy := hy.later f
  replace g := g.same f
  clear f
  go_wp2_with fail
  refine (rset_any _ _ _ ha (Nat.le_trans hla' (by omega)) hxa).mono ?_
  rintro e w6 ⟨vp2, rfl, t, f⟩
  have hp2 := t.tn.tl
  clear t
  replace ha := ha.later f
  replace hb := hb.later f
  replace hx := hx.later f
  replace hy := hy.later f
  replace hp1 := hp1.later f
  replace g := g.same f
  clear f
  go_wp2_with fail
  refine (texts_is _ _ _ _ _ hp1 hp2 true (decide_eq_true rfl)).mono ?_
  rintro e w7 ⟨rfl, f⟩
  replace ha := ha.later f
  replace hb := hb.later f
  replace hx := hx.later f
  replace hy := hy.later f
  replace hp1 := hp1.later f
  replace hp2 := hp2.later f
  replace g := g.same f
  clear f
  clear hp1
  clear hp2
  go_wp2_with fail
  refine (union_any _ _ _ _ _ hx hy (rooma hla' hlb')).mono ?_
  rintro e w8 ⟨vp3, rfl, t, f⟩
  have hp3 := t.tl
  clear t
  replace ha := ha.later f
  replace hb := hb.later f
  replace hx := hx.later f
  replace hy := hy.later f
  replace g := g.same f
  clear f
  go_wp2_with fail
  refine (runion_any _ _ _ _ _ ha hb (Nat.le_trans hla' (by omega)) (Nat.le_trans hlb' (by omega)) hxa hxb).mono ?_
  rintro e w9 ⟨vp4, rfl, t, f⟩
  have hp4 := t.tn.tl
  clear t
  replace ha := ha.later f
  replace hb := hb.later f
  replace hx := hx.later f
  replace hy := hy.later f
  replace hp3 := hp3.later f
  replace g := g.same f
  clear f
  go_wp2_with fail
  refine (texts_is _ _ _ _ _ hp3 hp4 true (decide_eq_true rfl)).mono ?_
  rintro e w10 ⟨rfl, f⟩
  replace ha := ha.later f
  replace hb := hb.later f
  replace hx := hx.later f
  replace hy := hy.later f
  replace hp3 := hp3.later f
  replace hp4 := hp4.later f
  replace g := g.same f
  clear f
  clear hp3
  clear hp4
  go_wp2_with fail
  refine (minus_any _ _ _ _ _ hx hy (roomb hla') (roomb hlb')).mono ?_
  rintro e w11 ⟨vp5, rfl, t, f⟩
  have hp5 := t.tl
  clear t
  replace ha := ha.later f
  replace hb := hb.later f
  replace hx := hx.later f
  replace hy := hy.later f
  replace g := g.same f
  clear f
  go_wp2_with fail
  refine (rminus_any _ _ _ _ _ ha hb (Nat.le_trans hla' (by omega)) hxa).mono ?_
  rintro e w12 ⟨vp6, rfl, t, f⟩
  have hp6 := t
  clear t
  replace ha := ha.later f
  replace hb := hb.later f
  replace hx := hx.later f
  replace hy := hy.later f
  replace hp5 := hp5.later f
  replace g := g.same f
  clear f
  go_wp2_with fail
  refine (texts_is _ _ _ _ _ hp5 hp6 true (decide_eq_true rfl)).mono ?_
  rintro e w13 ⟨rfl, f⟩
  replace ha := ha.later f
  replace hb := hb.later f
  replace hx := hx.later f
  replace hy := hy.later f
  replace hp5 := hp5.later f
  replace hp6 := hp6.later f
  replace g := g.same f
  clear f
  clear hp5
  clear hp6
  go_wp2_with fail
  refine (both_any _ _ _ _ _ hx hy (roomb hla') (roomb hlb')).mono ?_
  rintro e w14 ⟨vp7, rfl, t, f⟩
  have hp7 := t.tl
  clear t
  replace ha := ha.later f
  replace hb := hb.later f
  replace hx := hx.later f
  replace hy := hy.later f
  replace g := g.same f
  clear f
  go_wp2_with fail
  refine (rboth_any _ _ _ _ _ ha hb (Nat.le_trans hla' (by omega)) hxa).mono ?_
  rintro e w15 ⟨vp8, rfl, t, f⟩
  have hp8 := t
  clear t
  replace ha := ha.later f
  replace hb := hb.later f
  replace hx := hx.later f
  replace hy := hy.later f
  replace hp7 := hp7.later f
  replace g := g.same f
  clear f
  go_wp2_with fail
  refine (texts_is _ _ _ _ _ hp7 hp8 true (decide_eq_true rfl)).mono ?_
  rintro e w16 ⟨rfl, f⟩
  replace ha := ha.later f
  replace hb := hb.later f
  replace hx := hx.later f
  replace hy := hy.later f
  replace hp7 := hp7.later f
  replace hp8 := hp8.later f
  replace g := g.same f
  clear f
  clear hp7
  clear hp8
  go_wp2_with fail
  refine (set_any _ _ _ hx (roomb hla')).mono ?_
  rintro e W ⟨vl, rfl, tL, fL⟩
  have oaH : Hidden (Tl w16 va a) := ha
  have obH : Hidden (Tl w16 vb b) := hb
  have oxH : Hidden (Tl w16 vx a) := hx
  have oyH : Hidden (Tl w16 vy b) := hy
  have gH : Hidden (Fr (fun _ => False) w w16) := g
  have fLH : Hidden (Fr (fun _ => False) w16 W) := fL
  obtain ⟨M, hM⟩ : ∃ M, setS a = M := ⟨_, rfl⟩
  rw [hM] at tL
  clear fL hM ha hb hx hy g
  obtain ⟨lo, lc, rfl, l1, l2, l3, l4⟩ := tL
  by_cases h0 : M = []
  · subst h0
    simp only [List.length_nil]
    clear l4
    go_wp2_with fail
    refine wp_loop_rounds 1 ?_
    rw [rounds_succ]
    go_wp2_with fail
    have F : Fr (fun _ => False) w16 W := fLH
    refine (texts_is _ _ _ _ _ ((show Tl w16 vx a from oxH).later F) ((show Tl w16 va a from oaH).later F) true (decide_eq_true rfl)).mono ?_
    rintro e W1 ⟨rfl, F1⟩
    go_wp2_with fail
    refine (texts_is _ _ _ _ _ ((show Tl w16 vy b from oyH).later (F.same F1)) ((show Tl w16 vb b from obH).later (F.same F1)) true (decide_eq_true rfl)).mono ?_
    rintro e W2 ⟨rfl, F2⟩
    go_wp2_with fail
    refine (kl _).mono ?_
    rintro e W3 ⟨rfl, F3⟩
    go_wp2_with fail
    go_ret
    exact ⟨rfl, (((show Fr (fun _ => False) w w16 from gH).same F).same F1).same (F2.same F3)⟩
  · rcases l4 with l4 | ⟨bk, off, rfl, hB, hbk, hH⟩
    · exact absurd l4 h0
    have hBH : Hidden (w16.heap.size ≤ bk) := hB
    have hSpH : Hidden (Sp W bk off M.length) := Sp.of hH
    obtain ⟨m, hm⟩ : ∃ m, M.length = m := ⟨_, rfl⟩
    rw [hm] at l1 hSpH ⊢
    clear l3 hB hbk hH h0 hm
    go_wp2_with fail
    go_loopg [14] m (fun k iv wr => ∃ j : Nat, iv = .int .i64 (j : Int) ∧ j ≤ m ∧ k = m - j ∧ Sp wr bk off m ∧ Fr (fun k => k = bk) W wr)
    case atStart => exact ⟨0, rfl, by omega, rfl, hSpH, Fr.refl _ _⟩
    case round =>
      obtain ⟨j, rfl, hj, hk, hsp, hf⟩ := hrel
      have hkH : Hidden (gk = m - j) := hk
      have hspH : Hidden (Sp wr bk off m) := hsp
      have hfH : Hidden (Fr (fun k => k = bk) W wr) := hf
      clear hk hf hSpH
      by_cases hjl : j < m
      · obtain ⟨⟨z, c1⟩, f1⟩ := hsp j hjl
        clear hsp
        go_wp2_with fail
        go_roundg (m - (j + 1))
        case measure => have := (show gk = m - j from hkH); omega
        case rel => exact ⟨j + 1, by go_num, by omega, rfl, (show Sp wr bk off m from hspH).set j hjl [115, 112, 111, 105, 108, 116], (show Fr (fun k => k = bk) W wr from hfH).same (Fr.setCell wr ⟨bk, off + j, none⟩ _)⟩
      · clear hsp
        go_wp2_with fail
        have F : Fr (fun _ => False) w16 wr := (show Fr (fun _ => False) w16 W from fLH).over (show Fr (fun k => k = bk) W wr from hfH) (fun k hk => by rw [hk]; exact hBH)
        refine (texts_is _ _ _ _ _ ((show Tl w16 vx a from oxH).later F) ((show Tl w16 va a from oaH).later F) true (decide_eq_true rfl)).mono ?_
        rintro e W1 ⟨rfl, F1⟩
        go_wp2_with fail
        refine (texts_is _ _ _ _ _ ((show Tl w16 vy b from oyH).later (F.same F1)) ((show Tl w16 vb b from obH).later (F.same F1)) true (decide_eq_true rfl)).mono ?_
        rintro e W2 ⟨rfl, F2⟩
        go_wp2_with fail
        refine (kl _).mono ?_
        rintro e W3 ⟨rfl, F3⟩
        go_wp2_with fail
        go_ret
        exact ⟨rfl, (((show Fr (fun _ => False) w w16 from gH).same F).same F1).same (F2.same F3)⟩
end Go.Proofs.Ytlbcneoebamjiaa
