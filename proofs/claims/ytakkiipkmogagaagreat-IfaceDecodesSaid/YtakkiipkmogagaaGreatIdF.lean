/- The document's Reader: take, Fail, Byte, Int, Long. -/
import Derived.Test.YtakkiipkmogagaaGreatIdAll
import Derived.BigQuiet
import Derived.Deep.DeepCutAuto
namespace Go.Proofs.YtakkiipkmogagaaGreat.Fo.Ic
open Go.RowKit Te
set_option linter.unusedSimpArgs false
set_option linter.unusedVariables false
set_option maxRecDepth 20000

/-- The document's Reader of the bytes b: what is left, or that it has failed. -/
def Rr (w : World) (q : Nat) (bo : Option Addr) (bk : Nat) (b : List UInt8) (s : Option (List UInt8)) : Prop :=
  ∃ (at_ : Nat) (e : Int), w.heap[q]? = some (.cells #[.slice bo b.length bk, ci (at_ : Int), ci e] 84 (0, 0)) ∧ at_ ≤ b.length ∧ ((e = 0 ∧ s = some (b.drop at_)) ∨ ((e == 0) = false ∧ s = none)) ∧ Wi.Sl w (.slice bo b.length bk) (Wi.bc b) ∧ ∀ k, (Value.slice bo b.length bk).ownBlock = some k → k ≠ q
theorem Rr.later {w w' : World} {q : Nat} {bo : Option Addr} {bk : Nat} {b : List UInt8} {s : Option (List UInt8)} (h : Rr w q bo bk b s) (hf : Fr FN w w') : Rr w' q bo bk b s := by
  obtain ⟨a, e, h1, h2, h3, h4, h5⟩ := h
  exact ⟨a, e, hf.heap h1 (fun f => f), h2, h3, h4.keep (to_wi hf) (fun _ _ f => f), h5⟩
theorem Rr.aside {S : Nat → Prop} {w w' : World} {q : Nat} {bo : Option Addr} {bk : Nat} {b : List UInt8} {s : Option (List UInt8)} (h : Rr w q bo bk b s) (hf : Fr S w w') (hq : ¬ S q) (hb : ∀ k, (Value.slice bo b.length bk).ownBlock = some k → ¬ S k) : Rr w' q bo bk b s := by
  obtain ⟨a, e, h1, h2, h3, h4, h5⟩ := h
  exact ⟨a, e, hf.heap h1 hq, h2, h3, h4.keep (to_wi hf) hb, h5⟩
/-- A cell of the Reader is stored. -/
theorem rr_set {w : World} {q : Nat} {bo : Option Addr} {bk : Nat} {b : List UInt8} {x y : Value} (h1 : w.heap[q]? = some (.cells #[.slice bo b.length bk, x, y] 84 (0, 0))) (h4 : Wi.Sl w (.slice bo b.length bk) (Wi.bc b)) (h5 : ∀ k, (Value.slice bo b.length bk).ownBlock = some k → k ≠ q) (i : Nat) (v : Value) :
    (w.setCell ⟨q, i, none⟩ v).heap[q]? = some (.cells ((#[.slice bo b.length bk, x, y] : Array Value).setIfInBounds i v) 84 (0, 0)) ∧ Wi.Sl (w.setCell ⟨q, i, none⟩ v) (.slice bo b.length bk) (Wi.bc b) ∧ Fr (fun k => k = q) w (w.setCell ⟨q, i, none⟩ v) := by
  have hf := Fr.setCell w ⟨q, i, none⟩ v
  exact ⟨heap_setCell_same w q i _ _ _ h1, h4.keep (to_wi hf) (fun k hk e => h5 k hk e), hf⟩
def tkS (n : Nat) : Option (List UInt8) → Nat × Option (List UInt8)
  | none => (0, none)
  | some r => if n ≤ r.length then (Wi.numS (r.take n), some (r.drop n)) else (0, none)
theorem box3r {w : World} {b : Nat} {x0 x1 x2 : Value} {t : TypeId} (hb : w.heap[b]? = some (.cells #[x0, x1, x2] t (0, 0))) : w.cell? ⟨b, 0, none⟩ = some x0 ∧ w.cell? ⟨b, 1, none⟩ = some x1 ∧ w.cell? ⟨b, 2, none⟩ = some x2 := ⟨cell_of_row _ _ 0 _ _ _ hb, cell_of_row _ _ 1 _ _ _ hb, cell_of_row _ _ 2 _ _ _ hb⟩
/-- Fail of a Reader that is alive, or not. -/
theorem rfail_any (q : Nat) (bo : Option Addr) (bk : Nat) (b : List UInt8) (s : Option (List UInt8)) (c : Int) (hc : (c == 0) = false) (w : World) (h : Rr w q bo bk b s) : Calls Tryz.prog 41 #[.pointer (some ⟨q, 0, none⟩), ci c] w fun e w' => e = .returned (.tuple #[]) ∧ Rr w' q bo bk b none ∧ Fr (fun k => k = q) w w' := by
  obtain ⟨a, e, h1, h2, h3, h4, h5⟩ := h
  obtain ⟨c0, c1, c2⟩ := box3r h1
  have f2 := Ty.frozen_row h1 2
  rcases h3 with ⟨rfl, _⟩ | ⟨he, _⟩
  · have hz : Hidden _ := rr_set h1 h4 h5 2 (ci c)
    have h25 : Hidden (a ≤ b.length ∧ ∀ k, (Value.slice bo b.length bk).ownBlock = some k → k ≠ q) := ⟨h2, h5⟩
    clear h1 h2 h4 h5
    go_enter Tryz.func41, Tryz.ntmps41
    go_wp2
    go_end0
    obtain ⟨z1, z2, z3⟩ := (show _ ∧ _ ∧ _ from hz)
    exact ⟨rfl, ⟨a, c, z1, h25.1, Or.inr ⟨hc, rfl⟩, z2, h25.2⟩, z3⟩
  · have hz : Hidden (Rr w q bo bk b none) := ⟨a, e, h1, h2, Or.inr ⟨he, rfl⟩, h4, h5⟩
    clear h1 h2 h4 h5
    go_enter Tryz.func41, Tryz.ntmps41
    go_wp2
    go_end0
    exact ⟨rfl, hz, Fr.refl _ _⟩
set_option maxHeartbeats 2000000 in
theorem rtake_any (q : Nat) (bo : Option Addr) (bk : Nat) (b : List UInt8) (s : Option (List UInt8)) (n : Nat) (hn : n ≤ 8) (hb : b.length ≤ 140737488351232) (w : World) (h : Rr w q bo bk b s) : Calls Tryz.prog 40 #[.pointer (some ⟨q, 0, none⟩), ci (n : Int)] w fun e w' => e = .returned (.int .u64 ((tkS n s).1 : Int)) ∧ Rr w' q bo bk b (tkS n s).2 ∧ Fr (fun k => k = q) w w' := by
  have kf := fun (c : Int) (hc : (c == 0) = false) (u : World) (hu : Rr u q bo bk b s) => rfail_any q bo bk b s c hc u hu
  have hH : Hidden (Rr w q bo bk b s) := h
  obtain ⟨a, e, h1, h2, h3, h4, h5⟩ := h
  obtain ⟨c0, c1, c2⟩ := box3r h1
  have f1 := Ty.frozen_row h1 1
  have hbm : b.length ≤ bk ∧ bk ≤ 9223372036854775807 := by
    obtain ⟨ao', cap', e', q1, q2, _⟩ := id h4
    simp only [Value.slice.injEq] at e'
    obtain ⟨_, _, rfl⟩ := e'
    rw [Wi.bc_length] at q1
    unfold maxLen at q2
    exact ⟨q1, by omega⟩
  rcases h3 with ⟨rfl, rfl⟩ | ⟨he, rfl⟩
  · by_cases hl : n ≤ (b.drop a).length
    · have e1 : tkS n (some (b.drop a)) = (Wi.numS ((b.drop a).take n), some ((b.drop a).drop n)) := by show (if n ≤ (b.drop a).length then _ else _) = _; rw [if_pos hl]
      rw [e1]
      rw [List.length_drop] at hl
      obtain ⟨L, hL⟩ : ∃ L, b.length = L := ⟨_, rfl⟩
      have hLH : Hidden (b.length = L) := hL
      rw [hL] at c0 hbm hb hl h2
      have t1 : decide ((L : Int) - (a : Int) < (n : Int)) = false := by simp; omega
      have hall : Hidden (w.heap[q]? = some (.cells #[.slice bo b.length bk, ci (a : Int), ci 0] 84 (0, 0)) ∧ Wi.Sl w (.slice bo b.length bk) (Wi.bc b) ∧ ∀ k, (Value.slice bo b.length bk).ownBlock = some k → k ≠ q) := ⟨h1, h4, h5⟩
      have haL : a + n ≤ L := by omega
      have hcell : Hidden (∀ (j : Nat) (x : UInt8), b[a + j]? = some x → ∃ g off, bo = some ⟨g, off, none⟩ ∧ w.cell? ⟨g, off + (a + j), none⟩ = some (.int .u8 (x.toNat : Int))) := fun j x hx => by
        obtain ⟨ao', cap', e', _, _, _, q4⟩ := id h4
        simp only [Value.slice.injEq] at e'
        obtain ⟨rfl, _, _⟩ := e'
        rcases q4 with q4 | ⟨g, off, rfl, q4⟩
        · have : b = [] := by simpa [Wi.bc] using q4
          rw [this] at hx
          simp at hx
        · exact ⟨g, off, rfl, q4 (a + j) _ (by unfold Wi.bc; rw [List.getElem?_map, hx]; rfl)⟩
      clear h1 h4 h5 kf e1 hL
      go_enter Tryz.func40, Tryz.ntmps40
      go_wp2_with fail
      go_quiet (fail)
      go_wp2_with fail
      go_loopg [5, 6] n (fun g vv iv wr => ∃ j : Nat, vv = .int .u64 (Wi.numS ((b.drop a).take j) : Int) ∧ iv = ci (j : Int) ∧ j ≤ n ∧ g = n - j ∧ Fr FN w wr)
      case atStart => exact ⟨0, by simp [Wi.numS], rfl, by omega, rfl, Ty.drewN_fr (Fr.refl _ _) _⟩
      case round =>
        obtain ⟨j, rfl, rfl, hj, hgk, hfr⟩ := hrel
        have hgkH : Hidden (gk = n - j) := hgk
        have hfrH : Hidden (Fr FN w wr) := hfr
        clear hgk
        by_cases hjl : j < n
        · have hbl : b.length = L := hLH
          obtain ⟨x, hx⟩ : ∃ x, b[a + j]? = some x := ⟨b[a + j], List.getElem?_eq_getElem (by omega)⟩
          obtain ⟨g0, off, rfl, d0⟩ := (show ∀ (j : Nat) (x : UInt8), _ → _ from hcell) j x hx
          replace d0 := hfr.cellN d0
          have y0 := hfr.cellN c0
          have y1 := hfr.cellN c1
          obtain ⟨p, hp⟩ : ∃ p : Nat, a + j = p := ⟨_, rfl⟩
          rw [hp] at d0
          have hpi : (a : Int) + (j : Int) = (p : Int) := by omega
          have hpL : p < L := by omega
          have hA : Hidden (Wi.numS ((b.drop a).take (j + 1)) = Wi.numS ((b.drop a).take j) * 256 + x.toNat) := by
            show _ = _
            have hx' : (b.drop a)[j]? = some x := by rw [List.getElem?_drop]; exact hx
            rw [take_snoc hx', Wi.numS_snoc]
          have hlt : Wi.numS ((b.drop a).take j) < 72057594037927936 := by
            have := Wi.numS_lt ((b.drop a).take j)
            rw [List.length_take] at this
            have h7 : min j (b.drop a).length ≤ 7 := by omega
            exact Nat.lt_of_lt_of_le this (Nat.pow_le_pow_right (by omega) h7)
          have hor := Wi.or_byte _ x hlt
          obtain ⟨A, hAA⟩ : ∃ A, Wi.numS ((b.drop a).take j) = A := ⟨_, rfl⟩
          rw [hAA] at hA hlt hor ⊢
          clear hx hbl hfr c0 c1 hAA hp
          go_wp2_with fail
          go_quiet (fail)
          go_wp2_with fail
          go_roundg (n - (j + 1))
          case measure => have : gk = n - j := hgkH; omega
          case rel => exact ⟨j + 1, by rw [(show Wi.numS _ = A * 256 + x.toNat from hA)]; simp, by go_num, by omega, rfl, Ty.drewN_fr (show Fr FN w wr from hfrH) _⟩
        · obtain rfl : j = n := by omega
          obtain ⟨z1, z4, z5⟩ := (show _ ∧ _ ∧ _ from hall)
          have r1 := hfr.heap z1 (fun f => f)
          obtain ⟨y0, y1, y2⟩ := box3r r1
          have fz := Ty.frozen_row r1 1
          have hset : Hidden _ := rr_set r1 (z4.keep (to_wi hfr) (fun _ _ f => f)) z5 1 (ci ((a + j : Nat) : Int))
          have ee : (a : Int) + (j : Int) = ((a + j : Nat) : Int) := by omega
          obtain ⟨P, hP⟩ : ∃ P, a + j = P := ⟨_, rfl⟩
          rw [hP] at ee hset
          have hPH : Hidden (a + j = P) := hP
          have z5H : Hidden (∀ k, (Value.slice bo b.length bk).ownBlock = some k → k ≠ q) := z5
          have hPL : P ≤ L := by omega
          clear z1 z4 z5 r1 hfr hP y0 y2 hcell c0 c1
          go_wp2_with fail
          go_ret
          obtain ⟨s1, s2, s3⟩ := (show _ ∧ _ ∧ _ from hset)
          refine ⟨rfl, ⟨P, 0, s1, by rw [(show b.length = L from hLH)]; exact hPL, Or.inl ⟨rfl, ?_⟩, s2, z5H⟩, ((show Fr FN w wr from hfrH).mono fun _ _ f => f.elim).same s3⟩
          rw [List.drop_drop, (show a + j = P from hPH)]
    · have e1 : tkS n (some (b.drop a)) = (0, none) := by show (if n ≤ (b.drop a).length then _ else _) = _; rw [if_neg hl]
      rw [e1]
      rw [List.length_drop] at hl
      obtain ⟨L, hL⟩ : ∃ L, b.length = L := ⟨_, rfl⟩
      rw [hL] at c0 hbm hb hl h2
      have t1 : decide ((L : Int) - (a : Int) < (n : Int)) = true := by simp; omega
      have kf2 : ∀ nq, _ := fun nq => kf 40 (by decide) (w.drewN nq) (Rr.later hH (Ty.drewN_fr (Fr.refl _ _) _))
      clear h1 h4 h5 kf e1 hL
      go_enter Tryz.func40, Tryz.ntmps40
      go_wp2_with fail
      go_quiet (fail)
      go_wp2_with (go_at_call 41; refine Calls.mono (kf2 _) ?_; rintro e w1 ⟨rfl, r1, f1⟩)
      go_ret
      exact ⟨rfl, r1, (Ty.drewN_fr (Fr.refl _ _) _).same f1⟩
  · have hz : Hidden (Rr w q bo bk b none) := ⟨a, e, h1, h2, Or.inr ⟨he, rfl⟩, h4, h5⟩
    have b1 : (e != 0) = true := by simpa using he
    clear h1 h2 h4 h5 kf
    go_enter Tryz.func40, Tryz.ntmps40
    go_wp2_with fail
    go_ret
    exact ⟨rfl, hz, Fr.refl _ _⟩
/-- Byte, Long, Int of the document's Reader. -/
def byS (s : Option (List UInt8)) : UInt8 × Option (List UInt8) := (UInt8.ofNat (tkS 1 s).1, (tkS 1 s).2)
def inS (s : Option (List UInt8)) : Nat × Option (List UInt8) := if 2147483647 < (tkS 4 s).1 then (0, none) else tkS 4 s
theorem tkS_lt (n : Nat) (s : Option (List UInt8)) : (tkS n s).1 < 256 ^ n := by
  cases s with
  | none => exact Nat.pow_pos (by omega)
  | some r =>
    show (if n ≤ r.length then (Wi.numS (r.take n), some (r.drop n)) else (0, none)).1 < _
    split
    · rename_i h
      have := Wi.numS_lt (r.take n)
      rw [List.length_take, Nat.min_eq_left h] at this
      exact this
    · exact Nat.pow_pos (by omega)
theorem rbyte_any (q : Nat) (bo : Option Addr) (bk : Nat) (b : List UInt8) (s : Option (List UInt8)) (hb : b.length ≤ 140737488351232) (w : World) (h : Rr w q bo bk b s) : Calls Tryz.prog 18 #[.pointer (some ⟨q, 0, none⟩)] w fun e w' => e = .returned (.int .u8 ((byS s).1.toNat : Int)) ∧ Rr w' q bo bk b (byS s).2 ∧ Fr (fun k => k = q) w w' := by
  have kt := rtake_any q bo bk b s 1 (by omega) hb w h
  have hl := tkS_lt 1 s
  have e1 : ((byS s).1.toNat : Int) = ((tkS 1 s).1 : Int) := by
    show ((UInt8.ofNat (tkS 1 s).1).toNat : Int) = _
    rw [UInt8.toNat_ofNat']
    omega
  have e2 : (byS s).2 = (tkS 1 s).2 := rfl
  rw [e1, e2]
  generalize (tkS 1 s).2 = s' at kt ⊢
  generalize (tkS 1 s).1 = N at kt hl ⊢
  clear h e1 e2
  go_enter Tryz.func18, Tryz.ntmps18
  go_wp2_with (go_at_call 40; refine Calls.mono kt ?_; rintro e w1 ⟨rfl, r1, f1⟩)
  go_ret
  exact ⟨rfl, r1, f1⟩
theorem rlong_any (q : Nat) (bo : Option Addr) (bk : Nat) (b : List UInt8) (s : Option (List UInt8)) (hb : b.length ≤ 140737488351232) (w : World) (h : Rr w q bo bk b s) : Calls Tryz.prog 19 #[.pointer (some ⟨q, 0, none⟩)] w fun e w' => e = .returned (.int .u64 ((tkS 8 s).1 : Int)) ∧ Rr w' q bo bk b (tkS 8 s).2 ∧ Fr (fun k => k = q) w w' := by
  have kt := rtake_any q bo bk b s 8 (by omega) hb w h
  generalize (tkS 8 s).2 = s' at kt ⊢
  generalize (tkS 8 s).1 = N at kt ⊢
  clear h
  go_enter Tryz.func19, Tryz.ntmps19
  go_wp2_with (go_at_call 40; refine Calls.mono kt ?_; rintro e w1 ⟨rfl, r1, f1⟩)
  go_ret
  exact ⟨rfl, r1, f1⟩
set_option maxHeartbeats 1000000 in
theorem rint_any (q : Nat) (bo : Option Addr) (bk : Nat) (b : List UInt8) (s : Option (List UInt8)) (hb : b.length ≤ 140737488351232) (w : World) (h : Rr w q bo bk b s) : Calls Tryz.prog 17 #[.pointer (some ⟨q, 0, none⟩)] w fun e w' => e = .returned (ci ((inS s).1 : Int)) ∧ Rr w' q bo bk b (inS s).2 ∧ Fr (fun k => k = q) w w' := by
  have kt := rtake_any q bo bk b s 4 (by omega) hb w h
  have hl := tkS_lt 4 s
  have kf := fun (u : World) (s' : Option (List UInt8)) (hu : Rr u q bo bk b s') => rfail_any q bo bk b s' 42 (by decide) u hu
  by_cases hbig : 2147483647 < (tkS 4 s).1
  · have e1 : inS s = (0, none) := by unfold inS; rw [if_pos hbig]
    rw [e1]
    generalize (tkS 4 s).2 = s' at kt
    generalize (tkS 4 s).1 = N at kt hl hbig
    have t1 : decide ((2147483647 : Int) < (N : Int)) = true := by simp; omega
    clear h e1
    go_enter Tryz.func17, Tryz.ntmps17
    go_wp2_with (first
      | (go_at_call 40; refine Calls.mono kt ?_; rintro e w1 ⟨rfl, r1, f1⟩; have kf1 := kf w1 s' r1)
      | (go_at_call 41; refine Calls.mono kf1 ?_; rintro e w2 ⟨rfl, r2, f2⟩))
    go_ret
    exact ⟨rfl, r2, f1.same f2⟩
  · have e1 : inS s = tkS 4 s := by unfold inS; rw [if_neg hbig]
    rw [e1]
    generalize (tkS 4 s).2 = s' at kt ⊢
    generalize (tkS 4 s).1 = N at kt hl hbig ⊢
    have t1 : decide ((2147483647 : Int) < (N : Int)) = false := by simp; omega
    have t2 : IntKind.i64.wrap (N : Int) = (N : Int) := by rw [IntKind.wrap_i64]; omega
    clear h e1 kf
    go_enter Tryz.func17, Tryz.ntmps17
    go_wp2_with (go_at_call 40; refine Calls.mono kt ?_; rintro e w1 ⟨rfl, r1, f1⟩)
    go_ret
    exact ⟨rfl, r1, f1⟩
end Go.Proofs.YtakkiipkmogagaaGreat.Fo.Ic
