/- Tokens that come in; the law LexJoins. -/
import Derived.Test.YtdhiombagbiffaaDoorLxI2
import Derived.Deep.Slices
import Derived.Deep.Strs
import Derived.ChangeSlices
import Derived.ChangeArms
import Derived.DataReads
namespace Go.Proofs.YtdhiombagbiffaaDoor.J
open Go.RowKit Lx Go.WideShapes Go.ChangeShapes Go.ChangeAt Go.Deep
set_option linter.unusedSimpArgs false
set_option linter.unusedVariables false

theorem cells_int : Tryd.prog.cellsOf 3 = 1 := by kernel_rfl
theorem cells_str : Tryd.prog.cellsOf 9 = 1 := by kernel_rfl
theorem cells_rtok : Tryd.prog.cellsOf 35 = 5 := by kernel_rfl
theorem cells_val : Tryd.prog.cellsOf 33 = 2 := by kernel_rfl
theorem cells_u64 : Tryd.prog.cellsOf 31 = 1 := by kernel_rfl
theorem Addr_plain {W : World} {a : Addr} {x : Value} (h : W.cell? (a.add 0) = some x) : a.spot = none := by
  have := World.cell?_spot h
  unfold Addr.add at this
  simpa using this

variable {H : Type} {enc : TypeId × Value → H} {W : World}

theorem val_in {fuel : Nat} {c0 c1 : Value} {x : DataW H × List MemPlace} (h : DataW.trod enc Tryd.prog W 0 (fun _ => true) true fuel 33 [c0, c1] = some x) : ∃ t b : Int, c0 = .int .i64 t ∧ c1 = .int .u64 b := by
  obtain ⟨xs, n, rfl, rfl, hlen, hxl, hf⟩ := DataW.trod_struct Tryd.underlying33 h
  have hxl : xs.length = 2 := hxl
  match xs, hxl with
  | [x0, x1], _ =>
    have f0 : DataW.trod enc Tryd.prog W 0 (fun _ => true) true n 3 [c0] = some x0 := by
      have : DataW.trod enc Tryd.prog W 0 (fun _ => true) true n 3 (([c0, c1].drop 0).take (Tryd.prog.cellsOf 3)) = some x0 := hf 0 _ rfl
      rw [cells_int] at this
      exact this
    have f1 : DataW.trod enc Tryd.prog W 0 (fun _ => true) true n 31 [c1] = some x1 := by
      have : DataW.trod enc Tryd.prog W 0 (fun _ => true) true n 31 (([c0, c1].drop 1).take (Tryd.prog.cellsOf 31)) = some x1 := hf 1 _ rfl
      rw [cells_u64] at this
      exact this
    obtain ⟨t, e0, rfl, w0⟩ := DataW.trod_int Tryd.underlying3 f0
    obtain ⟨b, e1, rfl, w1⟩ := DataW.trod_int Tryd.underlying31 f1
    exact ⟨t, b, by simpa using e0, by simpa using e1⟩
set_option maxRecDepth 20000 in
theorem tok_in {fuel : Nat} {cs : List Value} {x : DataW H × List MemPlace} (h : DataW.trod enc Tryd.prog W 0 (fun _ => true) true fuel 35 cs = some x) :
    ∃ t : Tok, cs = tokC t ∧ t.x.length + 1 ≤ Rows.uptoBulk x.1 := by
  obtain ⟨xs, n, rfl, rfl, hlen, hxl, hf⟩ := DataW.trod_struct Tryd.underlying35 h
  rw [cells_rtok] at hlen
  match cs, hlen with
  | [c0, c1, c2, c3, c4], _ =>
    have hxl : xs.length = 4 := hxl
    match xs, hxl with
    | [x0, x1, x2, x3], _ =>
      have f0 : DataW.trod enc Tryd.prog W 0 (fun _ => true) true n 3 [c0] = some x0 := by
        have : DataW.trod enc Tryd.prog W 0 (fun _ => true) true n 3 (([c0, c1, c2, c3, c4].drop 0).take (Tryd.prog.cellsOf 3)) = some x0 := hf 0 _ rfl
        rw [cells_int] at this
        exact this
      have f1 : DataW.trod enc Tryd.prog W 0 (fun _ => true) true n 9 [c1] = some x1 := by
        have : DataW.trod enc Tryd.prog W 0 (fun _ => true) true n 9 (([c0, c1, c2, c3, c4].drop 1).take (Tryd.prog.cellsOf 9)) = some x1 := hf 1 _ rfl
        rw [cells_str] at this
        exact this
      have f2 : DataW.trod enc Tryd.prog W 0 (fun _ => true) true n 33 [c2, c3] = some x2 := by
        have : DataW.trod enc Tryd.prog W 0 (fun _ => true) true n 33 (([c0, c1, c2, c3, c4].drop 2).take (Tryd.prog.cellsOf 33)) = some x2 := hf 2 _ rfl
        rw [cells_val] at this
        exact this
      have f3 : DataW.trod enc Tryd.prog W 0 (fun _ => true) true n 3 [c4] = some x3 := by
        have : DataW.trod enc Tryd.prog W 0 (fun _ => true) true n 3 (([c0, c1, c2, c3, c4].drop 4).take (Tryd.prog.cellsOf 3)) = some x3 := hf 3 _ rfl
        rw [cells_int] at this
        exact this
      obtain ⟨k, e0, rfl, w0⟩ := DataW.trod_int Tryd.underlying3 f0
      obtain ⟨s, e1, rfl, w1⟩ := DataW.trod_string Tryd.underlying9 f1
      obtain ⟨t, b, rfl, rfl⟩ := val_in f2
      obtain ⟨p, e3, rfl, w3⟩ := DataW.trod_int Tryd.underlying3 f3
      obtain rfl : c0 = .int .i64 k := by simpa using e0
      obtain rfl : c1 = .string s := by simpa using e1
      obtain rfl : c4 = .int .i64 p := by simpa using e3
      refine ⟨⟨k, s.data.toList, t, b, p⟩, by simp [tokC], ?_⟩
      simp only [Rows.uptoBulk, Rows.uptoBulkAll, List.map_cons, List.map_nil]
      omega
theorem toks_in {fuel : Nat} {c : Value} {x : DataW H × List MemPlace} (h : DataW.trod enc Tryd.prog W 0 (fun _ => true) true fuel 26 [c] = some x) :
    ∃ ts : List Tok, Tk W c ts ∧ (ts.map fun t => t.x.length + 1).sum ≤ Rows.uptoBulk x.1 := by
  rcases open_slice Tryd.underlying26 h with ⟨hcs, rfl⟩ | ⟨a, len, cap, m, n, D, Pl, hcs, _, hl, hm, hmm, rfl, hx⟩
  · simp only [List.cons.injEq, and_true] at hcs
    subst hcs
    exact ⟨[], ⟨none, 0, rfl, by simp, by simp, Or.inl rfl⟩, by simp⟩
  · simp only [List.cons.injEq, and_true] at hcs
    subst hcs
    simp only [if_true] at hmm
    rw [cells_rtok] at hx
    have hx2 : ∀ i, i < len → ∃ t : Tok, (∀ j, j < 5 → W.cell? ((a.add (i * 5)).add j) = (tokC t)[j]?) ∧ t.x.length + 1 ≤ Rows.uptoBulk (D i) := by
      intro i hi
      obtain ⟨cs', hc, ht⟩ := hx i (by omega)
      obtain ⟨t, rfl, hb⟩ := tok_in ht
      obtain ⟨_, _, hcc⟩ := World.cells?_some hc
      exact ⟨t, hcc, hb⟩
    obtain ⟨f, hf⟩ := @choose_lt Tok ⟨⟨0, [], 0, 0, 0⟩⟩ len _ hx2
    refine ⟨(List.range len).map f, ⟨some a, cap, by simp, by simp; exact hl, hm, ?_⟩, ?_⟩
    · by_cases h0 : len = 0
      · left; rw [h0]; rfl
      · right
        have h00 := (hf 0 (by omega)).1 0 (by omega)
        have hsp : a.spot = none := by
          have : a.add (0 * 5) = a := by simp [Addr.add]
          rw [this] at h00
          exact Addr_plain h00
        obtain ⟨b, off, spot⟩ := a
        simp only at hsp
        subst hsp
        refine ⟨b, off, rfl, fun i t ht j y hj => ?_⟩
        rw [List.getElem?_map] at ht
        by_cases hi : i < len
        · rw [List.getElem?_range hi] at ht
          simp only [Option.map_some, Option.some.injEq] at ht
          subst ht
          have hj5 : j < 5 := (List.getElem?_eq_some_iff.1 hj).1
          have := (hf i hi).1 j hj5
          rw [Addr.add_lit, Addr.add_lit, hj] at this
          exact this
        · rw [List.getElem?_eq_none (by simp; omega)] at ht
          cases ht
    · simp only [Rows.uptoBulk, List.map_map]
      have : ∀ r : List Nat, (∀ i ∈ r, i < len) → (r.map ((fun t : Tok => t.x.length + 1) ∘ f)).sum ≤ Rows.uptoBulkAll (r.map D) := by
        intro r
        induction r with
        | nil => intro _; simp
        | cons i r ih =>
          intro hr
          have h1 := ih (fun j hj => hr j (List.mem_cons_of_mem _ hj))
          have h2 := (hf i (hr i (List.mem_cons_self ..))).2
          simp only [List.map_cons, List.sum_cons, Rows.uptoBulkAll, Function.comp_def] at h1 ⊢
          omega
      have := this (List.range len) (fun i hi => List.mem_range.1 hi)
      omega
theorem sum_ge (ts : List Tok) : ts.length ≤ (ts.map fun t => t.x.length + 1).sum := by
  induction ts with
  | nil => simp
  | cons t ts ih => simp only [List.length_cons, List.map_cons, List.sum_cons]; omega
end Go.Proofs.YtdhiombagbiffaaDoor.J

namespace Go.Proofs.YtdhiombagbiffaaDoor
open Go.RowKit Lx
set_option linter.unusedSimpArgs false
set_option linter.unusedVariables false
set_option maxRecDepth 20000 in
set_option maxHeartbeats 2000000 in
theorem lexJoins.walk (va : Value) (a : List J.Tok) (vb : Value) (b : List J.Tok) (w : World) (ha : J.Tk w va a) (hla : (a.map fun t => t.x.length + 1).sum ≤ 1048576) (hb : J.Tk w vb b) (hlb : (b.map fun t => t.x.length + 1).sum ≤ 1048576) (htab : F.Tab w) :
    Calls Tryd.prog 4 #[va, vb] w fun e w' => e = .returned (.bool true) ∧ Fr (fun _ => False) w w' := by
  have na := J.sum_ge a
  have nb := J.sum_ge b
  have jl := J.join_len a
  obtain ⟨A, hA⟩ : ∃ A, J.joinS a = A := ⟨_, rfl⟩
  rw [hA] at jl
  have hAH : Hidden (J.joinS a = A) := hA
  obtain ⟨r, hr⟩ : ∃ r, decide (a.map J.Tok.core = b.map J.Tok.core) = r := ⟨_, rfl⟩
  have hrH : Hidden (decide (a.map J.Tok.core = b.map J.Tok.core) = r) := hr
  have haH : Hidden (J.Tk w va a) := ha
  have hbH : Hidden (J.Tk w vb b) := hb
  have k1 := J.own_walk va a (by omega) w ha
  have eA : (A == A) = true := by simp
  have er : (r == r) = true := by simp
  obtain ⟨ao, cap, rfl, _⟩ := ha
  obtain ⟨bo, bcap, rfl, _⟩ := hb
  have la : a.length ≤ 1048576 := by omega
  have lb : b.length ≤ 1048576 := by omega
  have lA : A.length ≤ 1048576 := by omega
  clear hA hr hla hlb na nb jl
  go_enter Tryd.func4, Tryd.ntmps4
  go_wp2_with fail
  go_at_call 14
  refine k1.mono ?_
  rintro e W1 ⟨v1, rfl, r1, f1⟩
  have k2 := J.join_walk v1 a A hAH (by omega) (by omega) W1 r1.tk
  go_wp2_with fail
  go_at_call 13
  refine k2.mono ?_
  rintro e W2 ⟨rfl, f2⟩
  have g2 := f1.same f2
  have k3 := J.rjoin_walk _ a A hAH (by omega) (by omega) W2 ((show J.Tk w _ a from haH).keepN g2)
  go_wp2_with fail
  go_at_call 15
  refine k3.mono ?_
  rintro e W3 ⟨rfl, f3⟩
  have g3 := g2.same f3
  have k4 := J.own_walk _ a (by omega) W3 ((show J.Tk w _ a from haH).keepN g3)
  go_wp2_with fail
  go_at_call 14
  refine k4.mono ?_
  rintro e W4 ⟨v4, rfl, r4, f4⟩
  have g4 := g3.same f4
  have k5 := J.own_walk _ b (by omega) W4 ((show J.Tk w _ b from hbH).keepN g4)
  go_wp2_with fail
  go_at_call 14
  refine k5.mono ?_
  rintro e W5 ⟨v5, rfl, r5, f5⟩
  have g5 := g4.same f5
  have k6 := J.same_any v4 v5 a b r hrH (by omega) W5 (r4.tk.keepN f5) r5.tk
  go_wp2_with fail
  go_at_call 16
  refine k6.mono ?_
  rintro e W6 ⟨rfl, f6⟩
  have g6 := g5.same f6
  have k7 := J.rsame_any _ _ a b r hrH (by omega) W6 ((show J.Tk w _ a from haH).keepN g6) ((show J.Tk w _ b from hbH).keepN g6)
  go_wp2_with fail
  go_at_call 17
  refine k7.mono ?_
  rintro e W7 ⟨rfl, f7⟩
  have g7 := g6.same f7
  have k8 := J.own_walk _ a (by omega) W7 ((show J.Tk w _ a from haH).keepN g7)
  go_wp2_with fail
  go_at_call 14
  refine k8.mono ?_
  rintro e W8 ⟨v8, rfl, r8, f8⟩
  have g8 := g7.same f8
  have k9 := J.own_walk _ a (by omega) W8 ((show J.Tk w _ a from haH).keepN g8)
  go_wp2_with fail
  go_at_call 14
  refine k9.mono ?_
  rintro e W9 ⟨v9, rfl, r9, f9⟩
  have g9 := g8.same f9
  have k10 := J.same_any v8 v9 a a true (decide_eq_true rfl) (by omega) W9 (r8.tk.keepN f9) r9.tk
  go_wp2_with fail
  go_at_call 16
  refine k10.mono ?_
  rintro e W10 ⟨rfl, f10⟩
  have g10 := g9.same f10
  have k11 := alive_any W10 (tab_fr htab g10)
  go_wp2_with fail
  go_at_call 11
  refine k11.mono ?_
  rintro e W11 ⟨rfl, f11⟩
  go_wp2_with fail
  go_ret
  exact ⟨rfl, g10.same f11⟩
end Go.Proofs.YtdhiombagbiffaaDoor
