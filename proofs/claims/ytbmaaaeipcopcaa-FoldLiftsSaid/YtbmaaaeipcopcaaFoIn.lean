/- Constants, interfaces, truths that come in, in rows. -/
import Derived.Test.YtbmaaaeipcopcaaTyIn
import Derived.Test.YtbmaaaeipcopcaaFoD
namespace Go.Proofs.Ytbmaaaeipcopcaa.Ty
open Go.RowKit Go.WideShapes Go.ChangeShapes Go.ChangeAt Go.Deep
set_option linter.unusedSimpArgs false
set_option linter.unusedVariables false
variable {H : Type} {enc : TypeId × Value → H} {W : World}
end Go.Proofs.Ytbmaaaeipcopcaa.Ty
namespace Go.Proofs.Ytbmaaaeipcopcaa.Fo
open Go.RowKit Go.WideShapes Go.ChangeShapes Go.ChangeAt Go.Deep
set_option linter.unusedSimpArgs false
set_option linter.unusedVariables false
variable {H : Type} {enc : TypeId × Value → H} {W : World}
abbrev bulk (x : DataW H × List MemPlace) : Nat := Ty.bulk x
structure OkC (c : Con) : Prop where
  mod : c.mod.length ≤ 9223372036854775807
  name : c.name.length ≤ 9223372036854775807
  b : U64 c.b
def bkC (c : Con) : Nat := c.mod.length + c.name.length + 1
def bk_cons (l : List Con) : Nat := (l.map bkC).sum
/-- What lies at a place. -/
def LayC (W : World) (b off : Nat) (c : Con) : Prop := ∀ (j : Nat) (u : Value), (coC c)[j]? = some u → W.cell? ⟨b, off + j, none⟩ = some u
def CoI0 (W : World) (v : Value) (l : List Con) : Prop := ∃ ao cap, v = .slice ao l.length cap ∧ l.length ≤ cap ∧ cap ≤ maxLen ∧ (l = [] ∨ ∃ b off, ao = some ⟨b, off, none⟩ ∧ ∀ (i : Nat) (x : Con), l[i]? = some x → LayC W b (off + i * 4) x)
def CoI (W : World) (v : Value) (l : List Con) : Prop := ∃ ao cap, v = .slice ao l.length cap ∧ CoL W ao cap l
theorem CoI0.i {W : World} {v : Value} {l : List Con} (h : CoI0 W v l) : CoI W v l := by
  obtain ⟨ao, cap, h1, h2, h3, h4⟩ := h
  exact ⟨ao, cap, h1, h2, h3, h4⟩
theorem cells_con : Try.prog.cellsOf 35 = 4 := by kernel_rfl
set_option maxRecDepth 20000 in
theorem con_in {fuel : Nat} {cs : List Value} {x : DataW H × List MemPlace} (h : DataW.trod enc Try.prog W 0 (fun _ => true) true fuel 35 cs = some x) : ∃ (c : Con) (cc : List Value), cs = cc ∧ (∀ b off, (∀ (j : Nat) (u : Value), cc[j]? = some u → W.cell? ⟨b, off + j, none⟩ = some u) → LayC W b off c) ∧ OkC c ∧ bkC c ≤ Ty.bulk x ∧ cs[0]? = some (ct c.mod) := by
  obtain ⟨xs, n, rfl, rfl, hlen, hxl, hf⟩ := DataW.trod_struct Try.underlying35 h
  rw [cells_con] at hlen
  have hxl : xs.length = 3 := hxl
  match cs, hlen, xs, hxl with
  | [c0, c1, c2, c3], _, [x0, x1, x2], _ =>
    have f0 : DataW.trod enc Try.prog W 0 (fun _ => true) true n 9 [c0] = some x0 := by
      have : DataW.trod enc Try.prog W 0 (fun _ => true) true n 9 (([c0, c1, c2, c3].drop 0).take (Try.prog.cellsOf 9)) = some x0 := hf 0 _ rfl
      rw [Ty.cells_str] at this
      exact this
    have f1 : DataW.trod enc Try.prog W 0 (fun _ => true) true n 9 [c1] = some x1 := by
      have : DataW.trod enc Try.prog W 0 (fun _ => true) true n 9 (([c0, c1, c2, c3].drop 1).take (Try.prog.cellsOf 9)) = some x1 := hf 1 _ rfl
      rw [Ty.cells_str] at this
      exact this
    have f2 : DataW.trod enc Try.prog W 0 (fun _ => true) true n 24 [c2, c3] = some x2 := by
      have : DataW.trod enc Try.prog W 0 (fun _ => true) true n 24 (([c0, c1, c2, c3].drop 2).take (Try.prog.cellsOf 24)) = some x2 := hf 2 _ rfl
      rw [Ty.cells_val] at this
      exact this
    obtain ⟨z0, e0, rfl, w0⟩ := DataW.trod_string Try.underlying9 f0
    obtain rfl : c0 = .string z0 := by simpa using e0
    obtain ⟨z1, e1, rfl, w1⟩ := DataW.trod_string Try.underlying9 f1
    obtain rfl : c1 = .string z1 := by simpa using e1
    obtain ⟨t, b, rfl, rfl, i1, i2⟩ := Ty.val_in f2
    have hp := Ty.bulk_pos x2
    refine ⟨⟨z0.data.toList, z1.data.toList, t, b⟩, _, rfl, fun b' off hh j u hu => ?_, ⟨Ty.str_ok w0, Ty.str_ok w1, i2⟩, ?_, ?_⟩
    · refine hh j u ?_
      rw [← hu]
      simp [coC]
    · unfold bkC
      simp only [Ty.bulk, Rows.uptoBulk, Rows.uptoBulkAll, List.map_cons, List.map_nil] at hp ⊢
      omega
    · simp
theorem cons_in0 {fuel : Nat} {c : Value} {x : DataW H × List MemPlace} (h : DataW.trod enc Try.prog W 0 (fun _ => true) true fuel 28 [c] = some x) :
    ∃ (l : List Con), CoI0 W c l ∧ (∀ p ∈ l, OkC p) ∧ (l.map bkC).sum + 1 ≤ Ty.bulk x := by
  rcases Ty.open_sl Try.underlying28 h with rfl | ⟨a, len, cap, n, el, rest, hn, rfl, hl, hm, hx, hlen, hel⟩
  · exact ⟨[], ⟨none, 0, rfl, by simp, by simp [maxLen], Or.inl rfl⟩, by simp, by simpa using Ty.bulk_pos x⟩
  · rw [cells_con] at hel
    have hpl : 0 < len → a.spot = none := by
      intro h0
      obtain ⟨y, cs, _, hc, ht⟩ := hel 0 h0
      obtain ⟨pp, cc, rfl, qq0, qq1, qq3, hc0⟩ := con_in ht
      obtain ⟨_, _, hcc⟩ := World.cells?_some hc
      have := hcc 0 (by omega)
      rw [show a.add (0 * 4) = a by simp [Addr.add]] at this
      rw [hc0] at this
      exact Ty.Addr_plain this
    have key : ∀ (m i : Nat), i + m = len → ∃ r : List Con, r.length = m ∧ (∀ (j : Nat) (p : Con), r[j]? = some p → LayC W a.block (a.off + (i + j) * 4) p) ∧ (∀ p ∈ r, OkC p) ∧ (r.map bkC).sum ≤ Rows.uptoBulkAll ((el.drop i).map (·.1)) := by
      intro m
      induction m with
      | zero => intro i _; exact ⟨[], rfl, by simp, by simp, by simp⟩
      | succ m ihm =>
        intro i hi
        obtain ⟨r, r1, r2, r3, r4⟩ := ihm (i + 1) (by omega)
        obtain ⟨y, cs, hy, hc, ht⟩ := hel i (by omega)
        obtain ⟨pp, cc, rfl, q0, q1, q3, _⟩ := con_in ht
        obtain ⟨hcl, _, hcc⟩ := World.cells?_some hc
        have hsp := hpl (by omega)
        refine ⟨pp :: r, by simp [r1], fun j p hj => ?_, ?_, ?_⟩
        · cases j with
          | zero =>
            obtain rfl : pp = p := by simpa using hj
            refine q0 _ _ (fun j u hu => ?_)
            have hj : j < 4 := by have := (List.getElem?_eq_some_iff.1 hu).1; omega
            have := hcc j hj
            rw [hu] at this
            obtain ⟨b, off, spot⟩ := a
            simp only at hsp
            subst hsp
            rw [Addr.add_lit, Addr.add_lit] at this
            rw [show i + 0 = i by omega]
            exact this
          | succ j =>
            have := r2 j p (by simpa using hj)
            rw [show i + 1 + j = i + (j + 1) by omega] at this
            exact this
        · intro p hp
          rcases List.mem_cons.1 hp with rfl | hp
          · exact q1
          · exact r3 p hp
        · rw [Ty.bulk_drop el i y hy]
          simp only [List.map_cons, List.sum_cons]
          omega
    obtain ⟨r, r1, r2, r3, r4⟩ := key len 0 (by omega)
    refine ⟨r, ⟨some a, cap, by rw [r1], by rw [r1]; exact hl, hm, ?_⟩, r3, ?_⟩
    · by_cases h0 : len = 0
      · left; exact List.eq_nil_of_length_eq_zero (by rw [r1, h0])
      · right
        have hsp := hpl (by omega)
        obtain ⟨b, off, spot⟩ := a
        simp only at hsp
        subst hsp
        refine ⟨b, off, rfl, fun i p hp => ?_⟩
        have := r2 i p hp
        simpa using this
    · simp only [Ty.bulk, hx, Rows.uptoBulk]
      simp only [List.drop_zero] at r4
      omega
theorem cons_arg {fuel : Nat} {c : Value} {x : DataW H × List MemPlace} (h : DataW.trod enc Try.prog W 0 (fun _ => true) true fuel 28 [c] = some x) : ∃ l : List Con, CoI W c l ∧ (∀ p ∈ l, OkC p) ∧ bk_cons l + 1 ≤ bulk x := by
  obtain ⟨l, h1, h2, h3⟩ := cons_in0 h
  exact ⟨l, h1.i, h2, h3⟩
/- interfaces -/
def bkF (f : Ty.Fc) : Nat := f.name.length + (f.items.map Ty.bkI).sum + 1
def bk_ifaces (l : List Ty.Fc) : Nat := (l.map bkF).sum
structure OkF (f : Ty.Fc) : Prop where
  name : f.name.length ≤ 9223372036854775807
  items : ∀ p ∈ f.items, Ty.OkI p
def LayF (W : World) (b off : Nat) (f : Ty.Fc) : Prop := ∃ ao cap, Ty.ItL W ao cap f.items ∧ W.cell? ⟨b, off, none⟩ = some (ct f.name) ∧ W.cell? ⟨b, off + 1, none⟩ = some (.slice ao f.items.length cap)
def FcL (W : World) (v : Value) (l : List Ty.Fc) : Prop := ∃ ao cap, v = .slice ao l.length cap ∧ l.length ≤ cap ∧ cap ≤ maxLen ∧ (l = [] ∨ ∃ b off, ao = some ⟨b, off, none⟩ ∧ ∀ (i : Nat) (x : Ty.Fc), l[i]? = some x → LayF W b (off + i * 2) x)
/- truths -/
def bkB (_ : Bool) : Nat := 1
def bk_bools (l : List Bool) : Nat := (l.map bkB).sum
def OkB (_ : Bool) : Prop := True
def LayB (W : World) (b off : Nat) (x : Bool) : Prop := W.cell? ⟨b, off, none⟩ = some (.bool x)
def BoL (W : World) (v : Value) (l : List Bool) : Prop := ∃ ao cap, v = .slice ao l.length cap ∧ l.length ≤ cap ∧ cap ≤ maxLen ∧ (l = [] ∨ ∃ b off, ao = some ⟨b, off, none⟩ ∧ ∀ (i : Nat) (x : Bool), l[i]? = some x → LayB W b (off + i * 1) x)
theorem cells_bool : Try.prog.cellsOf 4 = 1 := by kernel_rfl
theorem bool_in {fuel : Nat} {cs : List Value} {x : DataW H × List MemPlace} (h : DataW.trod enc Try.prog W 0 (fun _ => true) true fuel 4 cs = some x) : ∃ (f : Bool) (cc : List Value), cs = cc ∧ (∀ b off, (∀ (j : Nat) (u : Value), cc[j]? = some u → W.cell? ⟨b, off + j, none⟩ = some u) → LayB W b off f) ∧ OkB f ∧ bkB f ≤ Ty.bulk x ∧ cs[0]? = some (.bool f) := by
  have hp := Ty.bulk_pos x
  obtain ⟨z, e0, rfl⟩ := DataW.trod_bool Try.underlying4 h
  subst e0
  exact ⟨z, _, rfl, fun b off hh => hh 0 _ rfl, trivial, hp, rfl⟩
theorem bools_in0 {fuel : Nat} {c : Value} {x : DataW H × List MemPlace} (h : DataW.trod enc Try.prog W 0 (fun _ => true) true fuel 29 [c] = some x) :
    ∃ (l : List Bool), BoL W c l ∧ (∀ p ∈ l, OkB p) ∧ (l.map bkB).sum + 1 ≤ Ty.bulk x := by
  rcases Ty.open_sl Try.underlying29 h with rfl | ⟨a, len, cap, n, el, rest, hn, rfl, hl, hm, hx, hlen, hel⟩
  · exact ⟨[], ⟨none, 0, rfl, by simp, by simp [maxLen], Or.inl rfl⟩, by simp, by simpa using Ty.bulk_pos x⟩
  · rw [cells_bool] at hel
    have hpl : 0 < len → a.spot = none := by
      intro h0
      obtain ⟨y, cs, _, hc, ht⟩ := hel 0 h0
      obtain ⟨pp, cc, rfl, qq0, qq1, qq3, hc0⟩ := bool_in ht
      obtain ⟨_, _, hcc⟩ := World.cells?_some hc
      have := hcc 0 (by omega)
      rw [show a.add (0 * 1) = a by simp [Addr.add]] at this
      rw [hc0] at this
      exact Ty.Addr_plain this
    have key : ∀ (m i : Nat), i + m = len → ∃ r : List Bool, r.length = m ∧ (∀ (j : Nat) (p : Bool), r[j]? = some p → LayB W a.block (a.off + (i + j) * 1) p) ∧ (∀ p ∈ r, OkB p) ∧ (r.map bkB).sum ≤ Rows.uptoBulkAll ((el.drop i).map (·.1)) := by
      intro m
      induction m with
      | zero => intro i _; exact ⟨[], rfl, by simp, by simp, by simp⟩
      | succ m ihm =>
        intro i hi
        obtain ⟨r, r1, r2, r3, r4⟩ := ihm (i + 1) (by omega)
        obtain ⟨y, cs, hy, hc, ht⟩ := hel i (by omega)
        obtain ⟨pp, cc, rfl, q0, q1, q3, _⟩ := bool_in ht
        obtain ⟨hcl, _, hcc⟩ := World.cells?_some hc
        have hsp := hpl (by omega)
        refine ⟨pp :: r, by simp [r1], fun j p hj => ?_, ?_, ?_⟩
        · cases j with
          | zero =>
            obtain rfl : pp = p := by simpa using hj
            refine q0 _ _ (fun j u hu => ?_)
            have hj : j < 1 := by have := (List.getElem?_eq_some_iff.1 hu).1; omega
            have := hcc j hj
            rw [hu] at this
            obtain ⟨b, off, spot⟩ := a
            simp only at hsp
            subst hsp
            rw [Addr.add_lit, Addr.add_lit] at this
            rw [show i + 0 = i by omega]
            exact this
          | succ j =>
            have := r2 j p (by simpa using hj)
            rw [show i + 1 + j = i + (j + 1) by omega] at this
            exact this
        · intro p hp
          rcases List.mem_cons.1 hp with rfl | hp
          · exact q1
          · exact r3 p hp
        · rw [Ty.bulk_drop el i y hy]
          simp only [List.map_cons, List.sum_cons]
          omega
    obtain ⟨r, r1, r2, r3, r4⟩ := key len 0 (by omega)
    refine ⟨r, ⟨some a, cap, by rw [r1], by rw [r1]; exact hl, hm, ?_⟩, r3, ?_⟩
    · by_cases h0 : len = 0
      · left; exact List.eq_nil_of_length_eq_zero (by rw [r1, h0])
      · right
        have hsp := hpl (by omega)
        obtain ⟨b, off, spot⟩ := a
        simp only at hsp
        subst hsp
        refine ⟨b, off, rfl, fun i p hp => ?_⟩
        have := r2 i p hp
        simpa using this
    · simp only [Ty.bulk, hx, Rows.uptoBulk]
      simp only [List.drop_zero] at r4
      omega
theorem bools_arg {fuel : Nat} {c : Value} {x : DataW H × List MemPlace} (h : DataW.trod enc Try.prog W 0 (fun _ => true) true fuel 29 [c] = some x) : ∃ l : List Bool, BoL W c l ∧ (∀ p ∈ l, OkB p) ∧ bk_bools l + 1 ≤ bulk x := bools_in0 h
end Go.Proofs.Ytbmaaaeipcopcaa.Fo
