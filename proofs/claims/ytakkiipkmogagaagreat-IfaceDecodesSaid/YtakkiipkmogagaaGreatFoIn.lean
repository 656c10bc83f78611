/- Constants, interfaces, truths that come in, in rows. -/
import Derived.Test.YtakkiipkmogagaaGreatTyIn
import Derived.Test.YtakkiipkmogagaaGreatFoBll
namespace Go.Proofs.YtakkiipkmogagaaGreat.Ty
open Go.RowKit Go.WideShapes Go.ChangeShapes Go.ChangeAt Go.Deep
set_option linter.unusedSimpArgs false
set_option linter.unusedVariables false
variable {H : Type} {enc : TypeId × Value → H} {W : World}
theorem items_in_ {fuel : Nat} {c : Value} {x : DataW H × List MemPlace} (h : DataW.trod enc Tryz.prog W 0 (fun _ => true) true fuel 23 [c] = some x) :
    ∃ (ao : Option Addr) (cap : Nat) (l : List It), c = .slice ao l.length cap ∧ ItL W ao cap l ∧ (∀ p ∈ l, OkI p) ∧ (l.map bkI).sum + 1 ≤ bulk x := by
  rcases open_sl Tryz.underlying23 h with rfl | ⟨a, len, cap, n, el, rest, hn, rfl, hl, hm, hx, hlen, hel⟩
  · exact ⟨none, 0, [], rfl, ⟨by simp, by simp [maxLen], fun _ => rfl, Or.inl rfl⟩, by simp, by simpa using bulk_pos x⟩
  · rw [cells_item] at hel
    have hpl : 0 < len → a.spot = none := by
      intro h0
      obtain ⟨y, cs, _, hc, ht⟩ := hel 0 h0
      obtain ⟨i, ao', cap', rfl, _⟩ := item_in ht
      obtain ⟨_, _, hcc⟩ := World.cells?_some hc
      have := hcc 0 (by omega)
      rw [show a.add (0 * 5) = a by simp [Addr.add]] at this
      exact Addr_plain (this.trans rfl)
    have key : ∀ (m i : Nat), i + m = len → ∃ r : List It, r.length = m ∧ (∀ (j : Nat) (p : It), r[j]? = some p → ∃ ap cp, InL W ap cp p.params ∧ ∀ (j2 : Nat) (u : Value), (itC p (.slice ap p.params.length cp))[j2]? = some u → W.cell? ⟨a.block, a.off + (i + j) * 5 + j2, none⟩ = some u) ∧ (∀ p ∈ r, OkI p) ∧ (r.map bkI).sum ≤ Rows.uptoBulkAll ((el.drop i).map (·.1)) := by
      intro m
      induction m with
      | zero => intro i _; exact ⟨[], rfl, by simp, by simp, by simp⟩
      | succ m ihm =>
        intro i hi
        obtain ⟨r, r1, r2, r3, r4⟩ := ihm (i + 1) (by omega)
        obtain ⟨y, cs, hy, hc, ht⟩ := hel i (by omega)
        obtain ⟨pp, ap, cp, rfl, q0, q1, q3⟩ := item_in ht
        obtain ⟨_, _, hcc⟩ := World.cells?_some hc
        have hsp := hpl (by omega)
        refine ⟨pp :: r, by simp [r1], fun j p hj => ?_, ?_, ?_⟩
        · cases j with
          | zero =>
            obtain rfl : pp = p := by simpa using hj
            refine ⟨ap, cp, q0, fun j u hu => ?_⟩
            have hj : j < 5 := (List.getElem?_eq_some_iff.1 hu).1
            have := hcc j hj
            rw [hu] at this
            obtain ⟨b, off, spot⟩ := a
            simp only at hsp
            subst hsp
            rw [Addr.add_lit, Addr.add_lit] at this
            rw [show i + 0 = i by omega]
            exact this
          | succ j =>
            have := r2 j p (by simpa using hj)
            rw [show i + 1 + j = i + (j + 1) by omega] at this
            exact this
        · intro p hp
          rcases List.mem_cons.1 hp with rfl | hp
          · exact q1
          · exact r3 p hp
        · rw [bulk_drop el i y hy]
          simp only [List.map_cons, List.sum_cons]
          omega
    obtain ⟨r, r1, r2, r3, r4⟩ := key len 0 (by omega)
    refine ⟨some a, cap, r, by rw [r1], ⟨by rw [r1]; exact hl, hm, (fun h => by cases h), ?_⟩, r3, ?_⟩
    · by_cases h0 : len = 0
      · left; exact List.eq_nil_of_length_eq_zero (by rw [r1, h0])
      · right
        have hsp := hpl (by omega)
        obtain ⟨b, off, spot⟩ := a
        simp only at hsp
        subst hsp
        refine ⟨b, off, rfl, fun i p hp => ?_⟩
        obtain ⟨ap, cp, h1, h2⟩ := r2 i p hp
        exact ⟨ap, cp, h1, fun j u hu => by have := h2 j u hu; simpa using this⟩
    · simp only [bulk, hx, Rows.uptoBulk]
      simp only [List.drop_zero] at r4
      omega
theorem cells_items_ : Tryz.prog.cellsOf 23 = 1 := by kernel_rfl
theorem cells_iface_ : Tryz.prog.cellsOf 25 = 2 := by kernel_rfl
set_option maxRecDepth 20000 in
theorem iface_in_ {fuel : Nat} {c0 c1 : Value} {x : DataW H × List MemPlace} (h : DataW.trod enc Tryz.prog W 0 (fun _ => true) true fuel 25 [c0, c1] = some x) : ∃ (f : Fc) (ao : Option Addr) (cap : Nat), c0 = ct f.name ∧ c1 = .slice ao f.items.length cap ∧ ItL W ao cap f.items ∧ OkN f.name ∧ (∀ p ∈ f.items, OkI p) ∧ f.name.length + (f.items.map bkI).sum + 1 ≤ bulk x := by
  obtain ⟨xs, n, rfl, rfl, hlen, hxl, hf⟩ := DataW.trod_struct Tryz.underlying25 h
  have hxl : xs.length = 2 := hxl
  match xs, hxl with
  | [x0, x1], _ =>
    have f0 : DataW.trod enc Tryz.prog W 0 (fun _ => true) true n 9 [c0] = some x0 := by
      have : DataW.trod enc Tryz.prog W 0 (fun _ => true) true n 9 (([c0, c1].drop 0).take (Tryz.prog.cellsOf 9)) = some x0 := hf 0 _ rfl
      rw [cells_str] at this
      exact this
    have f1 : DataW.trod enc Tryz.prog W 0 (fun _ => true) true n 23 [c1] = some x1 := by
      have : DataW.trod enc Tryz.prog W 0 (fun _ => true) true n 23 (([c0, c1].drop 1).take (Tryz.prog.cellsOf 23)) = some x1 := hf 1 _ rfl
      rw [cells_items_] at this
      exact this
    obtain ⟨z1, e1, rfl, w1⟩ := DataW.trod_string Tryz.underlying9 f0
    obtain rfl : c0 = .string z1 := by simpa using e1
    obtain ⟨ao, cap, l, rfl, a1, a2, a3⟩ := items_in_ f1
    refine ⟨⟨z1.data.toList, l⟩, ao, cap, by simp [ct], rfl, a1, str_ok w1, a2, ?_⟩
    simp only [bulk, Rows.uptoBulk, Rows.uptoBulkAll, List.map_cons, List.map_nil] at a3 ⊢
    omega
end Go.Proofs.YtakkiipkmogagaaGreat.Ty
namespace Go.Proofs.YtakkiipkmogagaaGreat.Fo
open Go.RowKit Go.WideShapes Go.ChangeShapes Go.ChangeAt Go.Deep
set_option linter.unusedSimpArgs false
set_option linter.unusedVariables false
variable {H : Type} {enc : TypeId × Value → H} {W : World}
abbrev bulk (x : DataW H × List MemPlace) : Nat := Ty.bulk x
structure OkC (c : Con) : Prop where
  mod : c.mod.length ≤ 9223372036854775807
  name : c.name.length ≤ 9223372036854775807
  b : U64 c.b
def bkC (c : Con) : Nat := c.mod.length + c.name.length + 1
def bk_cons (l : List Con) : Nat := (l.map bkC).sum
/-- What lies at a place. -/
def LayC (W : World) (b off : Nat) (c : Con) : Prop := ∀ (j : Nat) (u : Value), (coC c)[j]? = some u → W.cell? ⟨b, off + j, none⟩ = some u
def CoI0 (W : World) (v : Value) (l : List Con) : Prop := ∃ ao cap, v = .slice ao l.length cap ∧ l.length ≤ cap ∧ cap ≤ maxLen ∧ (l = [] ∨ ∃ b off, ao = some ⟨b, off, none⟩ ∧ ∀ (i : Nat) (x : Con), l[i]? = some x → LayC W b (off + i * 4) x)
def CoI (W : World) (v : Value) (l : List Con) : Prop := ∃ ao cap, v = .slice ao l.length cap ∧ CoL W ao cap l
theorem CoI0.i {W : World} {v : Value} {l : List Con} (h : CoI0 W v l) : CoI W v l := by
  obtain ⟨ao, cap, h1, h2, h3, h4⟩ := h
  exact ⟨ao, cap, h1, h2, h3, h4⟩
/- interfaces -/
def bkF (f : Ty.Fc) : Nat := f.name.length + (f.items.map Ty.bkI).sum + 1
def bk_ifaces (l : List Ty.Fc) : Nat := (l.map bkF).sum
structure OkF (f : Ty.Fc) : Prop where
  name : f.name.length ≤ 9223372036854775807
  items : ∀ p ∈ f.items, Ty.OkI p
def LayF (W : World) (b off : Nat) (f : Ty.Fc) : Prop := ∃ ao cap, Ty.ItL W ao cap f.items ∧ W.cell? ⟨b, off, none⟩ = some (ct f.name) ∧ W.cell? ⟨b, off + 1, none⟩ = some (.slice ao f.items.length cap)
def FcL (W : World) (v : Value) (l : List Ty.Fc) : Prop := ∃ ao cap, v = .slice ao l.length cap ∧ l.length ≤ cap ∧ cap ≤ maxLen ∧ (l = [] ∨ ∃ b off, ao = some ⟨b, off, none⟩ ∧ ∀ (i : Nat) (x : Ty.Fc), l[i]? = some x → LayF W b (off + i * 2) x)
theorem cells_ifc : Tryz.prog.cellsOf 25 = 2 := by kernel_rfl
theorem ifc_in {fuel : Nat} {cs : List Value} {x : DataW H × List MemPlace} (h : DataW.trod enc Tryz.prog W 0 (fun _ => true) true fuel 25 cs = some x) : ∃ (f : Ty.Fc) (cc : List Value), cs = cc ∧ (∀ b off, (∀ (j : Nat) (u : Value), cc[j]? = some u → W.cell? ⟨b, off + j, none⟩ = some u) → LayF W b off f) ∧ OkF f ∧ bkF f ≤ Ty.bulk x ∧ cs[0]? = some (ct f.name) := by
  have hlen : cs.length = 2 := by
    obtain ⟨xs, n, _, _, hlen, _⟩ := DataW.trod_struct Tryz.underlying25 h
    rw [cells_ifc] at hlen
    exact hlen
  match cs, hlen with
  | [c0, c1], _ =>
    obtain ⟨f, ao, cap, rfl, rfl, h1, h2, h3, h4⟩ := Ty.iface_in_ h
    refine ⟨f, _, rfl, fun b off hh => ⟨ao, cap, h1, ?_, ?_⟩, ⟨h2, h3⟩, h4, rfl⟩
    · have := hh 0 _ rfl
      simpa using this
    · exact hh 1 _ rfl
theorem ifaces_in0 {fuel : Nat} {c : Value} {x : DataW H × List MemPlace} (h : DataW.trod enc Tryz.prog W 0 (fun _ => true) true fuel 89 [c] = some x) :
    ∃ (l : List Ty.Fc), FcL W c l ∧ (∀ p ∈ l, OkF p) ∧ (l.map bkF).sum + 1 ≤ Ty.bulk x := by
  rcases Ty.open_sl Tryz.underlying89 h with rfl | ⟨a, len, cap, n, el, rest, hn, rfl, hl, hm, hx, hlen, hel⟩
  · exact ⟨[], ⟨none, 0, rfl, by simp, by simp [maxLen], Or.inl rfl⟩, by simp, by simpa using Ty.bulk_pos x⟩
  · rw [cells_ifc] at hel
    have hpl : 0 < len → a.spot = none := by
      intro h0
      obtain ⟨y, cs, _, hc, ht⟩ := hel 0 h0
      obtain ⟨pp, cc, rfl, qq0, qq1, qq3, hc0⟩ := ifc_in ht
      obtain ⟨_, _, hcc⟩ := World.cells?_some hc
      have := hcc 0 (by omega)
      rw [show a.add (0 * 2) = a by simp [Addr.add]] at this
      rw [hc0] at this
      exact Ty.Addr_plain this
    have key : ∀ (m i : Nat), i + m = len → ∃ r : List Ty.Fc, r.length = m ∧ (∀ (j : Nat) (p : Ty.Fc), r[j]? = some p → LayF W a.block (a.off + (i + j) * 2) p) ∧ (∀ p ∈ r, OkF p) ∧ (r.map bkF).sum ≤ Rows.uptoBulkAll ((el.drop i).map (·.1)) := by
      intro m
      induction m with
      | zero => intro i _; exact ⟨[], rfl, by simp, by simp, by simp⟩
      | succ m ihm =>
        intro i hi
        obtain ⟨r, r1, r2, r3, r4⟩ := ihm (i + 1) (by omega)
        obtain ⟨y, cs, hy, hc, ht⟩ := hel i (by omega)
        obtain ⟨pp, cc, rfl, q0, q1, q3, _⟩ := ifc_in ht
        obtain ⟨hcl, _, hcc⟩ := World.cells?_some hc
        have hsp := hpl (by omega)
        refine ⟨pp :: r, by simp [r1], fun j p hj => ?_, ?_, ?_⟩
        · cases j with
          | zero =>
            obtain rfl : pp = p := by simpa using hj
            refine q0 _ _ (fun j u hu => ?_)
            have hj : j < 2 := by have := (List.getElem?_eq_some_iff.1 hu).1; omega
            have := hcc j hj
            rw [hu] at this
            obtain ⟨b, off, spot⟩ := a
            simp only at hsp
            subst hsp
            rw [Addr.add_lit, Addr.add_lit] at this
            rw [show i + 0 = i by omega]
            exact this
          | succ j =>
            have := r2 j p (by simpa using hj)
            rw [show i + 1 + j = i + (j + 1) by omega] at this
            exact this
        · intro p hp
          rcases List.mem_cons.1 hp with rfl | hp
          · exact q1
          · exact r3 p hp
        · rw [Ty.bulk_drop el i y hy]
          simp only [List.map_cons, List.sum_cons]
          omega
    obtain ⟨r, r1, r2, r3, r4⟩ := key len 0 (by omega)
    refine ⟨r, ⟨some a, cap, by rw [r1], by rw [r1]; exact hl, hm, ?_⟩, r3, ?_⟩
    · by_cases h0 : len = 0
      · left; exact List.eq_nil_of_length_eq_zero (by rw [r1, h0])
      · right
        have hsp := hpl (by omega)
        obtain ⟨b, off, spot⟩ := a
        simp only at hsp
        subst hsp
        refine ⟨b, off, rfl, fun i p hp => ?_⟩
        have := r2 i p hp
        simpa using this
    · simp only [Ty.bulk, hx, Rows.uptoBulk]
      simp only [List.drop_zero] at r4
      omega
theorem ifaces_arg {fuel : Nat} {c : Value} {x : DataW H × List MemPlace} (h : DataW.trod enc Tryz.prog W 0 (fun _ => true) true fuel 89 [c] = some x) : ∃ l : List Ty.Fc, FcL W c l ∧ (∀ p ∈ l, OkF p) ∧ bk_ifaces l + 1 ≤ bulk x := ifaces_in0 h
/- truths -/
def bkB (_ : Bool) : Nat := 1
def bk_bools (l : List Bool) : Nat := (l.map bkB).sum
def OkB (_ : Bool) : Prop := True
def LayB (W : World) (b off : Nat) (x : Bool) : Prop := W.cell? ⟨b, off, none⟩ = some (.bool x)
def BoL (W : World) (v : Value) (l : List Bool) : Prop := ∃ ao cap, v = .slice ao l.length cap ∧ l.length ≤ cap ∧ cap ≤ maxLen ∧ (l = [] ∨ ∃ b off, ao = some ⟨b, off, none⟩ ∧ ∀ (i : Nat) (x : Bool), l[i]? = some x → LayB W b (off + i * 1) x)
theorem cells_bool : Tryz.prog.cellsOf 4 = 1 := by kernel_rfl
theorem bool_in {fuel : Nat} {cs : List Value} {x : DataW H × List MemPlace} (h : DataW.trod enc Tryz.prog W 0 (fun _ => true) true fuel 4 cs = some x) : ∃ (f : Bool) (cc : List Value), cs = cc ∧ (∀ b off, (∀ (j : Nat) (u : Value), cc[j]? = some u → W.cell? ⟨b, off + j, none⟩ = some u) → LayB W b off f) ∧ OkB f ∧ bkB f ≤ Ty.bulk x ∧ cs[0]? = some (.bool f) := by
  have hp := Ty.bulk_pos x
  obtain ⟨z, e0, rfl⟩ := DataW.trod_bool Tryz.underlying4 h
  subst e0
  exact ⟨z, _, rfl, fun b off hh => hh 0 _ rfl, trivial, hp, rfl⟩
end Go.Proofs.YtakkiipkmogagaaGreat.Fo
