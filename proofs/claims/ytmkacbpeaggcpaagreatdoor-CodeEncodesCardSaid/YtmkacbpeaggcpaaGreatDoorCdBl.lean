/- strings.Builder: WriteString at a builder of the call's own; what else lies in memory stays. -/
import Derived.Test.YtmkacbpeaggcpaaGreatDoorCdCn
import Derived.Test.YtmkacbpeaggcpaaGreatDoorCdTl
import Derived.Lib.Builder
import Derived.Shelf.Strings.Builder1
namespace Go.Proofs.YtmkacbpeaggcpaaGreatDoor.Cd
open Go.RowKit Ty
set_option linter.unusedSimpArgs false
set_option linter.unusedVariables false

/-- Blocks that a builder's call may change. -/
def BS (B b : Nat) (w : World) (k : Nat) : Prop := k = b ∨ (B ≤ k ∧ ∃ cur fr, w.heap[k]? = some (.cells cur 5 fr))
abbrev Bat (B b : Nat) (p : Value) (bs : Bs) (w : World) : Prop := Lib.BuilderAt 73 5 B b p (Lib.byteCells bs) w
abbrev Bld (B b : Nat) (bs : Bs) (w : World) : Prop := Lib.IsBuilder 73 5 B b (Lib.byteCells bs) w
theorem info_bld : (Tryz.prog.info? 73).map (·.size) = some 2 := by kernel_rfl
theorem lies_bld : liesAt Tryz.prog Tryz.prog.depth 73 (2 / Tryz.prog.cellsOf 73) 0 73 1 = true := by kernel_rfl

set_option maxHeartbeats 1000000 in
set_option maxRecDepth 100000 in
theorem cc_used (b : Nat) (w : World) (h0 : w.cell? ⟨b, 0, none⟩ = some (.pointer (some ⟨b, 0, none⟩))) :
    Calls Tryz.prog 42 #[.pointer (some ⟨b, 0, none⟩)] w fun e w' => e = .returned (.tuple #[]) ∧ w' = w := by
  obtain ⟨i, hi, _⟩ := Option.map_eq_some_iff.1 info_bld
  go_enter Tryz.func42, Tryz.ntmps42
  go_wp2
  rw [Lib.run_neq_ptr_same w _ Tryz.underlying71 hi]
  go_wp2
  go_end0
  exact ⟨rfl, rfl⟩
set_option maxHeartbeats 1000000 in
set_option maxRecDepth 100000 in
theorem cc_fresh (b : Nat) (w : World) (h0 : w.cell? ⟨b, 0, none⟩ = some (.pointer none)) (hsh : w.shape? b = some (73, 2)) (hfz : w.frozen? ⟨b, 0, none⟩ = false) :
    Calls Tryz.prog 42 #[.pointer (some ⟨b, 0, none⟩)] w fun e w' => e = .returned (.tuple #[]) ∧ w' = w.setCell ⟨b, 0, none⟩ (.pointer (some ⟨b, 0, none⟩)) := by
  obtain ⟨i, hi, his⟩ := Option.map_eq_some_iff.1 info_bld
  go_enter Tryz.func42, Tryz.ntmps42
  go_wp2
  rw [Lib.run_to_unsafe w ⟨b, 0, none⟩ Tryz.underlying71 Tryz.underlying126 hi (by rw [his]; decide) hsh (Nat.zero_lt_succ 1)]
  simp only [Result.andThen]
  rw [Oper.upon_value]
  go_wp2
  rw [run_callFunc_extern Tryz.func56 (by kernel_rfl) (by kernel_rfl) (by kernel_rfl) (e := Extern.AbiNoEscape.same) (by kernel_rfl)]
  rw [Lib.run_noEscape]
  simp only [Result.andThen]
  rw [Oper.upon_value]
  go_wp2
  rw [Lib.run_from_unsafe w ⟨b, 0, none⟩ Tryz.underlying126 Tryz.underlying71 hi hsh lies_bld]
  simp only [Result.andThen]
  rw [Oper.upon_value]
  go_wp2
  go_end0
  exact ⟨rfl, rfl⟩
theorem cc_any (B b : Nat) (bs : Bs) (w : World) (h : Bld B b bs w) :
    Calls Tryz.prog 42 #[.pointer (some ⟨b, 0, none⟩)] w fun e w' => e = .returned (.tuple #[]) ∧ Bat B b (.pointer (some ⟨b, 0, none⟩)) bs w' ∧ Fr (fun k => k = b) w w' := by
  rcases h with h | h
  · exact (cc_fresh b w h.cell0 h.shape h.frozen0).mono fun e w' ⟨h1, h2⟩ => ⟨h1, by rw [h2]; exact h.used _, by rw [h2]; exact Fr.setCell w ⟨b, 0, none⟩ _⟩
  · exact (cc_used b w h.cell0).mono fun e w' ⟨h1, h2⟩ => ⟨h1, by rw [h2]; exact h, by rw [h2]; exact Fr.refl _ _⟩

theorem bs_row {w : World} {B : Nat} {v : Value} {n : Nat} {xs : List Value} (h : w.ownsRow B 5 1 v n xs) (k : Nat) (hk : v.ownBlock = some k) : B ≤ k ∧ ∃ cur fr, w.heap[k]? = some (.cells cur 5 fr) := by
  obtain ⟨_, h2⟩ := h
  rcases h2 with ⟨rfl, _⟩ | ⟨g, cap, cur, rfl, hb, hg, _⟩
  · simp [Value.ownBlock] at hk
  · have : g = k := by simpa [Value.ownBlock] using hk
    subst this
    exact ⟨hb, cur, _, hg⟩

set_option maxHeartbeats 1000000 in
set_option maxRecDepth 100000 in
theorem wstr_any (B b : Nat) (bs s : Bs) (w : World) (h : Bld B b bs w) (hs1 : s.length ≤ 1000) (hlen : bs.length + s.length ≤ 210000000000000) (hB0 : B ≤ w.heap.size) :
    Calls Tryz.prog 25 #[.pointer (some ⟨b, 0, none⟩), .string ⟨s.toArray⟩] w fun e w' => e = .returned (.tuple #[.int .i64 (s.length : Int), .nilIface]) ∧ Bat B b (.pointer (some ⟨b, 0, none⟩)) (bs ++ s) w' ∧ Fr (BS B b w) w w' := by
  have hbl : Hidden ((Lib.byteCells bs).length = bs.length) := Lib.byteCells_length bs
  have hs : (⟨s.toArray⟩ : ByteArray).size = s.length := by simp [ByteArray.size]
  have kc := cc_any B b bs w h
  go_enter Tryz.func25, Tryz.ntmps25
  go_wp2_with fail
  go_at_call 42
  refine kc.mono ?_
  rintro e w1 ⟨rfl, h1, f1⟩
  obtain ⟨hB, v, hbk, hown, hne⟩ := h1
  have c0 : w1.cell? ⟨b, 0, none⟩ = some (.pointer (some ⟨b, 0, none⟩)) := cell_of_row _ _ 0 _ _ _ hbk
  have c1 : w1.cell? ⟨b, 1, none⟩ = some v := cell_of_row _ _ 1 _ _ _ hbk
  have hsz := f1.size
  have hlt := lt_of_heap hbk
  have hs2 : (⟨s.toArray⟩ : ByteArray).size = s.length := by simp [ByteArray.size]
  have hb0 : (Lib.byteCells bs).length = bs.length := hbl
  go_wp2_with (at_builtin; refine wpl_str rfl _ _ rfl B _ _ _ ⟨s.toArray⟩ rfl hown rfl ?c3 ?c4 ?c5 ?_)
  case c3 => omega
  case c4 => omega
  case c5 => omega
  intro v' w2 hown' hgrow
  have hb2 : w2.heap[b]? = some (.cells #[.pointer (some ⟨b, 0, none⟩), v] 73 (0, 0)) := by
    rw [hgrow.block b hlt (fun e => hne e.symm)]
    exact hbk
  have d0 : w2.cell? ⟨b, 0, none⟩ = some (.pointer (some ⟨b, 0, none⟩)) := cell_of_row _ _ 0 _ _ _ hb2
  have d1 : w2.cell? ⟨b, 1, none⟩ = some v := cell_of_row _ _ 1 _ _ _ hb2
  have d2 : w2.frozen? ⟨b, 1, none⟩ = false := fz_row hb2 1
  obtain ⟨ao, n', cap, rfl⟩ : ∃ ao n' cap, v' = .slice ao n' cap := by
    rcases hown'.2 with ⟨hv, _⟩ | ⟨g, cap, cur, hv, _⟩
    · exact ⟨_, _, _, hv⟩
    · exact ⟨_, _, _, hv⟩
  go_wp2
  go_ret2
  refine ⟨rfl, ?_, ?_⟩
  · refine Lib.BuilderAt.put hB hb2 (bs' := Lib.byteCells (bs ++ s)) ?_ (by decide)
    have e : Lib.byteCells (bs ++ s) = Lib.byteCells bs ++ Lib.strCells ⟨s.toArray⟩ := by simp [Lib.byteCells, Lib.strCells]
    rw [e, List.length_append, hb0]
    simpa [Lib.strCells, hs2] using hown'
  · have g1 : Fr (BS B b w) w w1 := f1.mono (fun k _ hk => Or.inl hk)
    refine (g1.trans (Fr.grown hgrow) ?_).trans (Fr.setCell _ _ _) (fun k _ hk => Or.inl hk)
    intro k hk hrow
    obtain ⟨h1, cur, fr, h2⟩ := bs_row hown k hrow.symm
    by_cases hkb : k = b
    · exact Or.inl hkb
    · exact Or.inr ⟨h1, cur, fr, by rw [← f1.block k hk hkb]; exact h2⟩
end Go.Proofs.YtmkacbpeaggcpaaGreatDoor.Cd
