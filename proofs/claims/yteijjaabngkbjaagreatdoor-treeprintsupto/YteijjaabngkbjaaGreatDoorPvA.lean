/- The document's printing (1): bytes that grow; blanks. -/
import Derived.Test.YteijjaabngkbjaaGreatDoorTrY
import Derived.Test.YteijjaabngkbjaaGreatDoorLxAll
import Derived.Test.YteijjaabngkbjaaGreatDoorPyF
namespace Go.Proofs.YteijjaabngkbjaaGreatDoor.V
open Go.RowKit Te
set_option linter.unusedSimpArgs false
set_option linter.unusedVariables false

/-- Rows of bytes from a place on. -/
def BY (B : Nat) (w : World) (k : Nat) : Prop := B ≤ k ∧ ∃ cur fr, w.heap[k]? = some (.cells cur 5 fr)
theorem by_trans {B : Nat} {w w1 w2 : World} (h : Fr (BY B w) w w1) (g : Fr (BY B w1) w1 w2) : Fr (BY B w) w w2 := by
  refine h.trans g (fun k hk hb => ?_)
  obtain ⟨h1, cur, fr, h2⟩ := hb
  by_cases hS : BY B w k
  · exact hS
  · exact ⟨h1, cur, fr, by rw [← h.block k hk hS]; exact h2⟩
theorem by_quiet {B : Nat} {w w1 : World} (h : Fr (fun _ => False) w w1) : Fr (BY B w) w w1 := h.mono (fun _ _ f => f.elim)
theorem by_then {B : Nat} {w w1 w2 : World} (h : Fr (fun _ => False) w w1) (g : Fr (BY B w1) w1 w2) : Fr (BY B w) w w2 := by_trans (by_quiet h) g
theorem by_keep {B : Nat} {w w1 : World} (h : Fr (BY B w) w w1) {k : Nat} {cs : Array Value} {t : TypeId} {fr : Nat × Nat} (hk : w.heap[k]? = some (.cells cs t fr)) (ht : t ≠ 5) : w1.heap[k]? = some (.cells cs t fr) := by
  refine h.heap hk (fun hS => ?_)
  obtain ⟨_, cur, fr', h2⟩ := hS
  rw [hk] at h2
  simp only [Option.some.injEq, Obj.cells.injEq] at h2
  exact ht h2.2.1
/-- A row of bytes of the call's own; what was there ahead of it lies as it did. -/
structure OW (w0 : World) (B : Nat) (v : Value) (acc : Bs) (w : World) : Prop where
  fr : Fr (fun _ => False) w0 w
  low : w0.heap.size ≤ B
  size : B ≤ w.heap.size
  own : w.ownsRow B 5 1 v acc.length (Lib.byteCells acc)
theorem OW.quiet {w0 w w' : World} {B : Nat} {v : Value} {acc : Bs} (h : OW w0 B v acc w) (f : Fr (fun _ => False) w w') : OW w0 B v acc w' := by
  refine ⟨h.fr.same f, h.low, Nat.le_trans h.size f.size, ?_⟩
  obtain ⟨h1, h2⟩ := h.own
  refine ⟨h1, ?_⟩
  rcases h2 with h0 | ⟨g, cap, cur, rfl, hb, hg, hr⟩
  · exact Or.inl h0
  · exact Or.inr ⟨g, cap, cur, rfl, hb, f.heap hg (fun f => f), hr⟩
theorem OW.shape {w0 w : World} {B : Nat} {v : Value} {acc : Bs} (h : OW w0 B v acc w) : ∃ ao cap, v = .slice ao acc.length cap ∧ acc.length ≤ cap ∧ cap ≤ 9223372036854775807 := by
  rcases h.own.2 with ⟨rfl, h0⟩ | ⟨g, cap, cur, rfl, hb, hg, hnc, hcm, _⟩
  · exact ⟨none, 0, by rw [h0], by omega, by decide⟩
  · exact ⟨_, cap, rfl, hnc, by unfold maxLen at hcm; omega⟩
theorem OW.nil (w : World) : OW w w.heap.size (.slice none 0 0) [] w := ⟨Fr.refl _ _, Nat.le_refl _, Nat.le_refl _, World.ownsRow_nil _ _ _ _⟩
/-- append of a text. -/
theorem wpList_by {w : World} {ops : Array Oper} {rest : List Oper} {o : Oper} {a : Act} {Q : Exit → Act → World → Prop} (hgd : o.guard = none) (sl x : Operand)
    (ho : o.op = .call { callee := .builtin .append, args := #[sl, x], argTypes := #[46, 9] }) (w0 : World) (B : Nat) (v : Value) (acc s T : Bs) (hs : a.eval sl = v) (hx : a.eval x = .string ⟨s.toArray⟩)
    (hw : OW w0 B v acc w) (hT : Hidden (acc ++ s = T)) (hl : T.length ≤ 140737488355328)
    (h : ∀ ao cap w', T.length ≤ cap → cap ≤ 9223372036854775807 → OW w0 B (.slice ao T.length cap) T w' → Fr (BY B w) w w' → wpList Tryz.prog ops Q rest (a.put o.dst (.slice ao T.length cap)) w') : wpList Tryz.prog ops Q (o :: rest) a w := by
  obtain ⟨i0, hi, hz⟩ := Option.map_eq_some_iff.1 info_byte
  simp only [Prod.mk.injEq] at hz
  have hT' : acc ++ s = T := hT
  have hs2 : (⟨s.toArray⟩ : ByteArray).size = s.length := by simp [ByteArray.size]
  have hle : acc.length + s.length = T.length := by rw [← hT', List.length_append]
  refine Lib.wpList_append_own_string w hgd sl x 46 9 ho B 5 i0 Tryz.underlying46 Tryz.underlying9 hi hz.1 hz.2.1 hz.2.2 v acc.length (Lib.byteCells acc) hs hw.own ⟨s.toArray⟩ hx (by rw [hs2]; unfold maxLen; omega) (by rw [hs2]; omega) hw.size ?_
  intro v' w' hown hgrow _
  have e : Lib.byteCells T = Lib.byteCells acc ++ Lib.strCells ⟨s.toArray⟩ := by rw [← hT']; simp [Lib.byteCells, Lib.strCells]
  have hown2 : w'.ownsRow B 5 1 v' T.length (Lib.byteCells T) := by rw [e, ← hle]; rw [hs2] at hown; exact hown
  have hby : Fr (BY B w) w w' := (Fr.grown hgrow).mono (fun k _ hk => by
    obtain ⟨h1, cur, fr, h2⟩ := bs_row hw.own k hk.symm
    exact ⟨h1, cur, fr, h2⟩)
  have how : OW w0 B v' T w' := ⟨by
    refine hw.fr.trans hby (fun k hk hS => ?_)
    have := hS.1
    have := hw.low
    omega, hw.low, Nat.le_trans hw.size hby.size, hown2⟩
  obtain ⟨ao, cap, rfl, h1, h2⟩ := how.shape
  exact h ao cap w' h1 h2 how hby
/-- The same, as a step of a region whose order is drawn. -/
theorem step_by {w : World} {ops : Array Oper} {o : Oper} {a : Act} {K : Act → World → Prop} {Q : Exit → Act → World → Prop} {E : Prop} (hgd : o.guard = none) (sl x : Operand)
    (ho : o.op = .call { callee := .builtin .append, args := #[sl, x], argTypes := #[46, 9] }) (w0 : World) (B : Nat) (v : Value) (acc s T : Bs) (hs : a.eval sl = v) (hx : a.eval x = .string ⟨s.toArray⟩)
    (hw : OW w0 B v acc w) (hT : Hidden (acc ++ s = T)) (hl : T.length ≤ 140737488355328)
    (h : ∀ ao cap w', T.length ≤ cap → cap ≤ 9223372036854775807 → OW w0 B (.slice ao T.length cap) T w' → Fr (BY B w) w w' → K (a.put o.dst (.slice ao T.length cap)) w') : if Region.wanted o (yielded ops a.tmps) = true then Oper.wp Tryz.prog o a w K Q else E := by
  have hwt : Region.wanted o (yielded ops a.tmps) = true := by simp [Region.wanted, hgd]
  rw [if_pos hwt]
  obtain ⟨i0, hi, hz⟩ := Option.map_eq_some_iff.1 info_byte
  simp only [Prod.mk.injEq] at hz
  have hT' : acc ++ s = T := hT
  have hs2 : (⟨s.toArray⟩ : ByteArray).size = s.length := by simp [ByteArray.size]
  have hle : acc.length + s.length = T.length := by rw [← hT', List.length_append]
  obtain ⟨v', w', hr, hown, hgrow, _⟩ := Lib.run_append_own_string (P := Tryz.prog) w B 46 9 o.type 5 i0 Tryz.underlying46 Tryz.underlying9 hi hz.1 hz.2.1 hz.2.2 v acc.length (Lib.byteCells acc) hw.own ⟨s.toArray⟩ (by rw [hs2]; unfold maxLen; omega) (by rw [hs2]; omega) hw.size
  have e : Lib.byteCells T = Lib.byteCells acc ++ Lib.strCells ⟨s.toArray⟩ := by rw [← hT']; simp [Lib.byteCells, Lib.strCells]
  have hown2 : w'.ownsRow B 5 1 v' T.length (Lib.byteCells T) := by rw [e, ← hle]; rw [hs2] at hown; exact hown
  have hby : Fr (BY B w) w w' := (Fr.grown hgrow).mono (fun k _ hk => by
    obtain ⟨h1, cur, fr, h2⟩ := bs_row hw.own k hk.symm
    exact ⟨h1, cur, fr, h2⟩)
  have how : OW w0 B v' T w' := ⟨by
    refine hw.fr.trans hby (fun k hk hS => ?_)
    have := hS.1
    have := hw.low
    omega, hw.low, Nat.le_trans hw.size hby.size, hown2⟩
  obtain ⟨ao, cap, rfl, h1, h2⟩ := how.shape
  have hk := h ao cap w' h1 h2 how hby
  unfold Oper.wp execOp
  simp only [ho, resolve, invoke, builtin, Sem.run_bind, Sem.run_pure, Result.andThen_ok, List.map_toArray, List.map_cons, List.map_nil, hs, hx, hr]
  exact hk
/-- What there is, where a text would be; as much of it as is looked at. -/
def Zo (T Z : Bs) : Prop := (T.length ≤ 4096 → Z = T) ∧ (4096 < T.length → 4096 < Z.length) ∧ Z.length ≤ T.length
theorem Zo.refl (T : Bs) : Zo T T := ⟨fun _ => rfl, fun h => h, Nat.le_refl _⟩
theorem Zo.app {T Z : Bs} (h : Zo T Z) (s : Bs) : Zo (T ++ s) (Z ++ s) := by
  obtain ⟨h1, h2, h3⟩ := h
  refine ⟨fun hl => ?_, fun hl => ?_, ?_⟩
  · rw [List.length_append] at hl
    rw [h1 (by omega)]
  · rw [List.length_append] at *
    by_cases hc : T.length ≤ 4096
    · rw [h1 hc]; exact hl
    · have := h2 (by omega)
      omega
  · rw [List.length_append, List.length_append]; omega
theorem Zo.stop {T Z : Bs} (h : Zo T Z) (hz : 4096 < Z.length) (s : Bs) : Zo (T ++ s) Z := by
  obtain ⟨h1, h2, h3⟩ := h
  refine ⟨fun hl => ?_, fun _ => hz, by rw [List.length_append]; omega⟩
  rw [List.length_append] at hl
  have := h1 (by omega)
  rw [this] at hz
  omega
set_option maxRecDepth 20000 in
set_option maxHeartbeats 1000000 in
theorem pad_any (n : Nat) (hn : n ≤ 1000000) (z : Int) (hz : z = (n : Int)) (w : World) : Calls Tryz.prog 44 #[ci z] w fun e w' => e = .returned (ct (Te.pad n)) ∧ w' = w := by
  subst hz
  go_enter Tryz.func44, Tryz.ntmps44
  go_wp2_with fail
  go_loopg [3, 4] n (fun g sv iv wr => ∃ (i : Nat) (P : Bs), sv = ct P ∧ iv = ci (i : Int) ∧ i ≤ n ∧ P = Te.pad i ∧ g = n - i ∧ wr = w)
  case atStart => exact ⟨0, [], rfl, rfl, by omega, rfl, rfl, rfl⟩
  case round =>
    obtain ⟨i, P, rfl, rfl, hi, hP, hgk, rfl⟩ := hrel
    have hgkH : Hidden (gk = n - i) := hgk
    have hPH : Hidden (P = Te.pad i) := hP
    clear hgk hP
    have hPl : P.length = 2 * i := by rw [(show P = Te.pad i from hPH), Pz.pad_ln]
    by_cases hil : i < n
    · have hc := fun w => X.catv P [32, 32] (P ++ [32, 32]) rfl (by simp; omega) w
      obtain ⟨P2, hP2⟩ : ∃ P2, P ++ [32, 32] = P2 := ⟨_, rfl⟩
      rw [hP2] at hc
      have hP2H : Hidden (P ++ [32, 32] = P2) := hP2
      clear hP2 hPl
      go_wp2_with fail
      go_roundg (n - (i + 1))
      case measure =>
        have : gk = n - i := hgkH
        omega
      case rel =>
        refine ⟨i + 1, P2, rfl, by go_num, by omega, ?_, rfl, rfl⟩
        rw [← (show P ++ [32, 32] = P2 from hP2H), (show P = Te.pad i from hPH)]
        unfold Te.pad
        rw [List.replicate_succ', List.flatten_append]
        rfl
    · obtain rfl : i = n := by omega
      clear hPl
      go_wp2_with fail
      go_ret
      refine ⟨?_, rfl⟩
      rw [← (show P = Te.pad i from hPH)]
      rfl
end Go.Proofs.YteijjaabngkbjaaGreatDoor.V
