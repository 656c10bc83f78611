/- How long the text of an instruction is; append of a short text to a row of bytes of the call's own, to the last byte that there is room for. -/
import Derived.Test.YtmkacbpeaggcpaaGreatDoorCdUn
import Derived.Test.YtmkacbpeaggcpaaGreatDoorCdFz
import Derived.Lib.AppendStr
import Derived.Deep.DeepAppendWide
namespace Go.Proofs.YtmkacbpeaggcpaaGreatDoor.Cd
open Go.RowKit Ty
set_option linter.unusedSimpArgs false
set_option linter.unusedVariables false

theorem dec_le : ∀ (k n : Nat), n < 10 ^ (k + 1) → (Lib.decDigits n).length ≤ k + 1
  | 0, n, h => by rw [Lib.decDigits, dif_pos (by omega)]; simp
  | k + 1, n, h => by
    rw [Lib.decDigits]
    split
    · simp
    · have := dec_le k (n / 10) (by rw [Nat.pow_succ] at h; omega)
      simp
      omega
theorem itoa_20 (v : Int) (hv : Ty.I64 v) : (Lib.itoa v).length ≤ 20 := by
  unfold Ty.I64 at hv
  have h2 : (9223372036854775808 : Nat) < 10 ^ (18 + 1) := by decide
  have k1 := dec_le 18 v.natAbs (by omega)
  have k2 := dec_le 18 v.toNat (by omega)
  unfold Lib.itoa
  split
  · simp; omega
  · omega
theorem itoa_13 (k : Nat) (hk : k ≤ 4398046510976) : (Lib.itoa (k : Int)).length ≤ 13 := by
  have h2 : (4398046510976 : Nat) < 10 ^ (12 + 1) := by decide
  have k2 := dec_le 12 (k : Int).toNat (by omega)
  unfold Lib.itoa
  rw [if_neg (by omega)]
  exact k2
theorem exp_5 (e : Int) (h0 : -1200 ≤ e) (h1 : e ≤ 1200) : (F.expL e).length ≤ 5 := by
  have h2 : (1201 : Nat) < 10 ^ (3 + 1) := by decide
  have k1 := dec_le 3 e.natAbs (by omega)
  have k2 := dec_le 3 e.toNat (by omega)
  unfold F.expL
  split <;> simp <;> omega
theorem size_23 (c : Int) (m : Nat) (e : Int) (hm : m < 9007199254740992) (h0 : -1074 ≤ e) (h1 : e ≤ 971) : (F.sizeL c m e).length ≤ 23 := by
  unfold F.sizeL
  have h2 := F.fracL_len (F.nrm m % 4503599627370496)
  have h4 : F.shf m ≤ 53 := by unfold F.shf; omega
  have h3 := exp_5 (e - F.shf m + 52) (by omega) (by omega)
  repeat' split
  all_goals simp
  omega
theorem ftext_24 (b : Int) (hb : U64 b) : (F.textS b).length ≤ 24 := by
  have hp := F.parts_bounds b ⟨hb.1, hb.2⟩
  have := size_23 (F.Fl.classS b) (F.partM b).toNat (F.partE b) hp.1 hp.2.1 hp.2.2
  unfold F.textS
  rw [List.length_append]
  split <;> simp <;> omega
theorem show_24 (t b : Int) (hb : U64 b) : (showS t b).length ≤ 24 := by
  unfold showS
  split
  · exact Nat.le_trans (itoa_20 _ (wrap_I b)) (by omega)
  · split
    · exact ftext_24 b hb
    · split
      · unfold truthS; split <;> simp
      · simp
theorem oper_24 (i : In) (hb : U64 i.b) (hn : Ty.I64 i.n) : (operS i).length ≤ 24 := by
  unfold operS
  split
  · exact show_24 i.t i.b hb
  split
  · unfold unW; repeat' split
    all_goals simp
  split
  · unfold binW
    by_cases c1 : i.n = 1
    · rw [if_pos c1]; simp
    rw [if_neg c1]
    repeat' split
    all_goals simp
  · have := itoa_20 i.n hn; omega
theorem text_31 {i : In} (h : OkIn i) : (textS i).length ≤ 31 := by
  have h1 := oper_24 i h.b h.n
  have h2 := nmS_len i.op
  unfold textS
  split
  · split
    · omega
    · simp only [List.length_append, List.length_cons, List.length_nil]; omega
  · simp
theorem info_byte : (Tryz.prog.info? 5).map (fun i => (i.zero, i.size, i.bytes)) = some (some (.int .u8 0), 1, 1) := by kernel_rfl
theorem app_str {w : World} (B : Nat) (ty : TypeId) (v : Value) (n : Nat) (xs : List Value) (s : ByteArray) (hown : w.ownsRow B 5 1 v n xs) (hs : s.size ≤ 1000) (hm : n + s.size ≤ 210000000000000) (hB : B ≤ w.heap.size) :
    ∃ v' w', (Builtin.append_ #[25, 9] ty #[v, .string s]).run Tryz.prog w = .ok v' w' ∧ w'.ownsRow B 5 1 v' (n + s.size) (xs ++ Lib.strCells s) ∧ w.grownBy w' v.ownBlock := by
  obtain ⟨i, hi, hz⟩ := Option.map_eq_some_iff.1 info_byte
  simp only [Prod.mk.injEq] at hz
  by_cases hsm : n + s.size ≤ 140737488355328
  · obtain ⟨v', w', h1, h2, h3, _⟩ := Lib.run_append_own_string (P := Tryz.prog) w B 25 9 ty 5 i Tryz.underlying25 Tryz.underlying9 hi hz.1 hz.2.1 hz.2.2 v n xs hown s (by unfold maxLen; omega) hsm hB
    exact ⟨v', w', h1, h2, h3⟩
  · have hxl : xs.length = n := by simpa using hown.1
    have hlen : (xs ++ Lib.strCells s).length = (n + s.size) * 1 := by rw [List.length_append, hxl, Lib.strCells_length, Nat.mul_one]
    rcases hown.2 with ⟨_, h0⟩ | ⟨g, cap, cur, rfl, hbg, hg, hnc, hcm, hcs, htake⟩
    · omega
    · by_cases hroom : n + s.size ≤ cap
      · have hcs' : cur.size = cap := by simpa using hcs
        have hr := Lib.run_append_room_string (P := Tryz.prog) w 25 9 ty 5 i Tryz.underlying25 Tryz.underlying9 hi hz.2.1 g n cap cur hg s hroom (by omega)
        have ht' : cur.toList.take n = xs := by simpa using htake
        have hsz : (cur.toList.take n ++ Lib.strCells s ++ cur.toList.drop (n + s.size)).toArray.size = cap * 1 := by
          simp only [List.size_toArray, List.length_append, List.length_take, List.length_drop, Array.length_toList, Lib.strCells_length]
          omega
        have hpre : (cur.toList.take n ++ Lib.strCells s ++ cur.toList.drop (n + s.size)).toArray.toList.take ((n + s.size) * 1) = xs ++ Lib.strCells s := by
          rw [ht', ← hlen]
          exact List.take_left
        exact ⟨_, _, hr, ⟨hlen, Or.inr ⟨g, cap, _, rfl, hbg, setRow_heap w g cur _ _ _ hg, hroom, hcm, hsz, hpre⟩⟩, ⟨rfl, rfl, rfl, by simp, fun k _ hk => setRow_other w g k _ (fun e => hk (by simp [Value.ownBlock, e]))⟩⟩
      · have holds : ∀ j u, xs[j]? = some u → w.cell? ((⟨g, 0, none⟩ : Addr).add j) = some u := hown.cells (g := g) rfl
        have hr := Lib.run_append_grow_string (P := Tryz.prog) w 25 9 ty 5 i (.int .u8 0) Tryz.underlying25 Tryz.underlying9 hi hz.1 ⟨g, 0, none⟩ n cap xs (by rw [hz.2.1]; simpa using hxl) holds s (by omega) (by omega) (by rw [hz.2.2]; exact growslice_fits_wide (by omega) (by omega))
        have hge := grownCap_ge w (n + s.size) cap 5
        have hcm2 : grownCap w (n + s.size) cap 5 ≤ maxLen := grownCap_le_maxLen w (n + s.size) cap 5 (by unfold maxLen; omega)
        refine ⟨_, _, hr, ⟨hlen, Or.inr ⟨w.heap.size, _, _, rfl, hB, heap_alloc_new w.drew _, hge, hcm2, ?_, ?_⟩⟩, ⟨rfl, rfl, rfl, by simp, fun k hk _ => alloc_old w.drew _ k hk⟩⟩
        · have hz1 : (Value.int IntKind.u8 0).cells.size = 1 := rfl
          simp only [Array.size_append, List.size_toArray, size_zeroCells, hz1, hxl, Lib.strCells_length]
          omega
        · simp only [Array.toList_append, List.append_assoc]
          rw [← List.append_assoc, ← hlen]
          exact List.take_left
theorem wpl_str {w : World} {ops : Array Oper} {rest : List Oper} {o : Oper} {a : Act} {Q : Exit → Act → World → Prop} (hgd : o.guard = none) (sl x : Operand)
    (ho : o.op = .call { callee := .builtin .append, args := #[sl, x], argTypes := #[25, 9] }) (B : Nat) (v : Value) (n : Nat) (xs : List Value) (s : ByteArray)
    (hs : a.eval sl = v) (hown : w.ownsRow B 5 1 v n xs) (hx : a.eval x = .string s) (h1 : s.size ≤ 1000) (hm : n + s.size ≤ 210000000000000) (hB : B ≤ w.heap.size)
    (h : ∀ v' w', w'.ownsRow B 5 1 v' (n + s.size) (xs ++ Lib.strCells s) → w.grownBy w' v.ownBlock → wpList Tryz.prog ops Q rest (a.put o.dst v') w') : wpList Tryz.prog ops Q (o :: rest) a w := by
  refine wpList_plain hgd fun K hK => ?_
  obtain ⟨v', w', hr, h2, h3⟩ := app_str (w := w) B o.type v n xs s hown h1 hm hB
  unfold Oper.wp execOp
  simp only [ho, resolve, invoke, builtin, Sem.run_bind, Sem.run_pure, Result.andThen_ok, List.map_toArray, List.map_cons, List.map_nil, hs, hx, hr]
  exact hK _ _ (h v' w' h2 h3)
end Go.Proofs.YtmkacbpeaggcpaaGreatDoor.Cd
