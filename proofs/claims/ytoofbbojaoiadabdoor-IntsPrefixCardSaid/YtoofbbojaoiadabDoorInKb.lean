/- What was there is as it was: worlds behind calls that make memory; the library's table of powers. -/
import Derived.Test.YtoofbbojaoiadabDoorInW2
import Derived.Laws.RangeAny
import Derived.Lib.IndexBytes
import Derived.Deep.DeepCutAuto
namespace Go.Proofs.YtoofbbojaoiadabDoor
open Go.RowKit
set_option linter.unusedSimpArgs false
set_option linter.unusedVariables false

/-- What was there is as it was. -/
def Kb (w w' : World) : Prop := w.keptBut w' (fun _ => False) ∧ w.heap.size ≤ w'.heap.size
theorem Kb.refl (w : World) : Kb w w := ⟨World.keptBut_refl _ _, Nat.le_refl _⟩
theorem Kb.trans {a b c : World} (h : Kb a b) (g : Kb b c) : Kb a c := ⟨World.keptBut_trans h.1 g.1, Nat.le_trans h.2 g.2⟩
theorem Kb.of_grown {a b : World} (h : Grown a b) : Kb a b := ⟨h.1, h.2.2⟩
theorem Kb.of_below {a b : World} (h : Below a.heap.size a b) : Kb a b := ⟨h.frame _, h.size⟩
theorem Kb.drew (w : World) : Kb w w.drew := Kb.of_grown (Grown.refl w).drew

/-- The library's table of powers of ten reads as laid. -/
def Tab (w : World) : Prop := Lib.TabIs Tryd.prog w "internal/strconv.uint64pow10" .u64 Lib.pow10Tab

theorem kb_heap {w w' : World} (h : Kb w w') {g : Nat} {cs : Array Value} {t : TypeId} {fr : Nat × Nat} (hg : g < w.heap.size) (hc : w.heap[g]? = some (.cells cs t fr)) : ∃ t' fr', w'.heap[g]? = some (.cells cs t' fr') := by
  obtain ⟨⟨_, _, hk⟩, _⟩ := h
  have := hk g hg
  rw [hc] at this
  cases e2 : w'.heap[g]? with
  | none => rw [e2] at this; simp at this
  | some o' =>
    rw [e2] at this
    cases o' with
    | cells c' t' fr' =>
      simp only at this
      have e : c' = cs := by
        apply Array.ext_getElem?
        intro j
        exact this.2.2.2 j (fun h => h)
      exact ⟨t', fr', by rw [e]⟩
    | _ => simp at this

theorem tab_kb {w w' : World} (h : Tab w) (hk : Kb w w') : Tab w' := by
  unfold Tab Lib.TabIs World.var? at h ⊢
  cases hg : Tryd.prog.globalNamed "internal/strconv.uint64pow10" with
  | none => rw [hg] at h; cases h
  | some g =>
    rw [hg] at h
    simp only [Option.bind_some] at h ⊢
    have hlt : g < w.heap.size := by
      rcases Nat.lt_or_ge g w.heap.size with h' | h'
      · exact h'
      · rw [Array.getElem?_eq_none h'] at h; cases h
    cases e1 : w.heap[g]? with
    | none => rw [e1] at h; cases h
    | some o =>
      rw [e1] at h
      cases o with
      | cells cs t fr =>
        obtain ⟨t', fr', e2⟩ := kb_heap hk hlt e1
        rw [e2]
        exact h
      | _ => cases h
theorem kb_grow (w : World) (k : Nat) (os : Array Obj) : Kb w (Sort.grow (w.drewN k) os) := by
  refine ⟨⟨rfl, rfl, fun i hi => ?_⟩, by simp [Sort.grow, World.drewN]⟩
  have e : (Sort.grow (w.drewN k) os).heap[i]? = w.heap[i]? := by
    show (w.heap ++ os)[i]? = _
    rw [Array.getElem?_append_left hi]
  rw [e]
  cases w.heap[i]? with
  | none => rfl
  | some o => cases o <;> simp
theorem kb_iter (w : World) (s : ByteArray) (pos : Nat) : Kb w (w.iter s pos) := by
  refine ⟨⟨rfl, rfl, fun i hi => ?_⟩, by show w.heap.size ≤ (w.heap.push _).size; rw [Array.size_push]; omega⟩
  have e : (w.iter s pos).heap[i]? = w.heap[i]? := by
    show (w.heap.push _)[i]? = _
    rw [Array.getElem?_push_lt hi]
    exact (Array.getElem?_eq_getElem hi).symm
  rw [e]
  cases w.heap[i]? with
  | none => rfl
  | some o => cases o <;> simp
theorem next_digit (w : World) (q : List UInt8) (j : Nat) (c : UInt8) (hc : q[j]? = some c) (h : c.toNat < 128) (ty : TypeId) :
    (Instr.next (.pointer (some ⟨w.heap.size, 0, none⟩)) true ty).run Tryd.prog (w.iter ⟨q.toArray⟩ j) = .ok (.tuple #[.bool true, .int .i64 (j : Int), .int .i32 (c.toNat : Int)]) (w.iter ⟨q.toArray⟩ (j + 1)) := by
  obtain ⟨hk, hcc⟩ := List.getElem?_eq_some_iff.1 hc
  have hs : j < (⟨q.toArray⟩ : ByteArray).size := by simpa [ByteArray.size] using hk
  have e : (⟨q.toArray⟩ : ByteArray)[j]'hs = c := by
    show q.toArray[j] = c
    simpa using hcc
  have := run_next_ascii (P := Tryd.prog) w ⟨q.toArray⟩ j ty hs (by rw [e]; exact h)
  rw [e] at this
  exact this
theorem next_high (w : World) (q : List UInt8) (j : Nat) (c : UInt8) (hc : q[j]? = some c) (h : 128 ≤ c.toNat) :
    ∃ r p : Nat, 128 ≤ r ∧ r ≤ 2147483647 ∧ ∀ ty, (Instr.next (.pointer (some ⟨w.heap.size, 0, none⟩)) true ty).run Tryd.prog (w.iter ⟨q.toArray⟩ j) = .ok (.tuple #[.bool true, .int .i64 (j : Int), .int .i32 (r : Int)]) (w.iter ⟨q.toArray⟩ p) := by
  obtain ⟨hk, hcc⟩ := List.getElem?_eq_some_iff.1 hc
  have hs : j < (⟨q.toArray⟩ : ByteArray).size := by simpa [ByteArray.size] using hk
  have e : (⟨q.toArray⟩ : ByteArray)[j]'hs = c := by
    show q.toArray[j] = c
    simpa using hcc
  exact ⟨_, _, (decode_high _ j hs (by rw [e]; exact h)).1, decode_le _ _, fun ty => run_next_any (P := Tryd.prog) w ⟨q.toArray⟩ j ty hs⟩
theorem next_end (w : World) (q : List UInt8) (ty : TypeId) :
    (Instr.next (.pointer (some ⟨w.heap.size, 0, none⟩)) true ty).run Tryd.prog (w.iter ⟨q.toArray⟩ q.length) = .ok (.tuple #[.bool false]) (w.iter ⟨q.toArray⟩ q.length) :=
  run_next_end (P := Tryd.prog) w ⟨q.toArray⟩ q.length ty (by simp [ByteArray.size])

theorem str_len (t : List UInt8) : ((⟨t.toArray⟩ : ByteArray).size : Int) = (t.length : Int) := by simp [ByteArray.size]
theorem str_index (l : List UInt8) (k : Nat) (c : UInt8) (h : l[k]? = some c) (w : World) :
    (Instr.index 9 (.string ⟨l.toArray⟩) (.int .i64 (k : Int))).run Tryd.prog w = .ok (.int .u8 (c.toNat : Int)) w := by
  obtain ⟨hk, hc⟩ := List.getElem?_eq_some_iff.1 h
  have hs : k < (⟨l.toArray⟩ : ByteArray).size := by simpa [ByteArray.size] using hk
  rw [run_index_string _ _ _ _ _ Tryd.underlying9, dif_pos ⟨by omega, by omega⟩]
  have e : (⟨l.toArray⟩ : ByteArray)[k]'hs = c := by
    show l.toArray[k] = c
    simpa using hc
  simp only [Int.toNat_natCast]
  rw [e]
theorem slice_from (l : List UInt8) (i : Nat) (h : i ≤ l.length) (hl : l.length ≤ 9223372036854775807) (w : World) :
    (Instr.slice 9 (.string ⟨l.toArray⟩) (some (.int .i64 (i : Int))) none none).run Tryd.prog w = .ok (.string ⟨(l.drop i).toArray⟩) w := by
  have hs : (⟨l.toArray⟩ : ByteArray).size = l.length := by simp [ByteArray.size]
  rw [run_slice_string_from_if _ _ _ _ _ Tryd.underlying9]
  have e : (⟨l.toArray⟩ : ByteArray).extract i (⟨l.toArray⟩ : ByteArray).size = ⟨(l.drop i).toArray⟩ := by
    apply ByteArray.ext
    apply Array.ext'
    rw [Lib.extract_to_end]
  rw [if_pos (by rw [hs]; omega), Int.toNat_natCast, e]
theorem cutp_any (l p t : List UInt8) (f : Bool) (h1 : Lib.trimPrefix l p = t) (h2 : Lib.hasPrefix l p = f) (w : World) :
    Calls Tryd.prog 21 #[.string ⟨l.toArray⟩, .string ⟨p.toArray⟩] w fun e w' => e = .returned (.tuple #[.string ⟨t.toArray⟩, .bool f]) ∧ w = w' := by
  subst h1; subst h2
  refine (Tryd.strings_CutPrefix ⟨l.toArray⟩ ⟨p.toArray⟩ w).mono ?_
  rintro e w' ⟨rfl, rfl⟩
  exact ⟨rfl, rfl⟩
theorem dec_any (v : Int) (hv : I64 v) (w : World) (ht : Tab w) :
    Calls Tryd.prog 14 #[.int .i64 v] w fun r w' => r = .returned (.string ⟨(Lib.itoa v).toArray⟩) ∧ Kb w w' := by
  have hi := Tryd.strconv_FormatInt_10 v hv.1 hv.2 w ht
  generalize Lib.itoa v = l at *
  go_enter Tryd.func14, Tryd.ntmps14
  go_wp2_with (go_at_call 24; refine hi.mono ?_; rintro e w' ⟨rfl, k, os, rfl⟩)
  go_ret
  exact ⟨rfl, kb_grow _ _ _⟩
end Go.Proofs.YtoofbbojaoiadabDoor
