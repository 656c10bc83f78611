/- What a site tells of places and functions: stackOf, place, told. -/
import Derived.Test.YtnmcehpdiopaiaaGreatDoorCdLmAll
import Derived.Test.YtnmcehpdiopaiaaGreatDoorCdMkAll
namespace Go.Proofs.YtnmcehpdiopaiaaGreatDoor.Cd
open Go.RowKit Ty
set_option linter.unusedSimpArgs false
set_option linter.unusedVariables false

/-- A row of signatures. -/
def SgL (w : World) (ao : Option Addr) (cap : Nat) (l : List Sg) : Prop :=
  l.length ≤ cap ∧ cap ≤ maxLen ∧ (ao = none → cap = 0) ∧ (l = [] ∨ ∃ b off, ao = some ⟨b, off, none⟩ ∧ ∀ (i : Nat) (s : Sg), l[i]? = some s → ∃ ap cp, InL w ap cp s.ps ∧ w.cell? ⟨b, off + i * 2, none⟩ = some (.slice ap s.ps.length cp) ∧ w.cell? ⟨b, off + i * 2 + 1, none⟩ = some (ci s.res))
theorem SgL.keep {w w' : World} {ao : Option Addr} {cap : Nat} {l : List Sg} (h : SgL w ao cap l) (hf : Fr (fun _ => False) w w') : SgL w' ao cap l := by
  obtain ⟨h1, h2, h3, h4⟩ := h
  refine ⟨h1, h2, h3, ?_⟩
  rcases h4 with h4 | ⟨b, off, rfl, h4⟩
  · exact Or.inl h4
  · refine Or.inr ⟨b, off, rfl, fun i s hs => ?_⟩
    obtain ⟨ap, cp, a1, a2, a3⟩ := h4 i s hs
    exact ⟨ap, cp, a1.keep hf, hf.cellN a2, hf.cellN a3⟩
theorem made_z (n : Nat) : madeCells (Value.int .u8 0).cells n = (List.replicate n (Value.int .u8 0)).toArray := by
  apply Array.ext_getElem?
  intro j
  unfold madeCells
  rw [Array.getElem?_map]
  by_cases hj : j < n
  · have : (Array.range n)[j]? = some j := by simp [hj]
    rw [this]
    simp [hj]
    show (#[Value.int .u8 0] : Array Value)[j % 1]! = _
    rw [Nat.mod_one]
    rfl
  · have : (Array.range n)[j]? = none := by simp; omega
    rw [this]
    simp
    omega
theorem make_z (w : World) (n : Nat) (hn : n ≤ 17592186044416) : (Instr.makeSlice 65 (.int .i64 (n : Int)) (.int .i64 (n : Int))).run Tryz.prog w = .ok (.slice (some ⟨w.heap.size, 0, none⟩) n n) (w.alloc (.cells (List.replicate n (Value.int .u8 0)).toArray 5 (0, 0))) := by
  cases hi : Tryz.prog.info? 5 with
  | none => have := info_u8; rw [hi] at this; cases this
  | some i =>
    have hh := info_u8
    rw [hi] at hh
    simp only [Option.map_some, Option.some.injEq, Prod.mk.injEq] at hh
    have := run_make (P := Tryz.prog) w 65 5 i _ Tryz.underlying65 hi hh.1 .i64 .i64 n n (by omega) (by omega) (by rw [hh.2.2]; omega) (by omega)
    rw [this, hh.2.1, Int.toNat_natCast, Nat.mul_one, made_z]
theorem u8_val {t : Int} (h : valued t = true) : t % 256 = t ∧ ((encB t).toNat : Int) = t := by
  rcases (valued_iff t).1 h with rfl | rfl | rfl <;> exact ⟨by decide, rfl⟩
theorem put_b {l : List Int} {j n : Nat} {t : Int} (hn : l.length = n) (ht : l[j]? = some t) (hv : valued t = true) :
    (byC (encSt (l.take j)) ++ List.replicate (n - j) (Value.int .u8 0)).toArray.setIfInBounds j (.int .u8 t) = (byC (encSt (l.take (j + 1))) ++ List.replicate (n - (j + 1)) (Value.int .u8 0)).toArray := by
  have hj : j < n := by rw [← hn]; exact (List.getElem?_eq_some_iff.1 ht).1
  have hlen : (byC (encSt (l.take j))).length = j := by simp [byC, encSt]; omega
  rw [List.setIfInBounds_toArray]
  congr 1
  rw [List.set_append_right _ _ (by omega), hlen, Nat.sub_self]
  obtain ⟨m, hm⟩ : ∃ m, n - j = m + 1 := ⟨n - j - 1, by omega⟩
  rw [hm, show n - (j + 1) = m by omega, List.replicate_succ, List.set_cons_zero, List.take_add_one, ht]
  simp [encSt, byC, (u8_val hv).2]
set_option maxRecDepth 20000 in
set_option maxHeartbeats 2000000 in
theorem stackOf_any (ao : Option Addr) (n cap : Nat) (l : List Int) (hn : l.length = n) (hv : ∀ t ∈ l, valued t = true) (hb : n ≤ 17592186044416) (w : World) (h : InL w ao cap l) :
    Calls Tryz.prog 102 #[.slice ao n cap] w fun e w' => e = .returned (ct (encSt l)) ∧ Fr (fun _ => False) w w' := by
  have hH : Hidden (InL w ao cap l) := h
  have hnH : Hidden (l.length = n) := hn
  have hvH : Hidden (∀ t ∈ l, valued t = true) := hv
  have hcap : n ≤ cap := by rw [← hn]; exact h.1
  have hcm : cap ≤ 9223372036854775807 := by have := h.2.1; simpa [maxLen] using this
  have mk := fun W => make_z W n hb
  obtain ⟨G, hG⟩ : ∃ G, G = w.heap.size := ⟨_, rfl⟩
  have hGH : Hidden (G = w.heap.size) := hG
  clear h hn hv
  go_enter Tryz.func102, Tryz.ntmps102
  go_wp2_with fail
  rw [← hG]
  clear hG
  go_loopg [4, 5, 11] n (fun k _ _ iv wr => ∃ j : Nat, iv = .int .i64 (j : Int) ∧ j ≤ n ∧ k = n - j ∧ wr.heap[G]? = some (.cells (byC (encSt (l.take j)) ++ List.replicate (n - j) (Value.int .u8 0)).toArray 5 (0, 0)) ∧ Fr (fun _ => False) w wr)
  case atStart => exact ⟨0, rfl, by omega, rfl, by rw [(show G = _ from hGH)]; simpa [encSt, byC] using alloc_new w (.cells (List.replicate n (Value.int .u8 0)).toArray 5 (0, 0)), Fr.alloc _ _ _⟩
  case round =>
    obtain ⟨j, rfl, hj, hk, hg, hf⟩ := hrel
    have hkH : Hidden (gk = n - j) := hk
    have hgH : Hidden _ := hg
    have hfH : Hidden (Fr (fun _ => False) w wr) := hf
    clear hk
    by_cases hjl : j < n
    · obtain ⟨x, hx⟩ : ∃ x, l[j]? = some x := ⟨_, List.getElem?_eq_getElem (by have : l.length = n := hnH; omega)⟩
      obtain ⟨b, off, rfl, cells⟩ := (show InL w ao cap l from hH).2.2.2.resolve_left (by rintro rfl; simp at hx)
      have c0 := hf.cellN (cells j x hx)
      have hxv := (show ∀ t ∈ l, valued t = true from hvH) x (List.mem_of_getElem? hx)
      have hm := (u8_val hxv).1
      have hlen : (byC (encSt (l.take j))).length = j := by have : l.length = n := hnH; simp [byC, encSt]; omega
      have hcell : wr.cell? ⟨G, j, none⟩ = some (.int .u8 0) := by
        rw [cell_of_row _ _ j _ _ _ hg]
        simp only [List.getElem?_toArray]
        rw [List.getElem?_append_right (by omega), hlen, Nat.sub_self, List.getElem?_replicate]
        rw [if_pos (by omega)]
      have hfz : wr.frozen? ⟨G, j, none⟩ = false := by simp [World.frozen?, hg]
      have hput : Hidden _ := put_b (show l.length = n from hnH) hx hxv
      clear hx cells hxv hlen hg hf
      go_wp2_with fail
      go_roundg (n - (j + 1))
      case measure => have : gk = n - j := hkH; omega
      case rel =>
        refine ⟨j + 1, by go_num, by omega, rfl, ?_, (show Fr _ w wr from hfH).over (Fr.setCell wr ⟨G, j, none⟩ _) (fun k e => by have e : k = G := e; have h1 : G = w.heap.size := hGH; omega)⟩
        rw [← (show _ = _ from hput)]
        exact heap_setCell_same wr G j _ _ _ hgH
    · obtain rfl : j = n := by omega
      have hll : l.length = j := hnH
      have e : l.take j = l := by rw [← hll, List.take_length]
      rw [e, Nat.sub_self] at hg
      have hel : (encSt l).length = j := by simp [encSt, hll]
      have hcv : (convert 65 9 (.slice (some ⟨G, 0, none⟩) j j)).run Tryz.prog wr = .ok (ct (encSt l)) wr := by
        have := conv_row (w := wr) (g := G) (cap := j) (l := encSt l) (fun i c hc => by
          rw [cell_of_row _ _ i _ _ _ hg]
          simp [byC, hc])
        rw [hel] at this
        exact this
      clear hg e hll hel hjl hf
      go_wp2_with fail
      go_ret
      exact ⟨rfl, hfH⟩
end Go.Proofs.YtnmcehpdiopaiaaGreatDoor.Cd
