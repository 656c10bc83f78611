/- The program's Uses: statements. -/
import Derived.Test.YtddedomocnpdjaaGreatDoorTrU
namespace Go.Proofs.YtddedomocnpdjaaGreatDoor
open Go.RowKit Te
set_option linter.unusedSimpArgs false
set_option linter.unusedVariables false

/-- The row of a value does not lie in the block. -/
def Off (B : Nat) (v : Value) : Prop := ∀ b, v.ownBlock = some b → b ≠ B
theorem off_near {w : World} {B : Nat} {v v' : Value} (h : Off B v) (hB : B < w.heap.size) (n : Near w v v') : Off B v' := by
  intro b hb
  rcases n with n | n
  · exact h b (by rw [← n]; exact hb)
  · have := n b hb; omega
theorem off_heap {w w' : World} {B : Nat} {v : Value} {o : Obj} (h : Off B v) (f : Fr (fun b => v.ownBlock = some b) w w') (hb : Hidden (w.heap[B]? = some o)) : Hidden (w'.heap[B]? = some o) := f.heap hb (fun hc => h B hc rfl)
def AddS (k : Sts) : Prop := ∀ (ao : Option Addr) (cap : Nat) (w0 w : World) (v : Value) (l : List Bs), StL w0 ao cap k → Fr (fun _ => False) w0 w → U.To w w0.heap.size v l → (l.length + (usS k).length) * 16 ≤ 140737488355328 →
  Calls Tryz.prog 18 #[v, .slice ao k.len cap] w fun e w' => ∃ v', e = .returned v' ∧ U.To w' w0.heap.size v' (l ++ usS k) ∧ Fr (fun b => v.ownBlock = some b) w w' ∧ Near w v v'
set_option maxRecDepth 20000 in
set_option maxHeartbeats 4000000 in
theorem addS_step (k : Sts) (ih : ∀ k' : Sts, k'.size < k.size → AddS k') : AddS k := by
  intro ao cap w0 w v l hk hf0 ht hb
  have hrest := hk.rest
  obtain ⟨hcap, hmax, _⟩ := hk
  have hlen : k.len ≤ 9223372036854775807 := by unfold maxLen at hmax; omega
  obtain ⟨R, hR⟩ : ∃ R, l ++ usS k = R := ⟨_, rfl⟩
  have hRl : R.length * 16 ≤ 140737488355328 := by rw [← hR, List.length_append]; exact hb
  rw [hR]
  obtain ⟨vao, vcap, rfl, _, _⟩ := ht.shape
  go_enter Tryz.func18, Tryz.ntmps18
  go_wp2_with fail
  go_loopg [0, 9] k.len (fun g mv iv wr => ∃ (i : Nat) (r : Sts) (l1 : List Bs), iv = ci (i : Int) ∧ i + r.len = k.len ∧ r.size ≤ k.size ∧ StR w0 ao i r ∧ U.To wr w0.heap.size mv l1 ∧ l1 ++ usS r = R ∧ g = r.len ∧ Fr (fun b => (Value.slice vao l.length vcap).ownBlock = some b) w wr ∧ Near w (.slice vao l.length vcap) mv ∧ Fr (fun _ => False) w0 wr)
  case atStart => exact ⟨0, k, l, rfl, by omega, Nat.le_refl _, hrest, ht, hR, rfl, Fr.refl _ _, Near.refl _ _, hf0⟩
  case round =>
    obtain ⟨i, r, l1, rfl, hlen2, hsize, hrow, hto, hdk, hgk, hfr, hnear, hfr0⟩ := hrel
    have hgkH : Hidden (gk = r.len) := hgk
    have hdkH : Hidden (l1 ++ usS r = R) := hdk
    have hlenH : Hidden (i + r.len = k.len) := hlen2
    clear hgk hdk hlen2 hrest hR
    cases r with
    | nil =>
      have hi : i = k.len := hlenH
      subst hi
      obtain rfl : l1 = R := by have h0 : l1 ++ [] = R := hdkH; simpa using h0
      clear hdkH
      go_wp2_with fail
      go_ret
      exact ⟨_, rfl, hto, hfr, hnear⟩
    | cons h' e' b' l' r' =>
      have hil : i < k.len := by have : i + (r'.len + 1) = k.len := hlenH; omega
      obtain ⟨b, off, ao1, cap1, ao2, cap2, ao3, cap3, rfl, hL1, hL2, hL3, hrow2, d0, d1, d2, d3, d4⟩ := hrow.next
      have d0 := hfr0.cellN d0
      have d1 := hfr0.cellN d1
      have d2 := hfr0.cellN d2
      have d3 := hfr0.cellN d3
      have d4 := hfr0.cellN d4
      simp only [Sts.size] at hsize
      have hbx : Hidden ((wr.alloc (.cells #[ci h'.kind, ct h'.name, .slice ao1 e'.len cap1, .slice ao2 b'.len cap2, .slice ao3 l'.len cap3] 64)).heap[wr.heap.size]? = some (.cells #[ci h'.kind, ct h'.name, .slice ao1 e'.len cap1, .slice ao2 b'.len cap2, .slice ao3 l'.len cap3] 64 (0, 0))) := alloc_new _ _
      have f1 : Fr (fun _ => False) wr (wr.alloc (.cells #[ci h'.kind, ct h'.name, .slice ao1 e'.len cap1, .slice ao2 b'.len cap2, .slice ao3 l'.len cap3] 64)) := Fr.alloc _ _ _
      have hown := hto.own
      have hto1 := hto.later (fr_u f1)
      have hfr1 : Fr (fun b => (Value.slice vao l.length vcap).ownBlock = some b) w (wr.alloc (.cells #[ci h'.kind, ct h'.name, .slice ao1 e'.len cap1, .slice ao2 b'.len cap2, .slice ao3 l'.len cap3] 64)) := hfr.trans f1 (fun _ _ f => f.elim)
      have hfr01 := hfr0.same f1
      have o1 : Off wr.heap.size _ := fun b hb2 => by have := (hown b hb2).2; omega
      have s1 : wr.heap.size < (wr.alloc (.cells #[ci h'.kind, ct h'.name, .slice ao1 e'.len cap1, .slice ao2 b'.len cap2, .slice ao3 l'.len cap3] 64)).heap.size := by simp
      have hd2 : Hidden (((l1 ++ usE e') ++ usS b') ++ usS l' ++ usS r' = R) := by
        have h0 : l1 ++ (usE e' ++ usS b' ++ usS l' ++ usS r') = R := hdkH
        rw [← h0]
        simp [Hidden]
      have hl2 : l1.length + (usE e').length + (usS b').length + (usS l').length ≤ R.length := by
        have h0 := congrArg List.length (show _ = R from hd2)
        simp only [List.length_append] at h0
        omega
      have kB := ih b' (by omega)
      have kL := ih l' (by omega)
      unfold AddS at kB kL
      have kc := addE_any e' ao1 cap1 w0 _ _ l1 hL1 hfr01 hto1 (by omega)
      clear hdkH
      obtain ⟨c0, c1, c2, c3, c4⟩ := st_box hbx
      go_wp2_with fail
      go_at_call 17
      refine kc.mono ?_
      rintro e w3 ⟨v3, rfl, to3, f3, n3⟩
      have hbx3 := off_heap o1 f3 hbx
      have o3 := off_near o1 s1 n3
      have s3 := Nat.lt_of_lt_of_le s1 f3.size
      have g3 := near_fr hfr1 hnear f3
      have m3 := near_trans hfr1.size hnear n3
      have fA := hfr01.over f3 (fun b hb2 => (hown b hb2).1)
      have kc := kB ao2 cap2 w0 w3 v3 (l1 ++ usE e') hL2 fA to3 (by simp only [List.length_append]; omega)
      clear c0 c1 c2 c3 c4
      obtain ⟨c0, c1, c2, c3, c4⟩ := st_box hbx3
      go_wp2_with fail
      go_at_call 18
      refine kc.mono ?_
      rintro e w4 ⟨v4, rfl, to4, f4, n4⟩
      have hbx4 := off_heap o3 f4 hbx3
      have g4 := near_fr g3 m3 f4
      have m4 := near_trans g3.size m3 n4
      have fB := fA.over f4 (fun b hb2 => (to3.own b hb2).1)
      have kc := kL ao3 cap3 w0 w4 v4 (l1 ++ usE e' ++ usS b') hL3 fB to4 (by simp only [List.length_append]; omega)
      clear c0 c1 c2 c3 c4
      obtain ⟨c0, c1, c2, c3, c4⟩ := st_box hbx4
      go_wp2_with fail
      go_at_call 18
      refine kc.mono ?_
      rintro e w5 ⟨v5, rfl, to5, f5, n5⟩
      go_wp2_with fail
      go_roundg r'.len
      case measure =>
        have : gk = r'.len + 1 := hgkH
        omega
      case rel =>
        refine ⟨i + 1, r', _, by go_num, ?_, by omega, hrow2, to5, hd2, rfl, near_fr g4 m4 f5, near_trans g4.size m4 n5, fB.over f5 (fun b hb2 => (to4.own b hb2).1)⟩
        have : i + (r'.len + 1) = k.len := hlenH
        omega
theorem addS_any (k : Sts) : AddS k := by
  have : ∀ (n : Nat) (k : Sts), k.size < n → AddS k := by
    intro n
    induction n with
    | zero => intro k hk; omega
    | succ n ih => intro k hk; exact addS_step k (fun k' hk' => ih k' (by omega))
  exact this (k.size + 1) k (by omega)
end Go.Proofs.YtddedomocnpdjaaGreatDoor
