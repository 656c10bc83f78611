/- LxR2 LxR3 LxR4 LxR5 LxR6 LxR7 LxR8 PwG PwH PwO -/
import Derived.Test.YteijjaabngkbjaaGreatDoorLxR1B
import Derived.Test.YteijjaabngkbjaaGreatDoorTrX6B
import Derived.Deep.RegionHeld3
import Derived.RegionDies
import Derived.Test.YteijjaabngkbjaaGreatDoorLxAll
import Derived.Recover
namespace Go.Proofs.YteijjaabngkbjaaGreatDoor
open Go.RowKit Lx
set_option linter.unusedSimpArgs false
set_option linter.unusedVariables false
def oneL : By := [40, 41, 123, 125, 44, 59, 58, 46, 61, 43, 45, 42, 47, 37, 60, 62, 33]
theorem fr_dn0 (w : World) (n : Nat) : Fr (fun _ => False) w (w.drewN n) := ⟨rfl, rfl, Nat.le_refl _, fun _ _ _ => rfl⟩
theorem one_mem (c : UInt8) : one c = decide (c ∈ oneL) := by
  rw [Bool.eq_iff_iff]
  simp only [one, oneL, Bool.or_eq_true, beq_iff_eq, decide_eq_true_eq, List.mem_cons, List.not_mem_nil, or_false, or_assoc]
set_option maxRecDepth 20000 in
set_option maxHeartbeats 1000000 in
theorem rmark_one (l : By) (i : Nat) (c : UInt8) (r : Nat) (hi : i < l.length) (hl : l.length ≤ 9223372036854775800) (hc : Hidden (l[i]? = some c)) (hr : Hidden ((if one c = true then 1 else 0) = r))
    (hq : (¬ i + 2 ≤ l.length) ∨ ∃ q : By, i + 2 ≤ l.length ∧ (l.drop i).take 2 = q ∧ (q == [60, 61]) = false ∧ (q == [62, 61]) = false ∧ (q == [61, 61]) = false ∧ (q == [33, 61]) = false ∧ (q == [38, 38]) = false ∧ (q == [124, 124]) = false) (w : World) :
    Calls Tryz.prog 96 #[.string ⟨l.toArray⟩, .int .i64 (i : Int)] w fun e w' => e = .returned (.int .i64 (r : Int)) ∧ Fr (fun _ => False) w w' := by
  have hs := str_len l
  have hx := str_index l i c hc
  rcases hq with hq | ⟨q, hq, hqe, h1, h2, h3, h4, h5, h6⟩
  case' inl => have hq' : decide ((i : Int) + 2 ≤ (l.length : Int)) = false := decide_eq_false (by omega)
  case' inr =>
    have hsl : ∀ w, (Instr.slice 9 (.string ⟨l.toArray⟩) (some (.int .i64 (i : Int))) (some (.int .i64 ((i : Int) + 2))) none).run Tryz.prog w = .ok (.string ⟨q.toArray⟩) w := by
      intro w
      have := slice_mid l i (i + 2) (by omega) hq (by omega) w
      rw [show i + 2 - i = 2 by omega, hqe, show ((i + 2 : Nat) : Int) = (i : Int) + 2 by omega] at this
      exact this
    clear hqe
  all_goals
    go_enter Tryz.func96, Tryz.ntmps96
    go_wp2_with fail
    go_loopg [7] 17 (fun k iv wr => ∃ j : Nat, iv = .int .i64 (j : Int) ∧ j ≤ 17 ∧ (∀ d ∈ oneL.take j, d ≠ c) ∧ k = 17 - j ∧ Fr (fun _ => False) w wr)
    case atStart => exact ⟨0, rfl, by omega, by simp, rfl, Fr.refl _ _⟩
    case round =>
      obtain ⟨j, rfl, hj, hno, hgk, hfr⟩ := hrel
      have hgkH : Hidden (gk = 17 - j) := hgk
      have hnoH : Hidden (∀ d ∈ oneL.take j, d ≠ c) := hno
      clear hgk hno
      by_cases hjl : j < 17
      · obtain ⟨d, hd⟩ : ∃ d, oneL[j]? = some d := ⟨oneL[j]'hjl, List.getElem?_eq_getElem hjl⟩
        have hxo : ∀ w, (Instr.index 9 (.string ⟨#[40, 41, 123, 125, 44, 59, 58, 46, 61, 43, 45, 42, 47, 37, 60, 62, 33]⟩) (.int .i64 (j : Int))).run Tryz.prog w = .ok (.int .u8 (d.toNat : Int)) w := str_index oneL j d hd
        by_cases hdc : d = c
        · subst hdc
          have hrr : Hidden (1 = r) := by
            show _ = _
            rw [← (show _ = r from hr), one_mem, if_pos]
            exact decide_eq_true (List.mem_of_getElem? hd)
          have he : ((d.toNat : Int) == (d.toNat : Int)) = true := by simp
          clear hd
          go_wp2_with fail
          go_quiet (fail)
          go_wp2_with fail
          go_ret
          exact ⟨by cases (show 1 = r from hrr); rfl, hfr.same (Fr.mono (fr_dn0 _ _) (fun _ _ f => f))⟩
        · have he : ((d.toNat : Int) == (c.toNat : Int)) = false := by
            rw [beq_eq_false_iff_ne]
            intro e
            exact hdc (UInt8.toNat_inj.1 (by omega))
          have he2 : (d.toNat == c.toNat) = false := by
            rw [beq_eq_false_iff_ne]
            intro e
            exact hdc (UInt8.toNat_inj.1 e)
          have hnx : Hidden (∀ x ∈ oneL.take (j + 1), x ≠ c) := by
            intro x hxm
            rw [List.take_add_one, hd] at hxm
            simp only [List.mem_append, Option.mem_toList, Option.some.injEq] at hxm
            rcases hxm with hxm | rfl
            · exact (show ∀ d ∈ oneL.take j, d ≠ c from hnoH) x hxm
            · exact hdc
          clear hd hdc
          go_wp2_with fail
          go_quiet (fail)
          go_wp2_with fail
          go_roundg (17 - (j + 1))
          case measure =>
            have : gk = 17 - j := hgkH
            omega
          case rel => exact ⟨j + 1, by go_num, by omega, hnx, rfl, hfr.same (fr_dn0 _ _)⟩
      · obtain rfl : j = 17 := by omega
        have hrr : Hidden (0 = r) := by
          show _ = _
          rw [← (show _ = r from hr), one_mem, if_neg]
          rw [decide_eq_true_eq]
          intro hm
          exact (show ∀ d ∈ oneL.take 17, d ≠ c from hnoH) c hm rfl
        go_wp2_with fail
        go_ret
        exact ⟨by cases (show 0 = r from hrr); rfl, hfr⟩
set_option maxRecDepth 20000 in
set_option maxHeartbeats 1000000 in
theorem rmark_two (l : By) (i : Nat) (q : By) (hl : l.length ≤ 9223372036854775800) (hi : i + 2 ≤ l.length) (hqe : Hidden ((l.drop i).take 2 = q))
    (hq : q = [60, 61] ∨ q = [62, 61] ∨ q = [61, 61] ∨ q = [33, 61] ∨ q = [38, 38] ∨ q = [124, 124]) (w : World) :
    Calls Tryz.prog 96 #[.string ⟨l.toArray⟩, .int .i64 (i : Int)] w fun e w' => e = .returned (.int .i64 2) ∧ Fr (fun _ => False) w w' := by
  have hs := str_len l
  have hsl : ∀ w, (Instr.slice 9 (.string ⟨l.toArray⟩) (some (.int .i64 (i : Int))) (some (.int .i64 ((i : Int) + 2))) none).run Tryz.prog w = .ok (.string ⟨q.toArray⟩) w := by
    intro w
    have := slice_mid l i (i + 2) (by omega) hi (by omega) w
    rw [show i + 2 - i = 2 by omega, show (l.drop i).take 2 = q from hqe, show ((i + 2 : Nat) : Int) = (i : Int) + 2 by omega] at this
    exact this
  rcases hq with rfl | rfl | rfl | rfl | rfl | rfl
  all_goals
    go_enter Tryz.func96, Tryz.ntmps96
    go_wp2_with fail
    go_ret
    exact ⟨rfl, Fr.refl _ _⟩
theorem rmark_any (l : By) (i r : Nat) (hi : i < l.length) (hl : l.length ≤ 9223372036854775800) (hr : mkLen (l.drop i) = r) (w : World) :
    Calls Tryz.prog 96 #[.string ⟨l.toArray⟩, .int .i64 (i : Int)] w fun e w' => e = .returned (.int .i64 (r : Int)) ∧ Fr (fun _ => False) w w' := by
  obtain ⟨a, ha⟩ : ∃ a, l[i]? = some a := ⟨l[i], List.getElem?_eq_getElem hi⟩
  have ed := drop_at ha
  by_cases h2 : i + 2 ≤ l.length
  · obtain ⟨b, hb⟩ : ∃ b, l[i + 1]? = some b := ⟨l[i + 1]'(by omega), List.getElem?_eq_getElem (by omega)⟩
    have ed2 := drop_at hb
    rw [ed2] at ed
    have et : (l.drop i).take 2 = [a, b] := by rw [ed]; simp
    have ht := two_eq a b
    cases h3 : two a b
    · have hne : ¬ ([a, b] = [60, 61] ∨ [a, b] = [62, 61] ∨ [a, b] = [61, 61] ∨ [a, b] = [33, 61] ∨ [a, b] = [38, 38] ∨ [a, b] = [124, 124]) := fun h => by rw [ht.2 h] at h3; cases h3
      refine rmark_one l i a r hi hl ha (by show _ = _; rw [← hr, ed]; simp [mkLen, h3]) (Or.inr ⟨[a, b], h2, et, ?_, ?_, ?_, ?_, ?_, ?_⟩) w
      all_goals (rw [beq_eq_false_iff_ne]; intro e; exact hne (by simp [e]))
    · have := rmark_two l i [a, b] hl h2 et (ht.1 h3) w
      rw [← hr, ed, show mkLen (a :: b :: l.drop (i + 1 + 1)) = 2 by simp [mkLen, h3]]
      exact this
  · have e1 : l.drop (i + 1) = [] := List.drop_eq_nil_of_le (by omega)
    rw [e1] at ed
    exact rmark_one l i a r hi hl ha (by show _ = _; rw [← hr, ed]; simp [mkLen]) (Or.inl h2) w
end Go.Proofs.YteijjaabngkbjaaGreatDoor
namespace Go.Proofs.YteijjaabngkbjaaGreatDoor
open Go.RowKit Lx
set_option linter.unusedSimpArgs false
set_option linter.unusedVariables false
theorem fold_ge (l : By) : ∀ m, m ≤ l.foldl I.stepD m := by
  induction l with
  | nil => intro m; simp
  | cons c r ih =>
    intro m
    rw [List.foldl_cons]
    refine Nat.le_trans ?_ (ih _)
    unfold I.stepD
    omega
theorem numD_mono (l : By) (j : Nat) : I.numD (l.take j) ≤ I.numD l := by
  have e : I.numD l = (l.drop j).foldl I.stepD (I.numD (l.take j)) := by
    unfold I.numD
    rw [← List.foldl_append, List.take_append_drop]
  rw [e]
  exact fold_ge _ _
def numR (x : By) : Int × Bool := if I.numD x ≤ 9223372036854775807 then ((I.numD x : Int), true) else (0, false)
set_option maxHeartbeats 1000000 in
theorem number_walk (l : By) (v : Int) (b : Bool) (hl : l.length ≤ 9223372036854775800) (hd : Hidden (∀ c ∈ l, dgt c = true)) (hr : Hidden (numR l = (v, b))) (w : World) :
    Calls Tryz.prog 144 #[.string ⟨l.toArray⟩] w fun e w' => e = .returned (.tuple #[.int .u64 v, .bool b]) ∧ w' = w := by
  have hs := str_len l
  go_enter Tryz.func144, Tryz.ntmps144
  go_wp2
  go_loopg [4, 5] l.length (fun k nv iv wr => ∃ j n : Nat, nv = .int .u64 (n : Int) ∧ iv = .int .i64 (j : Int) ∧ j ≤ l.length ∧ I.numD (l.take j) = n ∧ n ≤ 9223372036854775807 ∧ k = l.length - j ∧ wr = w)
  case atStart => exact ⟨0, 0, rfl, rfl, by omega, by simp [I.numD], by omega, rfl, rfl⟩
  case round =>
    obtain ⟨j, n, rfl, rfl, hj, hn, hn2, hgk, rfl⟩ := hrel
    have hgkH : Hidden (gk = l.length - j) := hgk
    have hnH : Hidden (I.numD (l.take j) = n) := hn
    clear hgk hn
    by_cases hjl : j < l.length
    · obtain ⟨c, hc⟩ : ∃ c, l[j]? = some c := ⟨l[j], List.getElem?_eq_getElem hjl⟩
      have hx := str_index l j c hc
      have hdc := (show ∀ c ∈ l, dgt c = true from hd) c (List.mem_of_getElem? hc)
      obtain ⟨D, hD, hD9⟩ : ∃ D, c.toNat = D + 48 ∧ D ≤ 9 := by
        simp only [dgt, Bool.and_eq_true, decide_eq_true_eq] at hdc
        exact ⟨c.toNat - 48, by omega, by omega⟩
      have hnext : I.numD (l.take (j + 1)) = n * 10 + D := by rw [I.numD_take l j c hc, show I.numD (l.take j) = n from hnH, hD]; omega
      rw [hD] at hx
      have hx' : ∀ w, (Instr.index 9 (.string ⟨l.toArray⟩) (.int .i64 (j : Int))).run Tryz.prog w = .ok (.int .u8 ((D : Int) + 48)) w := by
        intro w
        rw [hx w]
        rfl
      clear hx hdc hD
      by_cases hbig : 9223372036854775807 < n * 10 + D
      · have hrr : Hidden ((0, false) = (v, b)) := by
          show _ = _
          rw [← (show _ = (v, b) from hr), numR, if_neg]
          have := numD_mono l (j + 1)
          omega
        have ht : decide ((9223372036854775807 - (D : Int)) / 10 < (n : Int)) = true := decide_eq_true (by omega)
        clear hnext hc
        go_wp2
        go_ret2
        cases hrr
        exact ⟨rfl, rfl⟩
      · have ht : decide ((9223372036854775807 - (D : Int)) / 10 < (n : Int)) = false := decide_eq_false (by omega)
        have hnx : Hidden (I.numD (l.take (j + 1)) = n * 10 + D) := hnext
        clear hnext hc
        go_wp2
        go_roundg (l.length - (j + 1))
        case measure =>
          have : gk = l.length - j := hgkH
          omega
        case rel => exact ⟨j + 1, n * 10 + D, by congr 1; omega, by go_num, by omega, hnx, by omega, rfl, rfl⟩
    · obtain rfl : j = l.length := by omega
      have hrr : Hidden (((n : Int), true) = (v, b)) := by
        show _ = _
        have h := (show I.numD (l.take l.length) = n from hnH)
        rw [List.take_length] at h
        rw [← (show _ = (v, b) from hr), numR, h, if_pos hn2]
      go_wp2
      go_ret2
      cases hrr
      exact ⟨rfl, rfl⟩
end Go.Proofs.YteijjaabngkbjaaGreatDoor
namespace Go.Proofs.YteijjaabngkbjaaGreatDoor
open Go.RowKit Lx
set_option linter.unusedSimpArgs false
set_option linter.unusedVariables false
theorem info_rtok : (Tryz.prog.info? 92).map (·.size) = some 5 := by kernel_rfl
theorem post_rtok {fn : Func} {R : Ending → World → Prop} {a : Act} {w : World} {p u : Tmp} {g : Nat} {x0 x1 x2 x3 x4 v0 v1 v2 v3 v4 : Value} (hg : w.heap[g]? = some (.cells #[x0, x1, x2, x3, x4] 92 (0, 0))) (h : fn.results = #[.cell p 92, .tmp u]) (hd : a.defers = [])
    (hp : a.tmps.getD p undef = .pointer (some ⟨g, 0, none⟩)) (hR : R (.returned (.tuple #[.agg #[v0, v1, v2, v3, v4], a.tmps.getD u undef])) (((((w.setCell ⟨g, 0, none⟩ v0).setCell ⟨g, 1, none⟩ v1).setCell ⟨g, 2, none⟩ v2).setCell ⟨g, 3, none⟩ v3).setCell ⟨g, 4, none⟩ v4)) :
    bodyPost Tryz.prog fn R .ret a (((((w.setCell ⟨g, 0, none⟩ v0).setCell ⟨g, 1, none⟩ v1).setCell ⟨g, 2, none⟩ v2).setCell ⟨g, 3, none⟩ v3).setCell ⟨g, 4, none⟩ v4) :=
  post_cell h hd g #[v0, v1, v2, v3, v4] hp (run_loadVar_row _ _ _ _ _ _ _ (set_five hg _ _ _ _ _) Tryz.underlying92 rfl info_rtok) hR
set_option maxRecDepth 20000 in
set_option maxHeartbeats 4000000 in
theorem numeral_hex (l x : By) (i a : Nat) (v e : Int) (hi : i + 2 ≤ l.length) (ha : a ≤ l.length) (hl : l.length ≤ 4096) (h0 : Hidden (l[i]? = some 48)) (h1 : Hidden (l[i + 1]? = some 120)) (hrun : Hidden (i + 2 + run hxB (l.drop (i + 2)) = a)) (hia : i ≤ a)
    (hx : Hidden ((l.drop i).take (a - i) = x)) (hp : Hidden (F.parseS x = (v, e))) (hxl : x.length ≤ 4096) (w : World) :
    Calls Tryz.prog 95 #[.string ⟨l.toArray⟩, .int .i64 (i : Int)] w fun r w' => r = .returned (.tuple #[.agg #[.int .i64 4, .string ⟨x.toArray⟩, .int .i64 (if e = 0 then 2 else 0), .int .u64 (if e = 0 then v else 0), .int .i64 (i : Int)], .int .i64 (if e = 0 then 0 else 10)]) ∧ Fr (fun _ => False) w w' := by
  have hs := str_len l
  have hx0 := str_index l i 48 h0
  have hx1 := index_succ l i 120 h1
  have kp := F.rparse_any x v e hp (by omega)
  have hsl := slice_mid l i a hia ha (by omega)
  rw [show (l.drop i).take (a - i) = x from hx] at hsl
  go_enter Tryz.func95, Tryz.ntmps95
  go_wp2_with fail
  go_loopg [7] (l.length - (i + 2)) (fun k iv wr => ∃ j : Nat, iv = .int .i64 (j : Int) ∧ i + 2 ≤ j ∧ j ≤ l.length ∧ j + run hxB (l.drop j) = a ∧ k = l.length - j ∧ wr = ((w.alloc (.cells #[.int .i64 0, .string ⟨#[]⟩, .int .i64 0, .int .u64 0, .int .i64 0] 92 (0, 0))).alloc (.cells #[.int .i64 3, .string ⟨#[]⟩, .int .i64 0, .int .u64 0, .int .i64 (i : Int)] 92 (0, 0))))
  case atStart => exact ⟨i + 2, by first | rfl | go_num, by omega, by omega, hrun, rfl, rfl⟩
  case round =>
    obtain ⟨j, rfl, hsj, hj, hf, hgk, rfl⟩ := hrel
    have hgkH : Hidden (gk = l.length - j) := hgk
    clear hgk
    have next : ∀ c, l[j]? = some c → hxB c = true → j + 1 + run hxB (l.drop (j + 1)) = a := fun c hc hp => by rw [run_step _ l j c hc, if_pos hp] at hf; omega
    by_cases hgo : ∃ c, l[j]? = some c ∧ hxB c = true
    · obtain ⟨c, hc, hp⟩ := hgo
      have hjl : j < l.length := (List.getElem?_eq_some_iff.1 hc).1
      have hxj := str_index l j c hc
      have kc := rhex_walk c.toNat _ rfl
      rw [(class_nat c).2.2, hp] at kc
      have hfH : Hidden (j + 1 + run hxB (l.drop (j + 1)) = a) := next c hc hp
      clear hf next hc hp
      go_wp2_with (go_at_call 141; refine (kc _).mono ?_; rintro e w' ⟨rfl, rfl⟩)
      go_roundg (l.length - (j + 1))
      case measure =>
        have : gk = l.length - j := hgkH
        omega
      case rel => exact ⟨j + 1, by go_num, by omega, by omega, hfH, rfl, rfl⟩
    · have hja : j = a := by
        have hz : run hxB (l.drop j) = 0 := by
          rw [run_zero]
          intro c hc
          rw [drop_zero_get] at hc
          cases hpc : hxB c
          · rfl
          · exact absurd ⟨c, hc, hpc⟩ hgo
        omega
      have stop : (¬ j < l.length) ∨ ∃ n : Nat, j < l.length ∧ (∀ w, (Instr.index 9 (.string ⟨l.toArray⟩) (.int .i64 (j : Int))).run Tryz.prog w = .ok (.int .u8 (n : Int)) w) ∧ (∀ w, Calls Tryz.prog 141 #[.int .u8 (n : Int)] w fun e w' => e = .returned (.bool false) ∧ w' = w) := by
        by_cases hjl : j < l.length
        · obtain ⟨c, hc⟩ : ∃ c, l[j]? = some c := ⟨l[j], List.getElem?_eq_getElem hjl⟩
          have kc := rhex_walk c.toNat _ rfl
          have hpc : hxB c = false := by
            cases hpc : hxB c
            · rfl
            · exact absurd ⟨c, hc, hpc⟩ hgo
          rw [(class_nat c).2.2, hpc] at kc
          exact Or.inr ⟨c.toNat, hjl, str_index l j c hc, kc⟩
        · exact Or.inl hjl
      clear hf next hgo
      subst hja
      rcases stop with hjl | ⟨n, hjl, hxj, kc⟩
      all_goals
        by_cases he : e = 0
        · subst he
          go_wp2_with (first
            | (go_at_call 141; refine (kc _).mono ?_; rintro e w' ⟨rfl, rfl⟩)
            | (go_at_call 142; refine (kp _).mono ?_; rintro e1 W1 ⟨rfl, g1⟩; have f1 := fr_of_kept g1.1 g1.2
               have ha : Hidden (W1.heap[w.heap.size]? = some (.cells #[.int .i64 0, .string ⟨#[]⟩, .int .i64 0, .int .u64 0, .int .i64 0] 92 (0, 0))) := f1.heap (heap_alloc2_old _ _ _) (fun f => f)
               have hb : Hidden (W1.heap[w.heap.size + 1]? = some (.cells #[.int .i64 4, .string ⟨x.toArray⟩, .int .i64 0, .int .u64 0, .int .i64 (i : Int)] 92 (0, 0))) := f1.heap (heap_alloc2_new _ _ _) (fun f => f)
               have ca0 : W1.cell? ⟨w.heap.size, 0, none⟩ = some (.int .i64 0) := cell_of_row _ _ 0 _ _ _ ha
               have fa0 := frozen_row ha 0
               have ca1 : W1.cell? ⟨w.heap.size, 1, none⟩ = some (.string ⟨#[]⟩) := cell_of_row _ _ 1 _ _ _ ha
               have fa1 := frozen_row ha 1
               have ca2 : W1.cell? ⟨w.heap.size, 2, none⟩ = some (.int .i64 0) := cell_of_row _ _ 2 _ _ _ ha
               have fa2 := frozen_row ha 2
               have ca3 : W1.cell? ⟨w.heap.size, 3, none⟩ = some (.int .u64 0) := cell_of_row _ _ 3 _ _ _ ha
               have fa3 := frozen_row ha 3
               have ca4 : W1.cell? ⟨w.heap.size, 4, none⟩ = some (.int .i64 0) := cell_of_row _ _ 4 _ _ _ ha
               have fa4 := frozen_row ha 4
               have cb0 : W1.cell? ⟨w.heap.size + 1, 0, none⟩ = some (.int .i64 4) := cell_of_row _ _ 0 _ _ _ hb
               have fb0 := frozen_row hb 0
               have cb1 : W1.cell? ⟨w.heap.size + 1, 1, none⟩ = some (.string ⟨x.toArray⟩) := cell_of_row _ _ 1 _ _ _ hb
               have fb1 := frozen_row hb 1
               have cb2 : W1.cell? ⟨w.heap.size + 1, 2, none⟩ = some (.int .i64 0) := cell_of_row _ _ 2 _ _ _ hb
               have fb2 := frozen_row hb 2
               have cb3 : W1.cell? ⟨w.heap.size + 1, 3, none⟩ = some (.int .u64 0) := cell_of_row _ _ 3 _ _ _ hb
               have fb3 := frozen_row hb 3
               have cb4 : W1.cell? ⟨w.heap.size + 1, 4, none⟩ = some (.int .i64 (i : Int)) := cell_of_row _ _ 4 _ _ _ hb
               have fb4 := frozen_row hb 4
               skip))
          (try simp only [Exit.inBlock, Exit.then])
          have ha2 : ((W1.setCell ⟨w.heap.size + 1, 2, none⟩ (.int .i64 2)).setCell ⟨w.heap.size + 1, 3, none⟩ (.int .u64 v)).heap[w.heap.size]? = some (.cells #[.int .i64 0, .string ⟨#[]⟩, .int .i64 0, .int .u64 0, .int .i64 0] 92 (0, 0)) := by
            rw [heap_setCell_other _ _ _ _ (by show w.heap.size ≠ w.heap.size + 1; omega), heap_setCell_other _ _ _ _ (by show w.heap.size ≠ w.heap.size + 1; omega)]
            exact ha
          refine post_rtok ha2 rfl rfl rfl ⟨by simp only [if_true]; rfl, ?_⟩
          exact fr_five (fr_two (((Fr.alloc (fun _ => False) w _).same (Fr.alloc _ _ _)).same f1) (by omega) 2 3 _ _) (Nat.le_refl _) _ _ _ _ _
        · have he2 : (e != 0) = true := by simpa using he
          go_wp2_with (first
            | (go_at_call 141; refine (kc _).mono ?_; rintro e w' ⟨rfl, rfl⟩)
            | (go_at_call 142; refine (kp _).mono ?_; rintro e1 W1 ⟨rfl, g1⟩; have f1 := fr_of_kept g1.1 g1.2
               have ha : Hidden (W1.heap[w.heap.size]? = some (.cells #[.int .i64 0, .string ⟨#[]⟩, .int .i64 0, .int .u64 0, .int .i64 0] 92 (0, 0))) := f1.heap (heap_alloc2_old _ _ _) (fun f => f)
               have hb : Hidden (W1.heap[w.heap.size + 1]? = some (.cells #[.int .i64 4, .string ⟨x.toArray⟩, .int .i64 0, .int .u64 0, .int .i64 (i : Int)] 92 (0, 0))) := f1.heap (heap_alloc2_new _ _ _) (fun f => f)
               have ca0 : W1.cell? ⟨w.heap.size, 0, none⟩ = some (.int .i64 0) := cell_of_row _ _ 0 _ _ _ ha
               have fa0 := frozen_row ha 0
               have ca1 : W1.cell? ⟨w.heap.size, 1, none⟩ = some (.string ⟨#[]⟩) := cell_of_row _ _ 1 _ _ _ ha
               have fa1 := frozen_row ha 1
               have ca2 : W1.cell? ⟨w.heap.size, 2, none⟩ = some (.int .i64 0) := cell_of_row _ _ 2 _ _ _ ha
               have fa2 := frozen_row ha 2
               have ca3 : W1.cell? ⟨w.heap.size, 3, none⟩ = some (.int .u64 0) := cell_of_row _ _ 3 _ _ _ ha
               have fa3 := frozen_row ha 3
               have ca4 : W1.cell? ⟨w.heap.size, 4, none⟩ = some (.int .i64 0) := cell_of_row _ _ 4 _ _ _ ha
               have fa4 := frozen_row ha 4
               have cb0 : W1.cell? ⟨w.heap.size + 1, 0, none⟩ = some (.int .i64 4) := cell_of_row _ _ 0 _ _ _ hb
               have fb0 := frozen_row hb 0
               have cb1 : W1.cell? ⟨w.heap.size + 1, 1, none⟩ = some (.string ⟨x.toArray⟩) := cell_of_row _ _ 1 _ _ _ hb
               have fb1 := frozen_row hb 1
               have cb2 : W1.cell? ⟨w.heap.size + 1, 2, none⟩ = some (.int .i64 0) := cell_of_row _ _ 2 _ _ _ hb
               have fb2 := frozen_row hb 2
               have cb3 : W1.cell? ⟨w.heap.size + 1, 3, none⟩ = some (.int .u64 0) := cell_of_row _ _ 3 _ _ _ hb
               have fb3 := frozen_row hb 3
               have cb4 : W1.cell? ⟨w.heap.size + 1, 4, none⟩ = some (.int .i64 (i : Int)) := cell_of_row _ _ 4 _ _ _ hb
               have fb4 := frozen_row hb 4
               skip))
          (try simp only [Exit.inBlock, Exit.then])
          refine post_rtok ha rfl rfl rfl ⟨by simp only [if_neg he]; rfl, ?_⟩
          exact fr_five (((Fr.alloc (fun _ => False) w _).same (Fr.alloc _ _ _)).same f1) (Nat.le_refl _) _ _ _ _ _
end Go.Proofs.YteijjaabngkbjaaGreatDoor
namespace Go.Proofs.YteijjaabngkbjaaGreatDoor
open Go.RowKit Lx
set_option linter.unusedSimpArgs false
set_option linter.unusedVariables false
def No0x (l : By) (i : Nat) : Prop :=
  (∃ n : Nat, (∀ w, (Instr.index 9 (.string ⟨l.toArray⟩) (.int .i64 (i : Int))).run Tryz.prog w = .ok (.int .u8 (n : Int)) w) ∧ ((n : Int) == 48) = false) ∨
  ((∀ w, (Instr.index 9 (.string ⟨l.toArray⟩) (.int .i64 (i : Int))).run Tryz.prog w = .ok (.int .u8 48) w) ∧ decide ((i : Int) + 1 < (l.length : Int)) = false) ∨
  ((∀ w, (Instr.index 9 (.string ⟨l.toArray⟩) (.int .i64 (i : Int))).run Tryz.prog w = .ok (.int .u8 48) w) ∧ i + 1 < l.length ∧ ∃ n : Nat, (∀ w, (Instr.index 9 (.string ⟨l.toArray⟩) (.int .i64 ((i : Int) + 1))).run Tryz.prog w = .ok (.int .u8 (n : Int)) w) ∧ ((n : Int) == 120) = false)
theorem no0x (l : By) (i : Nat) (hi : i < l.length) (h : ¬ (l.drop i).take 2 = [48, 120]) : No0x l i := by
  obtain ⟨c, hc⟩ : ∃ c, l[i]? = some c := ⟨l[i], List.getElem?_eq_getElem hi⟩
  by_cases h48 : c = 48
  · subst h48
    by_cases h1 : i + 1 < l.length
    · obtain ⟨d, hd⟩ : ∃ d, l[i + 1]? = some d := ⟨l[i + 1], List.getElem?_eq_getElem h1⟩
      refine Or.inr (Or.inr ⟨str_index l i 48 hc, h1, d.toNat, index_succ l i d hd, byte_ne (n := 120) (by decide) (fun e => h ?_)⟩)
      rw [drop_at hc, drop_at hd, e]
      simp
    · exact Or.inr (Or.inl ⟨str_index l i 48 hc, decide_eq_false (by omega)⟩)
  · exact Or.inl ⟨c.toNat, str_index l i c hc, byte_ne (n := 48) (by decide) h48⟩
def NoPt (l : By) (a : Nat) : Prop :=
  (decide ((a : Int) + 1 < (l.length : Int)) = false) ∨ (a + 1 < l.length ∧ ∃ n : Nat, (∀ w, (Instr.index 9 (.string ⟨l.toArray⟩) (.int .i64 (a : Int))).run Tryz.prog w = .ok (.int .u8 (n : Int)) w) ∧ ((n : Int) == 46) = false ∧ (∀ w, Calls Tryz.prog 94 #[.int .u8 (n : Int)] w fun e w' => e = .returned (.bool false) ∧ w' = w)) ∨
  (a + 1 < l.length ∧ (∀ w, (Instr.index 9 (.string ⟨l.toArray⟩) (.int .i64 (a : Int))).run Tryz.prog w = .ok (.int .u8 46) w) ∧ ∃ n : Nat, (∀ w, (Instr.index 9 (.string ⟨l.toArray⟩) (.int .i64 ((a : Int) + 1))).run Tryz.prog w = .ok (.int .u8 (n : Int)) w) ∧ (∀ w, Calls Tryz.prog 94 #[.int .u8 (n : Int)] w fun e w' => e = .returned (.bool false) ∧ w' = w))
theorem dig46 (w : World) : Calls Tryz.prog 94 #[.int .u8 46] w fun e w' => e = .returned (.bool false) ∧ w' = w := rdigit_walk 46 false rfl w
theorem noPt (l : By) (a : Nat) (hz : ∀ c, l[a]? = some c → dgt c = false) (h : ¬ (l[a]? = some 46 ∧ run dgt (l.drop (a + 1)) ≠ 0)) : NoPt l a := by
  by_cases h1 : a + 1 < l.length
  · obtain ⟨c, hc⟩ : ∃ c, l[a]? = some c := ⟨l[a], List.getElem?_eq_getElem (by omega)⟩
    obtain ⟨d, hd⟩ : ∃ d, l[a + 1]? = some d := ⟨l[a + 1], List.getElem?_eq_getElem h1⟩
    by_cases h46 : c = 46
    · subst h46
      have hdd : dgt d = false := by
        cases hdd : dgt d
        · rfl
        · refine absurd ⟨hc, fun e => ?_⟩ h
          rw [run_zero] at e
          have := e d (by rw [drop_zero_get]; exact hd)
          rw [this] at hdd
          cases hdd
      have kd := rdigit_walk d.toNat _ rfl
      rw [(class_nat d).2.1, hdd] at kd
      exact Or.inr (Or.inr ⟨h1, str_index l a 46 hc, d.toNat, index_succ l a d hd, kd⟩)
    · have kd := rdigit_walk c.toNat _ rfl
      rw [(class_nat c).2.1, hz c hc] at kd
      exact Or.inr (Or.inl ⟨h1, c.toNat, str_index l a c hc, byte_ne (n := 46) (by decide) h46, kd⟩)
  · exact Or.inl (decide_eq_false (by omega))
set_option maxRecDepth 20000 in
set_option maxHeartbeats 8000000 in
theorem numeral_int (l x : By) (i a : Nat) (v : Int) (b : Bool) (hi : i < l.length) (ha : a ≤ l.length) (hl : l.length ≤ 4096) (h0 : No0x l i) (hrun : Hidden (i + run dgt (l.drop i) = a)) (hia : i ≤ a) (hpt : Hidden (NoPt l a))
    (hx : Hidden ((l.drop i).take (a - i) = x)) (hdx : Hidden (∀ c ∈ x, dgt c = true)) (hn : Hidden (numR x = (v, b))) (hxl : x.length ≤ 4096) (w : World) :
    Calls Tryz.prog 95 #[.string ⟨l.toArray⟩, .int .i64 (i : Int)] w fun r w' => r = .returned (.tuple #[.agg #[.int .i64 3, .string ⟨x.toArray⟩, .int .i64 (if b then 1 else 0), .int .u64 (if b then v else 0), .int .i64 (i : Int)], .int .i64 (if b then 0 else 80)]) ∧ Fr (fun _ => False) w w' := by
  have hs := str_len l
  have kn := number_walk x v b (by omega) hdx hn
  have hsl := slice_mid l i a hia ha (by omega)
  rw [show (l.drop i).take (a - i) = x from hx] at hsl
  rcases h0 with ⟨n0, hx0, h48⟩ | ⟨hx0, h1⟩ | ⟨hx0, h1, n1, hx1, h120⟩
  all_goals
    go_enter Tryz.func95, Tryz.ntmps95
    go_wp2_with fail
    go_loopg [7] (l.length - (i)) (fun k iv wr => ∃ j : Nat, iv = .int .i64 (j : Int) ∧ i ≤ j ∧ j ≤ l.length ∧ j + run dgt (l.drop j) = a ∧ k = l.length - j ∧ wr = ((w.alloc (.cells #[.int .i64 0, .string ⟨#[]⟩, .int .i64 0, .int .u64 0, .int .i64 0] 92 (0, 0))).alloc (.cells #[.int .i64 3, .string ⟨#[]⟩, .int .i64 0, .int .u64 0, .int .i64 (i : Int)] 92 (0, 0))))
    case atStart => exact ⟨i, by first | rfl | go_num, by omega, by omega, hrun, rfl, rfl⟩
    case round =>
      obtain ⟨j, rfl, hsj, hj, hf, hgk, rfl⟩ := hrel
      have hgkH : Hidden (gk = l.length - j) := hgk
      clear hgk
      have next : ∀ c, l[j]? = some c → dgt c = true → j + 1 + run dgt (l.drop (j + 1)) = a := fun c hc hp => by rw [run_step _ l j c hc, if_pos hp] at hf; omega
      by_cases hgo : ∃ c, l[j]? = some c ∧ dgt c = true
      · obtain ⟨c, hc, hp⟩ := hgo
        have hjl : j < l.length := (List.getElem?_eq_some_iff.1 hc).1
        have hxj := str_index l j c hc
        have kc := rdigit_walk c.toNat _ rfl
        rw [(class_nat c).2.1, hp] at kc
        have hfH : Hidden (j + 1 + run dgt (l.drop (j + 1)) = a) := next c hc hp
        clear hf next hc hp
        go_wp2_with (go_at_call 94; refine (kc _).mono ?_; rintro e w' ⟨rfl, rfl⟩)
        go_roundg (l.length - (j + 1))
        case measure =>
          have : gk = l.length - j := hgkH
          omega
        case rel => exact ⟨j + 1, by go_num, by omega, by omega, hfH, rfl, rfl⟩
      · have hja : j = a := by
          have hz : run dgt (l.drop j) = 0 := by
            rw [run_zero]
            intro c hc
            rw [drop_zero_get] at hc
            cases hpc : dgt c
            · rfl
            · exact absurd ⟨c, hc, hpc⟩ hgo
          omega
        have stop : (¬ j < l.length) ∨ ∃ n : Nat, j < l.length ∧ (∀ w, (Instr.index 9 (.string ⟨l.toArray⟩) (.int .i64 (j : Int))).run Tryz.prog w = .ok (.int .u8 (n : Int)) w) ∧ (∀ w, Calls Tryz.prog 94 #[.int .u8 (n : Int)] w fun e w' => e = .returned (.bool false) ∧ w' = w) := by
          by_cases hjl : j < l.length
          · obtain ⟨c, hc⟩ : ∃ c, l[j]? = some c := ⟨l[j], List.getElem?_eq_getElem hjl⟩
            have kc := rdigit_walk c.toNat _ rfl
            have hpc : dgt c = false := by
              cases hpc : dgt c
              · rfl
              · exact absurd ⟨c, hc, hpc⟩ hgo
            rw [(class_nat c).2.1, hpc] at kc
            exact Or.inr ⟨c.toNat, hjl, str_index l j c hc, kc⟩
          · exact Or.inl hjl
        clear hf next hgo
        subst hja
        rcases (show NoPt l j from hpt) with np | ⟨np1, n2, np2, np3, np4⟩ | ⟨np1, np2, n2, np3, np4⟩
        · rcases stop with hjl | ⟨n, hjl, hxj, kc⟩
          all_goals
            cases b
            all_goals
              go_wp2_with (first
                | (go_at_call 94; refine (kc _).mono ?_; rintro e w' ⟨rfl, rfl⟩)
                | (go_at_call 144; refine (kn _).mono ?_; rintro e w' ⟨rfl, rfl⟩))
              (try simp only [Exit.inBlock, Exit.then])
              exact post_cell rfl rfl w.heap.size _ rfl (run_loadVar_row _ _ _ _ _ _ _ (heap_alloc2_old _ _ _) Tryz.underlying92 rfl info_rtok) ⟨rfl, (Fr.alloc _ _ _).same (Fr.alloc _ _ _)⟩
        · clear stop
          have hjl : j < l.length := by omega
          cases b
          all_goals
            go_wp2_with (first
              | (go_at_call 94; refine (np4 _).mono ?_; rintro e w' ⟨rfl, rfl⟩)
              | (go_at_call 144; refine (kn _).mono ?_; rintro e w' ⟨rfl, rfl⟩))
            (try simp only [Exit.inBlock, Exit.then])
            exact post_cell rfl rfl w.heap.size _ rfl (run_loadVar_row _ _ _ _ _ _ _ (heap_alloc2_old _ _ _) Tryz.underlying92 rfl info_rtok) ⟨rfl, (Fr.alloc _ _ _).same (Fr.alloc _ _ _)⟩
        · clear stop
          have hjl : j < l.length := by omega
          cases b
          all_goals
            go_wp2_with fail
            go_at_call 94
            refine (dig46 _).mono ?_
            rintro e w' ⟨rfl, rfl⟩
            go_wp2_with (first
              | (go_at_call 94; refine (np4 _).mono ?_; rintro e w' ⟨rfl, rfl⟩)
              | (go_at_call 144; refine (kn _).mono ?_; rintro e w' ⟨rfl, rfl⟩))
            (try simp only [Exit.inBlock, Exit.then])
            exact post_cell rfl rfl w.heap.size _ rfl (run_loadVar_row _ _ _ _ _ _ _ (heap_alloc2_old _ _ _) Tryz.underlying92 rfl info_rtok) ⟨rfl, (Fr.alloc _ _ _).same (Fr.alloc _ _ _)⟩
set_option maxRecDepth 20000 in
set_option maxHeartbeats 8000000 in
theorem numeral_flt (l x : By) (i a bb nd : Nat) (v e : Int) (hi : i < l.length) (ha : a + 1 < l.length) (hb : bb ≤ l.length) (hl : l.length ≤ 4096) (h0 : No0x l i) (hrun : Hidden (i + run dgt (l.drop i) = a)) (hia : i ≤ a) (hab : a + 1 ≤ bb)
    (hp46 : Hidden (l[a]? = some 46)) (hx46 : ∀ w, (Instr.index 9 (.string ⟨l.toArray⟩) (.int .i64 (a : Int))).run Tryz.prog w = .ok (.int .u8 46) w)
    (hxd : ∀ w, (Instr.index 9 (.string ⟨l.toArray⟩) (.int .i64 ((a : Int) + 1))).run Tryz.prog w = .ok (.int .u8 (nd : Int)) w) (kd : ∀ w, Calls Tryz.prog 94 #[.int .u8 (nd : Int)] w fun e w' => e = .returned (.bool true) ∧ w' = w)
    (hrun2 : Hidden (a + 1 + run dgt (l.drop (a + 1)) = bb))
    (hx : Hidden ((l.drop i).take (bb - i) = x)) (hp : Hidden (F.litS x = (v, e))) (hxl : x.length ≤ 4096) (w : World) :
    Calls Tryz.prog 95 #[.string ⟨l.toArray⟩, .int .i64 (i : Int)] w fun r w' => r = .returned (.tuple #[.agg #[.int .i64 4, .string ⟨x.toArray⟩, .int .i64 2, .int .u64 v, .int .i64 (i : Int)], .int .i64 e]) ∧ Fr (fun _ => False) w w' := by
  have hs := str_len l
  have kp := F.rlit_any x v e hp (by omega)
  have hsl := slice_mid l i bb (by omega) hb (by omega)
  rw [show (l.drop i).take (bb - i) = x from hx] at hsl
  rcases h0 with ⟨n0, hx0, h48⟩ | ⟨hx0, h1⟩ | ⟨hx0, h1, n1, hx1, h120⟩
  all_goals
    go_enter Tryz.func95, Tryz.ntmps95
    go_wp2_with fail
    go_loopg [7] (l.length - (i)) (fun k iv wr => ∃ j : Nat, iv = .int .i64 (j : Int) ∧ i ≤ j ∧ j ≤ l.length ∧ j + run dgt (l.drop j) = a ∧ k = l.length - j ∧ wr = ((w.alloc (.cells #[.int .i64 0, .string ⟨#[]⟩, .int .i64 0, .int .u64 0, .int .i64 0] 92 (0, 0))).alloc (.cells #[.int .i64 3, .string ⟨#[]⟩, .int .i64 0, .int .u64 0, .int .i64 (i : Int)] 92 (0, 0))))
    case atStart => exact ⟨i, by first | rfl | go_num, by omega, by omega, hrun, rfl, rfl⟩
    case round =>
      obtain ⟨j, rfl, hsj, hj, hf, hgk, rfl⟩ := hrel
      have hgkH : Hidden (gk = l.length - j) := hgk
      clear hgk
      have next : ∀ c, l[j]? = some c → dgt c = true → j + 1 + run dgt (l.drop (j + 1)) = a := fun c hc hp => by rw [run_step _ l j c hc, if_pos hp] at hf; omega
      by_cases hgo : ∃ c, l[j]? = some c ∧ dgt c = true
      · obtain ⟨c, hc, hp⟩ := hgo
        have hjl : j < l.length := (List.getElem?_eq_some_iff.1 hc).1
        have hxj := str_index l j c hc
        have kc := rdigit_walk c.toNat _ rfl
        rw [(class_nat c).2.1, hp] at kc
        have hfH : Hidden (j + 1 + run dgt (l.drop (j + 1)) = a) := next c hc hp
        clear hf next hc hp
        go_wp2_with (go_at_call 94; refine (kc _).mono ?_; rintro e w' ⟨rfl, rfl⟩)
        go_roundg (l.length - (j + 1))
        case measure =>
          have : gk = l.length - j := hgkH
          omega
        case rel => exact ⟨j + 1, by go_num, by omega, by omega, hfH, rfl, rfl⟩
      · have hja : j = a := by
          have hz : run dgt (l.drop j) = 0 := by
            rw [run_zero]
            intro c hc
            rw [drop_zero_get] at hc
            cases hpc : dgt c
            · rfl
            · exact absurd ⟨c, hc, hpc⟩ hgo
          omega
        have stop : (¬ j < l.length) ∨ ∃ n : Nat, j < l.length ∧ (∀ w, (Instr.index 9 (.string ⟨l.toArray⟩) (.int .i64 (j : Int))).run Tryz.prog w = .ok (.int .u8 (n : Int)) w) ∧ (∀ w, Calls Tryz.prog 94 #[.int .u8 (n : Int)] w fun e w' => e = .returned (.bool false) ∧ w' = w) := by
          by_cases hjl : j < l.length
          · obtain ⟨c, hc⟩ : ∃ c, l[j]? = some c := ⟨l[j], List.getElem?_eq_getElem hjl⟩
            have kc := rdigit_walk c.toNat _ rfl
            have hpc : dgt c = false := by
              cases hpc : dgt c
              · rfl
              · exact absurd ⟨c, hc, hpc⟩ hgo
            rw [(class_nat c).2.1, hpc] at kc
            exact Or.inr ⟨c.toNat, hjl, str_index l j c hc, kc⟩
          · exact Or.inl hjl
        clear hf next hgo
        subst hja
        clear stop
        have hjl : j < l.length := by omega
        obtain ⟨a, hae⟩ : ∃ a, a = j := ⟨_, rfl⟩
        rw [← hae] at hp46 hx46 hxd hrun2 ha hjl hsj ⊢
        clear hae hj
        go_wp2_with fail
        go_at_call 94
        refine (dig46 _).mono ?_
        rintro e w' ⟨rfl, rfl⟩
        go_wp2_with fail
        go_at_call 94
        refine (kd _).mono ?_
        rintro e w' ⟨rfl, rfl⟩
        go_wp2_with fail
        go_loopg [7] (l.length - (a + 1)) (fun k iv wr => ∃ j : Nat, iv = .int .i64 (j : Int) ∧ a + 1 ≤ j ∧ j ≤ l.length ∧ j + run dgt (l.drop j) = bb ∧ k = l.length - j ∧ wr = ((w.alloc (.cells #[.int .i64 0, .string ⟨#[]⟩, .int .i64 0, .int .u64 0, .int .i64 0] 92 (0, 0))).alloc (.cells #[.int .i64 3, .string ⟨#[]⟩, .int .i64 0, .int .u64 0, .int .i64 (i : Int)] 92 (0, 0))))
        case atStart => exact ⟨a + 1, by first | rfl | go_num, by omega, by omega, hrun2, rfl, rfl⟩
        case round =>
          obtain ⟨j, rfl, hsj, hj, hf, hgk, rfl⟩ := hrel
          have hgkH : Hidden (gk = l.length - j) := hgk
          clear hgk
          have next : ∀ c, l[j]? = some c → dgt c = true → j + 1 + run dgt (l.drop (j + 1)) = bb := fun c hc hp => by rw [run_step _ l j c hc, if_pos hp] at hf; omega
          by_cases hgo : ∃ c, l[j]? = some c ∧ dgt c = true
          · obtain ⟨c, hc, hp⟩ := hgo
            have hjl : j < l.length := (List.getElem?_eq_some_iff.1 hc).1
            have hxj := str_index l j c hc
            have kc := rdigit_walk c.toNat _ rfl
            rw [(class_nat c).2.1, hp] at kc
            have hfH : Hidden (j + 1 + run dgt (l.drop (j + 1)) = bb) := next c hc hp
            clear hf next hc hp
            go_wp2_with (go_at_call 94; refine (kc _).mono ?_; rintro e w' ⟨rfl, rfl⟩)
            go_roundg (l.length - (j + 1))
            case measure =>
              have : gk = l.length - j := hgkH
              omega
            case rel => exact ⟨j + 1, by go_num, by omega, by omega, hfH, rfl, rfl⟩
          · have hja : j = bb := by
              have hz : run dgt (l.drop j) = 0 := by
                rw [run_zero]
                intro c hc
                rw [drop_zero_get] at hc
                cases hpc : dgt c
                · rfl
                · exact absurd ⟨c, hc, hpc⟩ hgo
              omega
            have stop : (¬ j < l.length) ∨ ∃ n : Nat, j < l.length ∧ (∀ w, (Instr.index 9 (.string ⟨l.toArray⟩) (.int .i64 (j : Int))).run Tryz.prog w = .ok (.int .u8 (n : Int)) w) ∧ (∀ w, Calls Tryz.prog 94 #[.int .u8 (n : Int)] w fun e w' => e = .returned (.bool false) ∧ w' = w) := by
              by_cases hjl : j < l.length
              · obtain ⟨c, hc⟩ : ∃ c, l[j]? = some c := ⟨l[j], List.getElem?_eq_getElem hjl⟩
                have kc := rdigit_walk c.toNat _ rfl
                have hpc : dgt c = false := by
                  cases hpc : dgt c
                  · rfl
                  · exact absurd ⟨c, hc, hpc⟩ hgo
                rw [(class_nat c).2.1, hpc] at kc
                exact Or.inr ⟨c.toNat, hjl, str_index l j c hc, kc⟩
              · exact Or.inl hjl
            clear hf next hgo
            subst hja
            rcases stop with hjl | ⟨n, hjl, hxj, kc⟩
            all_goals
              go_wp2_with (first
                | (go_at_call 94; refine (kc _).mono ?_; rintro e w' ⟨rfl, rfl⟩)
                | (go_at_call 143; refine (kp _).mono ?_; rintro e1 W1 ⟨rfl, g1⟩; have f1 := fr_of_kept g1.1 g1.2
                   have ha : Hidden (W1.heap[w.heap.size]? = some (.cells #[.int .i64 0, .string ⟨#[]⟩, .int .i64 0, .int .u64 0, .int .i64 0] 92 (0, 0))) := f1.heap (heap_alloc2_old _ _ _) (fun f => f)
                   have hb : Hidden (W1.heap[w.heap.size + 1]? = some (.cells #[.int .i64 4, .string ⟨x.toArray⟩, .int .i64 0, .int .u64 0, .int .i64 (i : Int)] 92 (0, 0))) := f1.heap (heap_alloc2_new _ _ _) (fun f => f)
                   have ca0 : W1.cell? ⟨w.heap.size, 0, none⟩ = some (.int .i64 0) := cell_of_row _ _ 0 _ _ _ ha
                   have fa0 := frozen_row ha 0
                   have ca1 : W1.cell? ⟨w.heap.size, 1, none⟩ = some (.string ⟨#[]⟩) := cell_of_row _ _ 1 _ _ _ ha
                   have fa1 := frozen_row ha 1
                   have ca2 : W1.cell? ⟨w.heap.size, 2, none⟩ = some (.int .i64 0) := cell_of_row _ _ 2 _ _ _ ha
                   have fa2 := frozen_row ha 2
                   have ca3 : W1.cell? ⟨w.heap.size, 3, none⟩ = some (.int .u64 0) := cell_of_row _ _ 3 _ _ _ ha
                   have fa3 := frozen_row ha 3
                   have ca4 : W1.cell? ⟨w.heap.size, 4, none⟩ = some (.int .i64 0) := cell_of_row _ _ 4 _ _ _ ha
                   have fa4 := frozen_row ha 4
                   have cb0 : W1.cell? ⟨w.heap.size + 1, 0, none⟩ = some (.int .i64 4) := cell_of_row _ _ 0 _ _ _ hb
                   have fb0 := frozen_row hb 0
                   have cb1 : W1.cell? ⟨w.heap.size + 1, 1, none⟩ = some (.string ⟨x.toArray⟩) := cell_of_row _ _ 1 _ _ _ hb
                   have fb1 := frozen_row hb 1
                   have cb2 : W1.cell? ⟨w.heap.size + 1, 2, none⟩ = some (.int .i64 0) := cell_of_row _ _ 2 _ _ _ hb
                   have fb2 := frozen_row hb 2
                   have cb3 : W1.cell? ⟨w.heap.size + 1, 3, none⟩ = some (.int .u64 0) := cell_of_row _ _ 3 _ _ _ hb
                   have fb3 := frozen_row hb 3
                   have cb4 : W1.cell? ⟨w.heap.size + 1, 4, none⟩ = some (.int .i64 (i : Int)) := cell_of_row _ _ 4 _ _ _ hb
                   have fb4 := frozen_row hb 4
                   skip))
              (try simp only [Exit.inBlock, Exit.then])
              have ha2 : ((W1.setCell ⟨w.heap.size + 1, 2, none⟩ (.int .i64 2)).setCell ⟨w.heap.size + 1, 3, none⟩ (.int .u64 v)).heap[w.heap.size]? = some (.cells #[.int .i64 0, .string ⟨#[]⟩, .int .i64 0, .int .u64 0, .int .i64 0] 92 (0, 0)) := by
                rw [heap_setCell_other _ _ _ _ (by show w.heap.size ≠ w.heap.size + 1; omega), heap_setCell_other _ _ _ _ (by show w.heap.size ≠ w.heap.size + 1; omega)]
                exact ha
              refine post_rtok ha2 rfl rfl rfl ⟨rfl, ?_⟩
              exact fr_five (fr_two (((Fr.alloc (fun _ => False) w _).same (Fr.alloc _ _ _)).same f1) (by omega) 2 3 _ _) (Nat.le_refl _) _ _ _ _ _
end Go.Proofs.YteijjaabngkbjaaGreatDoor
namespace Go.Proofs.YteijjaabngkbjaaGreatDoor
open Go.RowKit Lx
set_option linter.unusedSimpArgs false
set_option linter.unusedVariables false
theorem runD_all (l : By) (h : ∀ c ∈ l, dgt c = true) : I.runD l = l.length := by
  induction l with
  | nil => rfl
  | cons c r ih =>
    have hc : I.isd c = true := h c (by simp)
    rw [I.runD, if_pos hc, ih (fun d hd => h d (by simp [hd]))]
    rfl
theorem noughts_props : ∀ (l : By), l ≠ [] → (∀ c ∈ l, dgt c = true) → noughts l ≠ [] ∧ (∀ c ∈ noughts l, dgt c = true) ∧ I.numD (noughts l) = I.numD l ∧ ¬ (1 < (noughts l).length ∧ (noughts l).head? = some 48)
  | [], h, _ => absurd rfl h
  | [c], _, hd => ⟨by simp [noughts], hd, rfl, by simp [noughts]⟩
  | c :: d :: r, _, hd => by
    unfold noughts
    split
    · rename_i hc
      obtain ⟨h1, h2, h3, h4⟩ := noughts_props (d :: r) (by simp) (fun x hx => hd x (by simp [hx]))
      refine ⟨h1, h2, ?_, h4⟩
      rw [h3, hc]
      simp [I.numD, I.stepD]
    · rename_i hc
      exact ⟨by simp, hd, rfl, fun h => hc (by simpa using h.2)⟩
theorem nat_num (x : By) (h0 : x ≠ []) (hd : ∀ c ∈ x, dgt c = true) : I.natS (noughts x) = if I.numD x ≤ 9223372036854775807 then ((I.numD x : Int), 0, 0) else (0, 0, 80) := by
  obtain ⟨h1, h2, h3, h4⟩ := noughts_props x h0 hd
  unfold I.natS I.amtS
  rw [runD_all _ h2, if_neg (by omega), if_neg (fun e => h1 (List.eq_nil_of_length_eq_zero e)), if_neg h4, h3]
  by_cases h : I.numD x ≤ 9223372036854775807
  · rw [if_neg (by omega), if_pos h]
  · rw [if_pos (by omega), if_neg h]
theorem take_run (p : UInt8 → Bool) (l : By) : ∀ c ∈ l.take (run p l), p c = true := by
  have h := run_all p (l.take (run p l)) (l.drop (run p l)) (by rw [List.take_append_drop, List.length_take]; have := run_le p l; omega)
  exact h.1
theorem run_stopped (p : UInt8 → Bool) (l : By) (c : UInt8) (h : l[run p l]? = some c) : p c = false := by
  have hh := run_all p (l.take (run p l)) (l.drop (run p l)) (by rw [List.take_append_drop, List.length_take]; have := run_le p l; omega)
  exact hh.2 c (by rw [drop_zero_get]; exact h)
theorem parse_err (x : By) : (F.parseS x).2 = 0 ∨ (F.parseS x).2 = 10 := by
  unfold F.parseS
  split
  · exact Or.inl rfl
  · exact Or.inr rfl
def RTok (l : By) (i k n : Nat) (r : Ending) : Prop :=
  ∃ t b e : Int, r = .returned (.tuple #[.agg #[.int .i64 (k : Int), .string ⟨((l.drop i).take n).toArray⟩, .int .i64 t, .int .u64 b, .int .i64 (i : Int)], .int .i64 e]) ∧
    e = (valS k ((l.drop i).take n)).2.2 ∧ (e = 0 → t = (valS k ((l.drop i).take n)).1 ∧ b = (valS k ((l.drop i).take n)).2.1)
theorem numeral_any (l : By) (i k n : Nat) (c : UInt8) (hc : l[i]? = some c) (hd : dgt c = true) (hl : l.length ≤ 4096) (h : numLen (l.drop i) = (k, n)) (w : World) :
    Calls Tryz.prog 95 #[.string ⟨l.toArray⟩, .int .i64 (i : Int)] w fun r w' => RTok l i k n r ∧ Fr (fun _ => False) w w' := by
  have hi : i < l.length := (List.getElem?_eq_some_iff.1 hc).1
  have ed := drop_at hc
  unfold numLen at h
  by_cases e1 : (l.drop i).take 2 = [48, 120]
  · rw [if_pos e1] at h
    simp only [Prod.mk.injEq, List.drop_drop] at h
    obtain ⟨rfl, h⟩ := h
    have hlen : i + 2 ≤ l.length := by
      have := congrArg List.length e1
      simp only [List.length_take, List.length_drop, List.length_cons, List.length_nil] at this
      omega
    obtain ⟨d, hdd⟩ : ∃ d, l[i + 1]? = some d := ⟨l[i + 1]'(by omega), List.getElem?_eq_getElem (by omega)⟩
    have e2 := e1
    rw [ed, drop_at hdd] at e2
    simp only [List.take_succ_cons, List.take_zero, List.cons.injEq, and_true] at e2
    obtain ⟨rfl, rfl⟩ := e2
    have hr := run_le hxB (l.drop (i + 2))
    rw [List.length_drop] at hr
    have hx4 : ((l.drop i).take n).length ≤ 4096 := by rw [List.length_take, List.length_drop]; omega
    have hxt : ((l.drop i).take n).take 2 = [48, 120] := by rw [List.take_take, show min 2 n = 2 by omega, e1]
    have := numeral_hex l ((l.drop i).take n) i (i + n) (F.parseS ((l.drop i).take n)).1 (F.parseS ((l.drop i).take n)).2 hlen (by omega) hl hc hdd (by show _ = _; omega) (by omega) (by show _ = _; rw [show i + n - i = n by omega]) rfl hx4 w
    refine this.mono fun r w' ⟨h1, h2⟩ => ⟨⟨_, _, _, h1, ?_, ?_⟩, h2⟩
    · unfold valS
      simp only [Nat.reduceEqDiff, if_false, if_true, if_pos hxt]
      rcases parse_err ((l.drop i).take n) with he | he
      · simp only [he, if_true]
      · simp only [he, Int.reduceEq, if_false]
    · intro he
      unfold valS
      simp only [Nat.reduceEqDiff, if_false, if_true, if_pos hxt]
      rcases parse_err ((l.drop i).take n) with he2 | he2
      · simp only [he2, if_true, and_self]
      · rw [he2] at he
        simp at he
  · rw [if_neg e1] at h
    have hr := run_le dgt (l.drop i)
    rw [List.length_drop] at hr
    have hr1 : 1 ≤ run dgt (l.drop i) := by rw [ed, run_cons, if_pos hd]; omega
    obtain ⟨a, ha⟩ : ∃ a, i + run dgt (l.drop i) = a := ⟨_, rfl⟩
    have e2 : (l.drop i)[run dgt (l.drop i)]? = l[a]? := by rw [List.getElem?_drop, ha]
    rw [e2, List.drop_drop, show i + (run dgt (l.drop i) + 1) = a + 1 by omega] at h
    have hn0 := no0x l i hi e1
    by_cases e3 : l[a]? = some 46 ∧ run dgt (l.drop (a + 1)) ≠ 0
    · rw [if_pos e3] at h
      simp only [Prod.mk.injEq] at h
      obtain ⟨rfl, h⟩ := h
      have hr2 := run_le dgt (l.drop (a + 1))
      rw [List.length_drop] at hr2
      obtain ⟨d, hdd⟩ : ∃ d, l[a + 1]? = some d := ⟨l[a + 1]'(by omega), List.getElem?_eq_getElem (by omega)⟩
      have hdg : dgt d = true := by
        have := e3.2
        rw [drop_at hdd, run_cons] at this
        cases hdg : dgt d
        · rw [hdg] at this; simp at this
        · rfl
      have kd := rdigit_walk d.toNat _ rfl
      rw [(class_nat d).2.1, hdg] at kd
      have hx4 : ((l.drop i).take n).length ≤ 4096 := by rw [List.length_take, List.length_drop]; omega
      have hxt : ¬ ((l.drop i).take n).take 2 = [48, 120] := by rw [List.take_take, show min 2 n = 2 by omega]; exact e1
      have := numeral_flt l ((l.drop i).take n) i a (i + n) d.toNat (F.litS ((l.drop i).take n)).1 (F.litS ((l.drop i).take n)).2 hi (by omega) (by omega) hl hn0 ha (by omega) (by omega) e3.1 (str_index l a 46 e3.1) (index_succ l a d hdd) kd (by show _ = _; omega) (by show _ = _; rw [show i + n - i = n by omega]) rfl hx4 w
      refine this.mono fun r w' ⟨h1, h2⟩ => ⟨⟨_, _, _, h1, ?_, ?_⟩, h2⟩
      · unfold valS
        simp only [Nat.reduceEqDiff, if_false, if_true, if_neg hxt]
        split <;> simp_all
      · intro he
        unfold valS
        simp only [Nat.reduceEqDiff, if_false, if_true, if_neg hxt, he, and_self]
    · rw [if_neg e3] at h
      simp only [Prod.mk.injEq] at h
      obtain ⟨rfl, h⟩ := h
      have hx4 : ((l.drop i).take n).length ≤ 4096 := by rw [List.length_take, List.length_drop]; omega
      have hdx : ∀ c ∈ (l.drop i).take n, dgt c = true := by rw [← h]; exact take_run dgt (l.drop i)
      have hx0 : (l.drop i).take n ≠ [] := by
        intro e
        have := congrArg List.length e
        rw [List.length_take, List.length_drop] at this
        simp at this
        omega
      have hz : ∀ c, l[a]? = some c → dgt c = false := fun c hc' => run_stopped dgt (l.drop i) c (by rw [e2]; exact hc')
      have := numeral_int l ((l.drop i).take n) i a (numR ((l.drop i).take n)).1 (numR ((l.drop i).take n)).2 hi (by omega) hl hn0 ha (by omega) (noPt l a hz e3) (by show _ = _; rw [show a - i = n by omega]) hdx rfl hx4 w
      refine this.mono fun r w' ⟨h1, h2⟩ => ⟨⟨_, _, _, h1, ?_, ?_⟩, h2⟩
      · unfold valS numR
        simp only [Nat.reduceEqDiff, if_false, if_true]
        rw [nat_num _ hx0 hdx]
        by_cases hb : I.numD ((l.drop i).take n) ≤ 9223372036854775807
        · simp [hb]
        · simp [hb]
      · intro he
        unfold valS numR at *
        simp only [Nat.reduceEqDiff, if_false, if_true] at *
        rw [nat_num _ hx0 hdx]
        by_cases hb : I.numD ((l.drop i).take n) ≤ 9223372036854775807
        · simp [hb]
        · simp [hb] at he
end Go.Proofs.YteijjaabngkbjaaGreatDoor
namespace Go.Proofs.YteijjaabngkbjaaGreatDoor
open Go.RowKit Lx
set_option linter.unusedSimpArgs false
set_option linter.unusedVariables false
theorem setOther {w : World} {g h : Nat} {o : Obj} (hg : w.heap[g]? = some o) (hne : g ≠ h) (j : Nat) (v : Value) : (w.setCell ⟨h, j, none⟩ v).heap[g]? = some o := (heap_setCell_other _ _ _ _ hne).trans hg
theorem fr_one {S : Nat → Prop} {w w' : World} (h : Fr S w w') {g : Nat} (hg : w.heap.size ≤ g) (i : Nat) (x : Value) : Fr S w (w'.setCell ⟨g, i, none⟩ x) :=
  h.over (Fr.setCell w' ⟨g, i, none⟩ x) (fun k hk => by subst hk; exact hg)
set_option maxRecDepth 20000 in
set_option maxHeartbeats 4000000 in
theorem next_num (l : By) (i n k m : Nat) (hl : l.length ≤ 4096)
    (hx : ∀ w, (Instr.index 9 (.string ⟨l.toArray⟩) (.int .i64 (i : Int))).run Tryz.prog w = .ok (.int .u8 (n : Int)) w) (hlt : Hidden (ltrN n = false)) (hdg : Hidden (dgtN n = true)) (hi : i < l.length) (w : World)
    (kn : ∀ w, Calls Tryz.prog 95 #[.string ⟨l.toArray⟩, .int .i64 (i : Int)] w fun r w' => RTok l i k m r ∧ Fr (fun _ => False) w w') :
    Calls Tryz.prog 46 #[.string ⟨l.toArray⟩, .int .i64 (i : Int)] w fun r w' => RTok l i k m r ∧ Fr (fun _ => False) w w' := by
  have hs := str_len l
  have kl := rletter_walk n false hlt
  have kd := rdigit_walk n true hdg
  go_enter Tryz.func46, Tryz.ntmps46
  go_wp2_with (first
    | (go_at_call 93; refine (kl _).mono ?_; rintro e w' ⟨rfl, rfl⟩)
    | (go_at_call 94; refine (kd _).mono ?_; rintro e w' ⟨rfl, rfl⟩)
    | (go_at_call 95; refine (kn _).mono ?_; rintro e1 W1 ⟨⟨t1, b1, e2, rfl, hv1, hv2⟩, f1⟩
       have hv1H : Hidden (e2 = (valS k ((l.drop i).take m)).2.2) := hv1
       have hv2H : Hidden (e2 = 0 → t1 = (valS k ((l.drop i).take m)).1 ∧ b1 = (valS k ((l.drop i).take m)).2.1) := hv2
       clear hv1 hv2
       have ha : Hidden (W1.heap[w.heap.size]? = some (.cells #[.int .i64 0, .string ⟨#[]⟩, .int .i64 0, .int .u64 0, .int .i64 0] 92 (0, 0))) := f1.heap (heap_alloc2_old _ _ _) (fun f => f)
       have hb : Hidden (W1.heap[w.heap.size + 1]? = some (.cells #[.int .i64 0, .string ⟨#[]⟩, .int .i64 0, .int .u64 0, .int .i64 (i : Int)] 92 (0, 0))) := f1.heap (heap_alloc2_new _ _ _) (fun f => f)
       have ca0 : W1.cell? ⟨w.heap.size, 0, none⟩ = some (.int .i64 0) := cell_of_row _ _ 0 _ _ _ ha
       have fa0 := frozen_row ha 0
       have ca1 : W1.cell? ⟨w.heap.size, 1, none⟩ = some (.string ⟨#[]⟩) := cell_of_row _ _ 1 _ _ _ ha
       have fa1 := frozen_row ha 1
       have ca2 : W1.cell? ⟨w.heap.size, 2, none⟩ = some (.int .i64 0) := cell_of_row _ _ 2 _ _ _ ha
       have fa2 := frozen_row ha 2
       have ca3 : W1.cell? ⟨w.heap.size, 3, none⟩ = some (.int .u64 0) := cell_of_row _ _ 3 _ _ _ ha
       have fa3 := frozen_row ha 3
       have ca4 : W1.cell? ⟨w.heap.size, 4, none⟩ = some (.int .i64 0) := cell_of_row _ _ 4 _ _ _ ha
       have fa4 := frozen_row ha 4
       have cb0 : W1.cell? ⟨w.heap.size + 1, 0, none⟩ = some (.int .i64 0) := cell_of_row _ _ 0 _ _ _ hb
       have fb0 := frozen_row hb 0
       have cb1 : W1.cell? ⟨w.heap.size + 1, 1, none⟩ = some (.string ⟨#[]⟩) := cell_of_row _ _ 1 _ _ _ hb
       have fb1 := frozen_row hb 1
       have cb2 : W1.cell? ⟨w.heap.size + 1, 2, none⟩ = some (.int .i64 0) := cell_of_row _ _ 2 _ _ _ hb
       have fb2 := frozen_row hb 2
       have cb3 : W1.cell? ⟨w.heap.size + 1, 3, none⟩ = some (.int .u64 0) := cell_of_row _ _ 3 _ _ _ hb
       have fb3 := frozen_row hb 3
       have cb4 : W1.cell? ⟨w.heap.size + 1, 4, none⟩ = some (.int .i64 (i : Int)) := cell_of_row _ _ 4 _ _ _ hb
       have fb4 := frozen_row hb 4
       skip))
  (try simp only [Exit.inBlock, Exit.then])
  refine post_rtok ha rfl rfl rfl ⟨⟨t1, b1, e2, rfl, hv1H, hv2H⟩, ?_⟩
  exact fr_five (((Fr.alloc (fun _ => False) w _).same (Fr.alloc _ _ _)).same f1) (Nat.le_refl _) _ _ _ _ _
set_option maxRecDepth 20000 in
set_option maxHeartbeats 4000000 in
theorem next_mark (l : By) (i n m : Nat) (hl : l.length ≤ 4096) (hi : i < l.length) (him : i + m ≤ l.length) (hm2 : m ≤ 2)
    (hx : ∀ w, (Instr.index 9 (.string ⟨l.toArray⟩) (.int .i64 (i : Int))).run Tryz.prog w = .ok (.int .u8 (n : Int)) w) (hlt : Hidden (ltrN n = false)) (hdg : Hidden (dgtN n = false)) (hm : Hidden (mkLen (l.drop i) = m)) (x : By) (hxx : Hidden ((l.drop i).take m = x)) (w : World) :
    Calls Tryz.prog 46 #[.string ⟨l.toArray⟩, .int .i64 (i : Int)] w fun r w' => ((m = 0 ∧ r = .returned (.tuple #[.agg #[.int .i64 0, .string ⟨#[]⟩, .int .i64 0, .int .u64 0, .int .i64 (i : Int)], .int .i64 10])) ∨
      (m ≠ 0 ∧ r = .returned (.tuple #[.agg #[.int .i64 5, .string ⟨x.toArray⟩, .int .i64 0, .int .u64 0, .int .i64 (i : Int)], .int .i64 0]))) ∧ Fr (fun _ => False) w w' := by
  have hs := str_len l
  have kl := rletter_walk n false hlt
  have kd := rdigit_walk n false hdg
  have km := rmark_any l i m hi (by omega) hm
  have hsl : ∀ w, (Instr.slice 9 (.string ⟨l.toArray⟩) (some (.int .i64 (i : Int))) (some (.int .i64 ((i : Int) + (m : Int)))) none).run Tryz.prog w = .ok (.string ⟨x.toArray⟩) w := by
    intro w
    have := slice_mid l i (i + m) (by omega) him (by omega) w
    rw [show i + m - i = m by omega, show (l.drop i).take m = x from hxx, show ((i + m : Nat) : Int) = (i : Int) + (m : Int) by omega] at this
    exact this
  by_cases h0 : m = 0
  · have h1 : ((m : Int) == 0) = true := by simp [h0]
    go_enter Tryz.func46, Tryz.ntmps46
    go_wp2_with (first
      | (go_at_call 93; refine (kl _).mono ?_; rintro e w' ⟨rfl, rfl⟩)
      | (go_at_call 94; refine (kd _).mono ?_; rintro e w' ⟨rfl, rfl⟩)
      | (go_at_call 96; refine (km _).mono ?_; rintro e1 W1 ⟨rfl, f1⟩
         have ha : Hidden (W1.heap[w.heap.size]? = some (.cells #[.int .i64 0, .string ⟨#[]⟩, .int .i64 0, .int .u64 0, .int .i64 0] 92 (0, 0))) := f1.heap (heap_alloc2_old _ _ _) (fun f => f)
         have hb : Hidden (W1.heap[w.heap.size + 1]? = some (.cells #[.int .i64 0, .string ⟨#[]⟩, .int .i64 0, .int .u64 0, .int .i64 (i : Int)] 92 (0, 0))) := f1.heap (heap_alloc2_new _ _ _) (fun f => f)
         have ca0 : W1.cell? ⟨w.heap.size, 0, none⟩ = some (.int .i64 0) := cell_of_row _ _ 0 _ _ _ ha
         have fa0 := frozen_row ha 0
         have ca1 : W1.cell? ⟨w.heap.size, 1, none⟩ = some (.string ⟨#[]⟩) := cell_of_row _ _ 1 _ _ _ ha
         have fa1 := frozen_row ha 1
         have ca2 : W1.cell? ⟨w.heap.size, 2, none⟩ = some (.int .i64 0) := cell_of_row _ _ 2 _ _ _ ha
         have fa2 := frozen_row ha 2
         have ca3 : W1.cell? ⟨w.heap.size, 3, none⟩ = some (.int .u64 0) := cell_of_row _ _ 3 _ _ _ ha
         have fa3 := frozen_row ha 3
         have ca4 : W1.cell? ⟨w.heap.size, 4, none⟩ = some (.int .i64 0) := cell_of_row _ _ 4 _ _ _ ha
         have fa4 := frozen_row ha 4
         have cb0 : W1.cell? ⟨w.heap.size + 1, 0, none⟩ = some (.int .i64 0) := cell_of_row _ _ 0 _ _ _ hb
         have fb0 := frozen_row hb 0
         have cb1 : W1.cell? ⟨w.heap.size + 1, 1, none⟩ = some (.string ⟨#[]⟩) := cell_of_row _ _ 1 _ _ _ hb
         have fb1 := frozen_row hb 1
         have cb2 : W1.cell? ⟨w.heap.size + 1, 2, none⟩ = some (.int .i64 0) := cell_of_row _ _ 2 _ _ _ hb
         have fb2 := frozen_row hb 2
         have cb3 : W1.cell? ⟨w.heap.size + 1, 3, none⟩ = some (.int .u64 0) := cell_of_row _ _ 3 _ _ _ hb
         have fb3 := frozen_row hb 3
         have cb4 : W1.cell? ⟨w.heap.size + 1, 4, none⟩ = some (.int .i64 (i : Int)) := cell_of_row _ _ 4 _ _ _ hb
         have fb4 := frozen_row hb 4
         skip))
    (try simp only [Exit.inBlock, Exit.then])
    refine post_rtok ha rfl rfl rfl ⟨Or.inl ⟨h0, rfl⟩, ?_⟩
    exact fr_five (((Fr.alloc (fun _ => False) w _).same (Fr.alloc _ _ _)).same f1) (Nat.le_refl _) _ _ _ _ _
  · have h1 : ((m : Int) == 0) = false := by rw [beq_eq_false_iff_ne]; omega
    go_enter Tryz.func46, Tryz.ntmps46
    go_wp2_with (first
      | (go_at_call 93; refine (kl _).mono ?_; rintro e w' ⟨rfl, rfl⟩)
      | (go_at_call 94; refine (kd _).mono ?_; rintro e w' ⟨rfl, rfl⟩)
      | (go_at_call 96; refine (km _).mono ?_; rintro e1 W1 ⟨rfl, f1⟩
         have ha : Hidden (W1.heap[w.heap.size]? = some (.cells #[.int .i64 0, .string ⟨#[]⟩, .int .i64 0, .int .u64 0, .int .i64 0] 92 (0, 0))) := f1.heap (heap_alloc2_old _ _ _) (fun f => f)
         have hb : Hidden (W1.heap[w.heap.size + 1]? = some (.cells #[.int .i64 0, .string ⟨#[]⟩, .int .i64 0, .int .u64 0, .int .i64 (i : Int)] 92 (0, 0))) := f1.heap (heap_alloc2_new _ _ _) (fun f => f)
         have ca0 : W1.cell? ⟨w.heap.size, 0, none⟩ = some (.int .i64 0) := cell_of_row _ _ 0 _ _ _ ha
         have fa0 := frozen_row ha 0
         have ca1 : W1.cell? ⟨w.heap.size, 1, none⟩ = some (.string ⟨#[]⟩) := cell_of_row _ _ 1 _ _ _ ha
         have fa1 := frozen_row ha 1
         have ca2 : W1.cell? ⟨w.heap.size, 2, none⟩ = some (.int .i64 0) := cell_of_row _ _ 2 _ _ _ ha
         have fa2 := frozen_row ha 2
         have ca3 : W1.cell? ⟨w.heap.size, 3, none⟩ = some (.int .u64 0) := cell_of_row _ _ 3 _ _ _ ha
         have fa3 := frozen_row ha 3
         have ca4 : W1.cell? ⟨w.heap.size, 4, none⟩ = some (.int .i64 0) := cell_of_row _ _ 4 _ _ _ ha
         have fa4 := frozen_row ha 4
         have cb0 : W1.cell? ⟨w.heap.size + 1, 0, none⟩ = some (.int .i64 0) := cell_of_row _ _ 0 _ _ _ hb
         have fb0 := frozen_row hb 0
         have cb1 : W1.cell? ⟨w.heap.size + 1, 1, none⟩ = some (.string ⟨#[]⟩) := cell_of_row _ _ 1 _ _ _ hb
         have fb1 := frozen_row hb 1
         have cb2 : W1.cell? ⟨w.heap.size + 1, 2, none⟩ = some (.int .i64 0) := cell_of_row _ _ 2 _ _ _ hb
         have fb2 := frozen_row hb 2
         have cb3 : W1.cell? ⟨w.heap.size + 1, 3, none⟩ = some (.int .u64 0) := cell_of_row _ _ 3 _ _ _ hb
         have fb3 := frozen_row hb 3
         have cb4 : W1.cell? ⟨w.heap.size + 1, 4, none⟩ = some (.int .i64 (i : Int)) := cell_of_row _ _ 4 _ _ _ hb
         have fb4 := frozen_row hb 4
         skip))
    (try simp only [Exit.inBlock, Exit.then])
    refine post_rtok (setOther (setOther ha (by omega) _ _) (by omega) _ _) rfl rfl rfl ⟨Or.inr ⟨h0, rfl⟩, ?_⟩
    exact fr_five (fr_two (((Fr.alloc (fun _ => False) w _).same (Fr.alloc _ _ _)).same f1) (by omega) 0 1 _ _) (Nat.le_refl _) _ _ _ _ _
set_option maxRecDepth 20000 in
set_option maxHeartbeats 8000000 in
theorem next_name (l x : By) (i n a : Nat) (wd : Bool) (hl : l.length ≤ 4096) (hi : i < l.length) (ha0 : a ≤ l.length) (hia : i ≤ a)
    (hx : ∀ w, (Instr.index 9 (.string ⟨l.toArray⟩) (.int .i64 (i : Int))).run Tryz.prog w = .ok (.int .u8 (n : Int)) w) (hlt : Hidden (ltrN n = true)) (hrun : Hidden (i + run nmB (l.drop i) = a)) (hxx : Hidden ((l.drop i).take (a - i) = x)) (hxl : x.length ≤ 4096)
    (hw : Hidden (decide (x ∈ wordsL) = wd)) (w : World) :
    Calls Tryz.prog 46 #[.string ⟨l.toArray⟩, .int .i64 (i : Int)] w fun r w' => r = .returned (.tuple #[.agg #[.int .i64 (if wd then 2 else 1), .string ⟨x.toArray⟩, .int .i64 0, .int .u64 0, .int .i64 (i : Int)], .int .i64 (if wd then 0 else if 32 < x.length then 12 else 0)]) ∧ Fr (fun _ => False) w w' := by
  have hs := str_len l
  have hsx := str_len x
  have kl0 := rletter_walk n true hlt
  have kr := rreserved_any x wd hw
  have hsl := slice_mid l i a hia ha0 (by omega)
  rw [show (l.drop i).take (a - i) = x from hxx] at hsl
  go_enter Tryz.func46, Tryz.ntmps46
  go_wp2_with (first
    | (go_at_call 93; refine (kl0 _).mono ?_; rintro e w ⟨rfl, rfl⟩))
  go_loopg [7] (l.length - i) (fun k iv wr => ∃ j : Nat, iv = .int .i64 (j : Int) ∧ i ≤ j ∧ j ≤ l.length ∧ j + run nmB (l.drop j) = a ∧ k = l.length - j ∧ wr = ((w.alloc (.cells #[.int .i64 0, .string ⟨#[]⟩, .int .i64 0, .int .u64 0, .int .i64 0] 92 (0, 0))).alloc (.cells #[.int .i64 0, .string ⟨#[]⟩, .int .i64 0, .int .u64 0, .int .i64 (i : Int)] 92 (0, 0))))
  case atStart => exact ⟨i, rfl, by omega, by omega, hrun, rfl, rfl⟩
  case round =>
    obtain ⟨j, rfl, hsj, hj, hf, hgk, rfl⟩ := hrel
    have hgkH : Hidden (gk = l.length - j) := hgk
    clear hgk kl0
    by_cases hgo : ∃ c, l[j]? = some c ∧ nmB c = true
    · obtain ⟨c, hc, hp⟩ := hgo
      have hjl : j < l.length := (List.getElem?_eq_some_iff.1 hc).1
      have hxj := str_index l j c hc
      rw [run_step _ l j c hc, if_pos hp] at hf
      have hfH : Hidden (j + 1 + run nmB (l.drop (j + 1)) = a) := by show _ = _; omega
      have kl := rletter_walk c.toNat _ rfl
      have kd := rdigit_walk c.toNat _ rfl
      rw [(class_nat c).1] at kl
      rw [(class_nat c).2.1] at kd
      simp only [nmB, Bool.or_eq_true] at hp
      clear hf hc
      cases hlc : ltr c
      · rw [hlc] at kl
        have hdc : dgt c = true := by rcases hp with hp | hp; exact hp; rw [hlc] at hp; cases hp
        rw [hdc] at kd
        clear hlc hp hdc
        go_wp2_with (first
          | (go_at_call 93; refine (kl _).mono ?_; rintro e w' ⟨rfl, rfl⟩)
          | (go_at_call 94; refine (kd _).mono ?_; rintro e w' ⟨rfl, rfl⟩))
        go_roundg (l.length - (j + 1))
        case measure =>
          have : gk = l.length - j := hgkH
          omega
        case rel => exact ⟨j + 1, by go_num, by omega, by omega, hfH, rfl, rfl⟩
      · rw [hlc] at kl
        clear hlc hp kd
        go_wp2_with (first
          | (go_at_call 93; refine (kl _).mono ?_; rintro e w' ⟨rfl, rfl⟩))
        go_roundg (l.length - (j + 1))
        case measure =>
          have : gk = l.length - j := hgkH
          omega
        case rel => exact ⟨j + 1, by go_num, by omega, by omega, hfH, rfl, rfl⟩
    · have hja : j = a := by
        have hz : run nmB (l.drop j) = 0 := by
          rw [run_zero]
          intro c hc
          rw [drop_zero_get] at hc
          cases hpc : nmB c
          · rfl
          · exact absurd ⟨c, hc, hpc⟩ hgo
        omega
      have stop : (¬ j < l.length) ∨ ∃ n : Nat, j < l.length ∧ (∀ w, (Instr.index 9 (.string ⟨l.toArray⟩) (.int .i64 (j : Int))).run Tryz.prog w = .ok (.int .u8 (n : Int)) w) ∧ (∀ w, Calls Tryz.prog 93 #[.int .u8 (n : Int)] w fun e w' => e = .returned (.bool false) ∧ w' = w) ∧ (∀ w, Calls Tryz.prog 94 #[.int .u8 (n : Int)] w fun e w' => e = .returned (.bool false) ∧ w' = w) := by
        by_cases hjl : j < l.length
        · obtain ⟨c, hc⟩ : ∃ c, l[j]? = some c := ⟨l[j], List.getElem?_eq_getElem hjl⟩
          have kl := rletter_walk c.toNat _ rfl
          have kd := rdigit_walk c.toNat _ rfl
          have hpc : nmB c = false := by
            cases hpc : nmB c
            · rfl
            · exact absurd ⟨c, hc, hpc⟩ hgo
          simp only [nmB, Bool.or_eq_false_iff] at hpc
          rw [(class_nat c).1, hpc.2] at kl
          rw [(class_nat c).2.1, hpc.1] at kd
          exact Or.inr ⟨c.toNat, hjl, str_index l j c hc, kl, kd⟩
        · exact Or.inl hjl
      clear hf hgo
      subst hja
      rcases stop with hjl | ⟨n, hjl, hxj, kl, kd⟩
      all_goals
        cases wd
        · by_cases h32 : 32 < x.length
          · go_wp2_with (first
              | (go_at_call 93; refine (kl _).mono ?_; rintro e w' ⟨rfl, rfl⟩)
              | (go_at_call 94; refine (kd _).mono ?_; rintro e w' ⟨rfl, rfl⟩)
              | (go_at_call 85; refine (kr _).mono ?_; rintro e1 W1 ⟨rfl, f1⟩
                 have ha : Hidden (W1.heap[w.heap.size]? = some (.cells #[.int .i64 0, .string ⟨#[]⟩, .int .i64 0, .int .u64 0, .int .i64 0] 92 (0, 0))) := f1.heap (heap_alloc2_old _ _ _) (fun f => f)
                 have hb : Hidden (W1.heap[w.heap.size + 1]? = some (.cells #[.int .i64 1, .string ⟨x.toArray⟩, .int .i64 0, .int .u64 0, .int .i64 (i : Int)] 92 (0, 0))) := f1.heap (heap_alloc2_new _ _ _) (fun f => f)
                 have ca0 : W1.cell? ⟨w.heap.size, 0, none⟩ = some (.int .i64 0) := cell_of_row _ _ 0 _ _ _ ha
                 have fa0 := frozen_row ha 0
                 have ca1 : W1.cell? ⟨w.heap.size, 1, none⟩ = some (.string ⟨#[]⟩) := cell_of_row _ _ 1 _ _ _ ha
                 have fa1 := frozen_row ha 1
                 have ca2 : W1.cell? ⟨w.heap.size, 2, none⟩ = some (.int .i64 0) := cell_of_row _ _ 2 _ _ _ ha
                 have fa2 := frozen_row ha 2
                 have ca3 : W1.cell? ⟨w.heap.size, 3, none⟩ = some (.int .u64 0) := cell_of_row _ _ 3 _ _ _ ha
                 have fa3 := frozen_row ha 3
                 have ca4 : W1.cell? ⟨w.heap.size, 4, none⟩ = some (.int .i64 0) := cell_of_row _ _ 4 _ _ _ ha
                 have fa4 := frozen_row ha 4
                 have cb0 : W1.cell? ⟨w.heap.size + 1, 0, none⟩ = some (.int .i64 1) := cell_of_row _ _ 0 _ _ _ hb
                 have fb0 := frozen_row hb 0
                 have cb1 : W1.cell? ⟨w.heap.size + 1, 1, none⟩ = some (.string ⟨x.toArray⟩) := cell_of_row _ _ 1 _ _ _ hb
                 have fb1 := frozen_row hb 1
                 have cb2 : W1.cell? ⟨w.heap.size + 1, 2, none⟩ = some (.int .i64 0) := cell_of_row _ _ 2 _ _ _ hb
                 have fb2 := frozen_row hb 2
                 have cb3 : W1.cell? ⟨w.heap.size + 1, 3, none⟩ = some (.int .u64 0) := cell_of_row _ _ 3 _ _ _ hb
                 have fb3 := frozen_row hb 3
                 have cb4 : W1.cell? ⟨w.heap.size + 1, 4, none⟩ = some (.int .i64 (i : Int)) := cell_of_row _ _ 4 _ _ _ hb
                 have fb4 := frozen_row hb 4
                 skip))
            (try simp only [Exit.inBlock, Exit.then])
            refine post_rtok ha rfl rfl rfl ⟨by simp only [Bool.false_eq_true, if_false, if_pos h32]; rfl, ?_⟩
            exact fr_five (((Fr.alloc (fun _ => False) w _).same (Fr.alloc _ _ _)).same f1) (Nat.le_refl _) _ _ _ _ _
          · go_wp2_with (first
              | (go_at_call 93; refine (kl _).mono ?_; rintro e w' ⟨rfl, rfl⟩)
              | (go_at_call 94; refine (kd _).mono ?_; rintro e w' ⟨rfl, rfl⟩)
              | (go_at_call 85; refine (kr _).mono ?_; rintro e1 W1 ⟨rfl, f1⟩
                 have ha : Hidden (W1.heap[w.heap.size]? = some (.cells #[.int .i64 0, .string ⟨#[]⟩, .int .i64 0, .int .u64 0, .int .i64 0] 92 (0, 0))) := f1.heap (heap_alloc2_old _ _ _) (fun f => f)
                 have hb : Hidden (W1.heap[w.heap.size + 1]? = some (.cells #[.int .i64 1, .string ⟨x.toArray⟩, .int .i64 0, .int .u64 0, .int .i64 (i : Int)] 92 (0, 0))) := f1.heap (heap_alloc2_new _ _ _) (fun f => f)
                 have ca0 : W1.cell? ⟨w.heap.size, 0, none⟩ = some (.int .i64 0) := cell_of_row _ _ 0 _ _ _ ha
                 have fa0 := frozen_row ha 0
                 have ca1 : W1.cell? ⟨w.heap.size, 1, none⟩ = some (.string ⟨#[]⟩) := cell_of_row _ _ 1 _ _ _ ha
                 have fa1 := frozen_row ha 1
                 have ca2 : W1.cell? ⟨w.heap.size, 2, none⟩ = some (.int .i64 0) := cell_of_row _ _ 2 _ _ _ ha
                 have fa2 := frozen_row ha 2
                 have ca3 : W1.cell? ⟨w.heap.size, 3, none⟩ = some (.int .u64 0) := cell_of_row _ _ 3 _ _ _ ha
                 have fa3 := frozen_row ha 3
                 have ca4 : W1.cell? ⟨w.heap.size, 4, none⟩ = some (.int .i64 0) := cell_of_row _ _ 4 _ _ _ ha
                 have fa4 := frozen_row ha 4
                 have cb0 : W1.cell? ⟨w.heap.size + 1, 0, none⟩ = some (.int .i64 1) := cell_of_row _ _ 0 _ _ _ hb
                 have fb0 := frozen_row hb 0
                 have cb1 : W1.cell? ⟨w.heap.size + 1, 1, none⟩ = some (.string ⟨x.toArray⟩) := cell_of_row _ _ 1 _ _ _ hb
                 have fb1 := frozen_row hb 1
                 have cb2 : W1.cell? ⟨w.heap.size + 1, 2, none⟩ = some (.int .i64 0) := cell_of_row _ _ 2 _ _ _ hb
                 have fb2 := frozen_row hb 2
                 have cb3 : W1.cell? ⟨w.heap.size + 1, 3, none⟩ = some (.int .u64 0) := cell_of_row _ _ 3 _ _ _ hb
                 have fb3 := frozen_row hb 3
                 have cb4 : W1.cell? ⟨w.heap.size + 1, 4, none⟩ = some (.int .i64 (i : Int)) := cell_of_row _ _ 4 _ _ _ hb
                 have fb4 := frozen_row hb 4
                 skip))
            (try simp only [Exit.inBlock, Exit.then])
            refine post_rtok ha rfl rfl rfl ⟨by simp only [Bool.false_eq_true, if_false, if_neg h32]; rfl, ?_⟩
            exact fr_five (((Fr.alloc (fun _ => False) w _).same (Fr.alloc _ _ _)).same f1) (Nat.le_refl _) _ _ _ _ _
        · go_wp2_with (first
            | (go_at_call 93; refine (kl _).mono ?_; rintro e w' ⟨rfl, rfl⟩)
            | (go_at_call 94; refine (kd _).mono ?_; rintro e w' ⟨rfl, rfl⟩)
            | (go_at_call 85; refine (kr _).mono ?_; rintro e1 W1 ⟨rfl, f1⟩
               have ha : Hidden (W1.heap[w.heap.size]? = some (.cells #[.int .i64 0, .string ⟨#[]⟩, .int .i64 0, .int .u64 0, .int .i64 0] 92 (0, 0))) := f1.heap (heap_alloc2_old _ _ _) (fun f => f)
               have hb : Hidden (W1.heap[w.heap.size + 1]? = some (.cells #[.int .i64 1, .string ⟨x.toArray⟩, .int .i64 0, .int .u64 0, .int .i64 (i : Int)] 92 (0, 0))) := f1.heap (heap_alloc2_new _ _ _) (fun f => f)
               have ca0 : W1.cell? ⟨w.heap.size, 0, none⟩ = some (.int .i64 0) := cell_of_row _ _ 0 _ _ _ ha
               have fa0 := frozen_row ha 0
               have ca1 : W1.cell? ⟨w.heap.size, 1, none⟩ = some (.string ⟨#[]⟩) := cell_of_row _ _ 1 _ _ _ ha
               have fa1 := frozen_row ha 1
               have ca2 : W1.cell? ⟨w.heap.size, 2, none⟩ = some (.int .i64 0) := cell_of_row _ _ 2 _ _ _ ha
               have fa2 := frozen_row ha 2
               have ca3 : W1.cell? ⟨w.heap.size, 3, none⟩ = some (.int .u64 0) := cell_of_row _ _ 3 _ _ _ ha
               have fa3 := frozen_row ha 3
               have ca4 : W1.cell? ⟨w.heap.size, 4, none⟩ = some (.int .i64 0) := cell_of_row _ _ 4 _ _ _ ha
               have fa4 := frozen_row ha 4
               have cb0 : W1.cell? ⟨w.heap.size + 1, 0, none⟩ = some (.int .i64 1) := cell_of_row _ _ 0 _ _ _ hb
               have fb0 := frozen_row hb 0
               have cb1 : W1.cell? ⟨w.heap.size + 1, 1, none⟩ = some (.string ⟨x.toArray⟩) := cell_of_row _ _ 1 _ _ _ hb
               have fb1 := frozen_row hb 1
               have cb2 : W1.cell? ⟨w.heap.size + 1, 2, none⟩ = some (.int .i64 0) := cell_of_row _ _ 2 _ _ _ hb
               have fb2 := frozen_row hb 2
               have cb3 : W1.cell? ⟨w.heap.size + 1, 3, none⟩ = some (.int .u64 0) := cell_of_row _ _ 3 _ _ _ hb
               have fb3 := frozen_row hb 3
               have cb4 : W1.cell? ⟨w.heap.size + 1, 4, none⟩ = some (.int .i64 (i : Int)) := cell_of_row _ _ 4 _ _ _ hb
               have fb4 := frozen_row hb 4
               skip))
          (try simp only [Exit.inBlock, Exit.then])
          refine post_rtok (setOther ha (by omega) _ _) rfl rfl rfl ⟨rfl, ?_⟩
          exact fr_five (fr_one (((Fr.alloc (fun _ => False) w _).same (Fr.alloc _ _ _)).same f1) (by omega) 0 _) (Nat.le_refl _) _ _ _ _ _
theorem rnext_any (l : By) (i k n : Nat) (hi : i < l.length) (hl : l.length ≤ 4096) (h : kindLen wordsL (l.drop i) = (k, n)) (w : World) :
    Calls Tryz.prog 46 #[.string ⟨l.toArray⟩, .int .i64 (i : Int)] w fun r w' => (n = 0 → r = .returned (.tuple #[.agg #[.int .i64 0, .string ⟨#[]⟩, .int .i64 0, .int .u64 0, .int .i64 (i : Int)], .int .i64 10])) ∧ (n ≠ 0 → RTok l i k n r) ∧ Fr (fun _ => False) w w' := by
  obtain ⟨c, hc⟩ : ∃ c, l[i]? = some c := ⟨l[i], List.getElem?_eq_getElem hi⟩
  have hx := str_index l i c hc
  have ed := drop_at hc
  have hcl := class_nat c
  have hle := kind_le wordsL (l.drop i)
  rw [h, List.length_drop] at hle
  have h' := h
  rw [ed, kind_cons, ← ed] at h'
  by_cases hd : dgt c = true
  · rw [if_pos hd] at h'
    have hlt : ltr c = false := by
      simp only [dgt, Bool.and_eq_true, decide_eq_true_eq] at hd
      simp only [ltr, Bool.or_eq_false_iff, Bool.and_eq_false_iff, decide_eq_false_iff_not]
      omega
    have hn0 : n ≠ 0 := by
      intro e
      subst e
      unfold numLen at h'
      have hr1 : 1 ≤ run dgt (l.drop i) := by rw [ed, run_cons, if_pos hd]; omega
      split at h'
      · simp only [Prod.mk.injEq] at h'; omega
      · split at h' <;> (simp only [Prod.mk.injEq] at h'; omega)
    exact (next_num l i c.toNat k n hl hx (hcl.1.trans hlt) (hcl.2.1.trans hd) hi w (fun w => numeral_any l i k n c hc hd hl h' w)).mono fun r w' ⟨h1, h2⟩ => ⟨fun e => absurd e hn0, fun _ => h1, h2⟩
  · rw [if_neg hd] at h'
    have hd' : dgt c = false := by simpa using hd
    by_cases hlt : ltr c = true
    · rw [if_pos hlt] at h'
      simp only [Prod.mk.injEq] at h'
      obtain ⟨h1, h2⟩ := h'
      have hr1 : 1 ≤ run nmB (l.drop i) := by rw [ed, run_cons, if_pos (by simp [nmB, hlt])]; omega
      have hxl : ((l.drop i).take n).length ≤ 4096 := by rw [List.length_take, List.length_drop]; omega
      have := next_name l ((l.drop i).take n) i c.toNat (i + n) (decide ((l.drop i).take n ∈ wordsL)) hl hi (by simp only at hle; omega) (by omega) hx (hcl.1.trans hlt) (by show _ = _; omega) (by show _ = _; rw [show i + n - i = n by omega]) hxl rfl w
      refine this.mono fun r w' ⟨h3, h4⟩ => ⟨fun e => by omega, fun _ => ?_, h4⟩
      rw [h2] at h1
      refine ⟨0, 0, (if decide ((l.drop i).take n ∈ wordsL) = true then 0 else if 32 < ((l.drop i).take n).length then 12 else 0), ?_, ?_, ?_⟩
      · rw [h3, ← h1]
        by_cases hw : (l.drop i).take n ∈ wordsL
        · simp only [decide_eq_true hw, if_true, if_pos hw]; rfl
        · simp only [decide_eq_false hw, Bool.false_eq_true, if_false, if_neg hw]; rfl
      · rw [← h1]
        by_cases hw : (l.drop i).take n ∈ wordsL
        · simp [hw, valS]
        · simp [hw, valS]
      · intro _
        rw [← h1]
        by_cases hw : (l.drop i).take n ∈ wordsL
        · simp [hw, valS]
        · simp [hw, valS]
    · rw [if_neg hlt] at h'
      simp only [Prod.mk.injEq] at h'
      obtain ⟨rfl, h2⟩ := h'
      have hlt' : ltr c = false := by simpa using hlt
      have hm2 : n ≤ 2 := by
        rw [← h2]
        match l.drop i with
        | [] => simp [mkLen]
        | [a] => simp only [mkLen]; split <;> omega
        | a :: b :: r => simp only [mkLen]; repeat' split
                         all_goals omega
      have := next_mark l i c.toNat n hl hi (by simp only at hle; omega) hm2 hx (hcl.1.trans hlt') (hcl.2.1.trans hd') h2 ((l.drop i).take n) rfl w
      refine this.mono fun r w' ⟨h3, h4⟩ => ⟨fun e => ?_, fun e => ?_, h4⟩
      · rcases h3 with ⟨_, h3⟩ | ⟨h3, _⟩
        · exact h3
        · exact absurd e h3
      · rcases h3 with ⟨h3, _⟩ | ⟨_, h3⟩
        · exact absurd h3 e
        · exact ⟨0, 0, 0, h3, by simp [valS], fun _ => by simp [valS]⟩
end Go.Proofs.YteijjaabngkbjaaGreatDoor
namespace Go.Proofs.YteijjaabngkbjaaGreatDoor
open Go.RowKit Lx
set_option linter.unusedSimpArgs false
set_option linter.unusedVariables false
set_option maxRecDepth 20000 in
set_option maxHeartbeats 2000000 in
theorem rlex_walk (l : By) (ts : List Tok) (q : Nat) (er : Int) (hl : l.length ≤ 4096) (hR : Hidden (lexU wordsL valS (l.length + 1) (gap l) [] (l.drop (gap l)) = (ts, q, er))) (w : World) :
    Calls Tryz.prog 21 #[.string ⟨l.toArray⟩] w fun e w' => ∃ v, e = .returned (.tuple #[v, .int .i64 (q : Int), .int .i64 er]) ∧ Tr w' w.heap.size 92 v ts ∧ Fr (fun _ => False) w w' := by
  have hs := str_len l
  have hgl := gap_le l false
  have kg0 := skip_walk l 0 (gap l) (by omega) (by omega) (by show _ = _; simp)
  go_enter Tryz.func21, Tryz.ntmps21
  go_wp2_with (go_at_call 45; refine (kg0 _).mono ?_; rintro e w ⟨rfl, rfl⟩)
  go_loopg [5, 6] (l.length - gap l + 1) (fun k lv iv wr => ∃ (j f : Nat) (acc : List Tok), iv = .int .i64 (j : Int) ∧ j ≤ l.length ∧ Tr wr w.heap.size 92 lv acc ∧ acc.length ≤ 1024 ∧ l.length - j < f ∧ lexU wordsL valS f j acc (l.drop j) = (ts, q, er) ∧ Fr (fun _ => False) w wr ∧ k = l.length - j + 1)
  case atStart => exact ⟨gap l, l.length + 1, [], rfl, hgl, Tr.nil _ _ _, by simp, by omega, hR, Fr.refl _ _, rfl⟩
  case round =>
    obtain ⟨j, f, acc, rfl, hj, hrow, hacc, hf, hlex, hfr, hgk⟩ := hrel
    have hgkH : Hidden (gk = l.length - j + 1) := hgk
    have hlexH : Hidden (lexU wordsL valS f j acc (l.drop j) = (ts, q, er)) := hlex
    have haccH : Hidden (acc.length ≤ 1024) := hacc
    clear hgk hlex hR hgl hacc
    obtain ⟨ao, cap, rfl⟩ := hrow.len
    by_cases hjl : j < l.length
    · obtain ⟨k, n, hk⟩ : ∃ k n, kindLen wordsL (l.drop j) = (k, n) := ⟨_, _, rfl⟩
      obtain ⟨t, b, e, hv⟩ : ∃ t b e, valS k ((l.drop j).take n) = (t, b, e) := ⟨_, _, _, rfl⟩
      have hst := lexU_step f j acc (l.drop j) k n t b e (by rw [List.length_drop]; exact hf) (by intro h; have := congrArg List.length h; rw [List.length_drop] at this; simp at this; omega) hk hv _ hlexH
      have kt := rnext_any l j k n hjl hl hk wr
      have hle := kind_le wordsL (l.drop j)
      rw [hk, List.length_drop] at hle
      unfold RTok at kt
      rw [hv] at kt
      simp only at kt
      rcases hst with ⟨h0, hr⟩ | ⟨h0, he, hr⟩ | ⟨h0, he, ha, hr⟩ | ⟨h0, he, ha, f', hf', hr⟩
      · cases hr
        go_wp2_with (go_at_call 46; refine kt.mono ?_; rintro e1 W1 ⟨hr1, hr2, f1⟩; obtain rfl := hr1 h0; clear hr1 hr2)
        go_ret3
        exact ⟨.slice none 0 0, rfl, Tr.nil _ _ _, (hfr.same f1).same (Fr.alloc _ _ _)⟩
      · cases hr
        have he2 : (er != 0) = true := by simpa using he
        clear he
        go_wp2_with (go_at_call 46; refine kt.mono ?_; rintro e1 W1 ⟨hr1, hr2, f1⟩; obtain ⟨t1, b1, e2, rfl, rfl, _⟩ := hr2 h0; clear hr1 hr2)
        go_ret3
        exact ⟨.slice none 0 0, rfl, Tr.nil _ _ _, (hfr.same f1).same (Fr.alloc _ _ _)⟩
      · cases hr
        subst he
        have ha1 : ((acc.length : Int) == 1024) = true := by simp; omega
        have haH : Hidden (acc.length = 1024) := ha
        clear ha
        go_wp2_with (go_at_call 46; refine kt.mono ?_; rintro e1 W1 ⟨hr1, hr2, f1⟩; obtain ⟨t1, b1, e2, rfl, rfl, _⟩ := hr2 h0; clear hr1 hr2)
        go_ret3
        exact ⟨.slice none 0 0, rfl, Tr.nil _ _ _, (hfr.same f1).same (Fr.alloc _ _ _)⟩
      · subst he
        have ha1 : ((acc.length : Int) == 1024) = false := by rw [beq_eq_false_iff_ne]; omega
        have haH : Hidden (acc.length ≠ 1024) := ha
        have hrH : Hidden (lexU wordsL valS f' (j + n + gap ((l.drop j).drop n)) (acc ++ [⟨k, (l.drop j).take n, t, b, j⟩]) (((l.drop j).drop n).drop (gap ((l.drop j).drop n))) = (ts, q, er)) := hr
        have hfH : Hidden (l.length - j ≤ f') := by rw [List.length_drop] at hf'; exact hf'
        clear ha hr hf'
        obtain ⟨x, hx⟩ : ∃ x, (l.drop j).take n = x := ⟨_, rfl⟩
        have hxl : Hidden (x.length = n) := by show _ = _; rw [← hx, List.length_take, List.length_drop]; simp only at hle; omega
        have hxs := str_len x
        have hxn : ((x.length : Nat) : Int) = (n : Int) := by rw [show x.length = n from hxl]
        rw [hx] at kt hv
        obtain ⟨N, hN⟩ : ∃ N, j + n + gap (l.drop (j + n)) = N := ⟨_, rfl⟩
        have kg := skip_walk l (j + n) N (by simp only at hle; omega) (by omega) hN
        go_wp2_with (first
          | (go_at_call 46; refine kt.mono ?_; rintro e1 W1 ⟨hr1, hr2, f1⟩; obtain ⟨t1, b1, e2, rfl, rfl, hr3⟩ := hr2 h0; obtain ⟨rfl, rfl⟩ := hr3 rfl; clear hr1 hr2 hr3)
          | (go_at_call 45; refine (kg _).mono ?_; rintro e w' ⟨rfl, rfl⟩)
          | (at_builtin
             refine wpList_tok rfl _ _ 54 92 Tryz.underlying54 info_rtok3 rfl w.heap.size (.slice ao acc.length cap) acc ⟨k, x, t1, b1, j⟩ (W1.heap.size + 1) 1 rfl ?c0 rfl ?c1 ?c2 ?c3 ?_
             case c0 => exact (hrow.keepN f1).keepN ((Fr.alloc _ _ _).same (Fr.alloc _ _ _))
             case c1 => exact fun i u hu => (cell_of_row _ _ i _ _ _ (heap_alloc2_new _ _ _)).trans (tok_arr ⟨k, x, t1, b1, j⟩ i u hu)
             case c2 => have : acc.length ≤ 1024 := haccH; omega
             case c3 => have := hfr.size; have := f1.size; simp; omega
             intro v2 W2 hrow2 f2
             have hb2 : Hidden (W2.heap[W1.heap.size]? = some (.cells #[.int .i64 (k : Int), .string ⟨x.toArray⟩, .int .i64 t1, .int .u64 b1, .int .i64 (j : Int)] 92 (0, 0))) := f2.heap (heap_alloc2_old _ _ _) (fun h => by have := hrow.high _ h; have := f1.size; omega)
             have hc1 : W2.cell? ⟨W1.heap.size, 1, none⟩ = some (.string ⟨x.toArray⟩) := cell_of_row _ _ 1 _ _ _ hb2))
        have hNle : N ≤ l.length := by
          have h1 := gap_le (l.drop (j + n)) false
          rw [List.length_drop] at h1
          have h2 : gap (l.drop (j + n)) = gapM false (l.drop (j + n)) := rfl
          omega
        have hjN : j + n ≤ N := by omega
        go_roundg (l.length - N + 1)
        case measure =>
          have : gk = l.length - j + 1 := hgkH
          omega
        case rel =>
          have e1 : (l.drop j).drop n = l.drop (j + n) := List.drop_drop
          have hrr : lexU wordsL valS f' (j + n + gap ((l.drop j).drop n)) (acc ++ [⟨k, (l.drop j).take n, t1, b1, j⟩]) (((l.drop j).drop n).drop (gap ((l.drop j).drop n))) = (ts, q, er) := hrH
          rw [e1, List.drop_drop, hN, hx] at hrr
          have h3 : l.length - j ≤ f' := hfH
          have h4 : acc.length ≤ 1024 := haccH
          have h5 : acc.length ≠ 1024 := haH
          have hf3 : Fr (fun _ => False) w _ := ((hfr.same f1).same ((Fr.alloc _ _ _).same (Fr.alloc _ _ _))).own f2 hrow.low
          exact ⟨N, f', acc ++ [⟨k, x, t1, b1, j⟩], rfl, hNle, hrow2, by rw [List.length_append]; simp; omega, by omega, hrr, hf3, rfl⟩
    · obtain rfl : j = l.length := by omega
      have hz := hlexH
      rw [Hidden, List.drop_length, lexU_stop f l.length acc (by omega)] at hz
      cases hz
      go_wp2
      go_ret3
      exact ⟨_, rfl, hrow, hfr⟩
theorem rlex_long (l : By) (hl : 4096 < l.length) (hl2 : l.length ≤ 9223372036854775807) (w : World) :
    Calls Tryz.prog 21 #[.string ⟨l.toArray⟩] w fun e w' => e = .returned (.tuple #[.slice none 0 0, .int .i64 0, .int .i64 3]) ∧ w' = w := by
  have hs := str_len l
  go_enter Tryz.func21, Tryz.ntmps21
  go_wp2
  go_ret3
  exact ⟨rfl, rfl⟩
theorem rlex_any (l : By) (ts : List Tok) (q : Nat) (er : Int) (hl : l.length ≤ 9223372036854775807) (hR : lexS wordsL valS l = (ts, q, er)) (w : World) :
    Calls Tryz.prog 21 #[.string ⟨l.toArray⟩] w fun e w' => ∃ v, e = .returned (.tuple #[v, .int .i64 (q : Int), .int .i64 er]) ∧ Tr w' w.heap.size 92 v ts ∧ Fr (fun _ => False) w w' := by
  unfold lexS at hR
  split at hR
  · rename_i h
    cases hR
    exact (rlex_long l h hl w).mono fun e w' ⟨h1, h2⟩ => ⟨_, h1, Tr.nil _ _ _, by rw [h2]; exact Fr.refl _ _⟩
  · exact rlex_walk l ts q er (by omega) hR w
end Go.Proofs.YteijjaabngkbjaaGreatDoor
namespace Go.Proofs.YteijjaabngkbjaaGreatDoor
open Go.RowKit Lx Te
set_option linter.unusedSimpArgs false
set_option linter.unusedVariables false
set_option linter.unusedSectionVars false
def Nz (B z : Nat) (w : World) (P : World → Prop) : Prop := ∀ w', Fr (fun k => k < B ∨ k = z) w w' → P w'
theorem Nz.step {B z : Nat} {S : Nat → Prop} {w w' : World} {P : World → Prop} (h : Nz B z w P) (hf : Fr S w w') (hS : ∀ k, S k → k < B ∨ k = z) : Nz B z w' P :=
  fun w'' hf' => h w'' ((hf.mono (fun k _ hk => hS k hk)).same hf')
theorem Nz.two {B z : Nat} {w : World} {x y : Pz.Ex} {ao ao2 : Option Addr} {cap cap2 b : Nat} {t : TypeId} (hx : Nz B z w (fun w => ExL w ao cap x.2)) (hy : Nz B z w (fun w => ExL w ao2 cap2 y.2))
    (hb : w.heap[b]? = some (.cells #[ci x.1.kind, ci x.1.op, ct x.1.mod, ct x.1.name, ci x.1.vt, .int .u64 x.1.vb, .slice ao x.2.len cap, ci y.1.kind, ci y.1.op, ct y.1.mod, ct y.1.name, ci y.1.vt, .int .u64 y.1.vb, .slice ao2 y.2.len cap2] t (0, 0))) (hB : B ≤ b) (hz : b ≠ z) :
    Nz B z w (fun w => ExL w (some ⟨b, 0, none⟩) 2 (.cons x.1 x.2 (.cons y.1 y.2 .nil))) := by
  intro w' hf
  have hx' := hx w' hf
  have hy' := hy w' hf
  have hb' := hf.heap hb (by omega)
  have hc := fun j => cell_of_row w' b j _ t (0, 0) hb'
  refine ⟨Nat.le_refl _, by decide, Or.inr ⟨b, 0, rfl, ⟨⟨ao, cap, fun j u hu => ?_, hx'.1, hx'.2.1, hx'.2.2⟩, ⟨ao2, cap2, fun j u hu => ?_, hy'.1, hy'.2.1, hy'.2.2⟩, trivial⟩⟩⟩
  · rw [Nat.zero_add, hc j]
    have h7 : j < 7 := (List.getElem?_eq_some_iff.1 hu).1
    obtain rfl | rfl | rfl | rfl | rfl | rfl | rfl : j = 0 ∨ j = 1 ∨ j = 2 ∨ j = 3 ∨ j = 4 ∨ j = 5 ∨ j = 6 := by omega
    all_goals exact hu
  · have h7 : j < 7 := (List.getElem?_eq_some_iff.1 hu).1
    obtain rfl | rfl | rfl | rfl | rfl | rfl | rfl : j = 0 ∨ j = 1 ∨ j = 2 ∨ j = 3 ∨ j = 4 ∨ j = 5 ∨ j = 6 := by omega
    all_goals (rw [hc]; exact hu)
section
variable {E : Bool → Nat → List Tok → Pz.Ou Pz.Ex} (hE : CE E)
end
end Go.Proofs.YteijjaabngkbjaaGreatDoor
namespace Go.Proofs.YteijjaabngkbjaaGreatDoor
open Go.RowKit Lx Te
set_option linter.unusedSimpArgs false
set_option linter.unusedVariables false
set_option linter.unusedSectionVars false
def TB (l : Sts) (v : Value) (w w' : World) : Prop := ∃ ao cap, v = .slice ao l.len cap ∧ Nw w.heap.size w' (fun w => StL w ao cap l)
def CE0 (E : Nat → List Tok → Pz.Ou Pz.Ex) : Prop := ∀ (d : Nat) (ts : List Tok) (rs : Pz.Rs Pz.Ex) (q : Nat) (w : World), d ≤ 32 → E d ts = some rs → Ps w q ts d false → Calls Tryz.prog 59 #[pp q] w (Out TE q d w rs)
def CC0 (C : Nat → Pz.Ex → List Tok → Pz.Ou Pz.Ex) : Prop := ∀ (d : Nat) (x : Pz.Ex) (ao : Option Addr) (n cap : Nat) (ts : List Tok) (rs : Pz.Rs Pz.Ex) (q : Nat) (w : World), d ≤ 32 → C d x ts = some rs → Ps w q ts d false →
  Calls Tryz.prog 224 #[pp q, .agg #[ci x.1.kind, ci x.1.op, ct x.1.mod, ct x.1.name, ci x.1.vt, .int .u64 x.1.vb, .slice ao n cap]] w (Out TE q d w rs)
def CB0 (B : Nat → List Tok → Pz.Ou Sts) : Prop := ∀ (d : Nat) (ts : List Tok) (rs : Pz.Rs Sts) (q : Nat) (w : World), d ≤ 32 → B d ts = some rs → Ps w q ts d false → Calls Tryz.prog 159 #[pp q] w (Out TB q d w rs)
section
variable {E : Nat → List Tok → Pz.Ou Pz.Ex} (hE : CE0 E) {C : Nat → Pz.Ex → List Tok → Pz.Ou Pz.Ex} (hC : CC0 C) {B : Nat → List Tok → Pz.Ou Sts} (hB : CB0 B)
include hE
include hB
omit hE
omit hB
include hE
include hC
end
end Go.Proofs.YteijjaabngkbjaaGreatDoor
namespace Go.Proofs.YteijjaabngkbjaaGreatDoor
open Go.RowKit Lx Te
set_option linter.unusedSimpArgs false
set_option linter.unusedVariables false
set_option linter.unusedSectionVars false
def Pz.ex (r : Option Pz.Ex) : Pz.Ex := r.getD (⟨0, 0, [], [], 0, 0⟩, .nil)
end Go.Proofs.YteijjaabngkbjaaGreatDoor
