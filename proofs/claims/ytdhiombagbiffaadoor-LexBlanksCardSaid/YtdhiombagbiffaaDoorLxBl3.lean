/- The law LexBlanks walked: the way to its end. -/
import Derived.Test.YtdhiombagbiffaaDoorLxBl2
namespace Go.Proofs.YtdhiombagbiffaaDoor
open Go.RowKit Lx
set_option linter.unusedSimpArgs false
set_option linter.unusedVariables false

theorem nl_nb {c : UInt8} (h : c ≠ 10) : ((c.toNat : Int) == 10) = false := by
  rw [beq_eq_false_iff_ne]
  intro e
  exact h (UInt8.toNat_inj.1 (by simpa using (by omega : c.toNat = 10)))
theorem fr_dn (S : Nat → Prop) (w : World) (n : Nat) : Fr S w (w.drewN n) := ⟨rfl, rfl, Nat.le_refl _, fun _ _ _ => rfl⟩
theorem mem_take_succ {m : By} {j : Nat} {c : UInt8} (h : m[j]? = some c) (hc : c ≠ 10) (hj : ∀ d ∈ m.take j, d ≠ 10) : ∀ d ∈ m.take (j + 1), d ≠ 10 := by
  rw [List.take_add_one, h]
  intro d hd
  simp only [List.mem_append, Option.mem_toList, Option.some.injEq] at hd
  rcases hd with hd | rfl
  · exact hj d hd
  · exact hc

set_option maxRecDepth 20000 in
set_option maxHeartbeats 2000000 in
theorem blanks_main (l m : By) (what : Int) (ts : List Tok) (i : Nat) (t : Tok) (hl : l.length ≤ 4096) (hml : m.length ≤ 140737488351232) (hts : ts.length ≤ 1024) (hi : i < ts.length) (ht : Hidden (ts[i]? = some t)) (htp : t.p ≤ l.length)
    (hR : Hidden (lexS wordsL valS l = (ts, 0, 0)))
    (hmath : Hidden ((∀ c ∈ m, c ≠ 10) → (textS l what m t.p).length ≤ 4096 → ∃ ts', ts'.length ≤ 1024 ∧ lexS wordsL valS (textS l what m t.p) = (ts', 0, 0) ∧ ts.map Tok.core = ts'.map Tok.core)) (w : World) (htab : F.Tab w) :
    Calls Tryd.prog 8 #[.string ⟨l.toArray⟩, .int .i64 (i : Int), .int .i64 what, .string ⟨m.toArray⟩] w fun e w' => e = .returned (.bool true) ∧ Fr (fun _ => False) w w' := by
  have kl := lex_any l ts 0 0 (by omega) hR w htab
  have hz : ((ts.length : Int) == 0) = false := by rw [beq_eq_false_iff_ne]; omega
  have d1 : decide ((i : Int) < 0) = false := decide_eq_false (by omega)
  have d2 : decide ((ts.length : Int) ≤ (i : Int)) = false := decide_eq_false (by omega)
  have d3 : decide (ts.length ≤ i) = false := decide_eq_false (by omega)
  have hs := str_len m
  have hsl0 := str_len l
  obtain ⟨tk, tx, tty, tb, tp⟩ := t
  simp only at htp hmath
  go_enter Tryd.func8, Tryd.ntmps8
  go_wp2_with (first
    | (go_at_call 9; refine kl.mono ?_; rintro e W1 ⟨v1, rfl, r1, f1⟩; obtain ⟨g, cap, rfl, hcap, hcm, hB, hlt, hcell⟩ := r1.out (by intro e; rw [e] at hi; simp at hi)
       have ka := alive_any W1 (tab_fr htab f1))
    | (go_at_call 11; refine ka.mono ?_; rintro e W2 ⟨rfl, f2⟩))
  have hc4 : W2.cell? ⟨g, i * 5 + 4, none⟩ = some (.int .i64 (tp : Int)) := f2.cellN (hcell i _ ht 4 _ rfl)
  have tb2 := tab_fr (tab_fr htab f1) f2
  clear hcell kl ka
  go_loopg [12] m.length (fun k iv wr => ∃ j : Nat, iv = .int .i64 (j : Int) ∧ j ≤ m.length ∧ (∀ c ∈ m.take j, c ≠ 10) ∧ k = m.length - j ∧ wr = W2)
  case atStart => exact ⟨0, rfl, by omega, by simp, rfl, rfl⟩
  case round =>
    obtain ⟨j, rfl, hj, hno, hgk, rfl⟩ := hrel
    have hgkH : Hidden (gk = m.length - j) := hgk
    have hnoH : Hidden (∀ c ∈ m.take j, c ≠ 10) := hno
    clear hgk hno
    by_cases hjl : j < m.length
    · obtain ⟨c, hc⟩ : ∃ c, m[j]? = some c := ⟨m[j], List.getElem?_eq_getElem hjl⟩
      have hx := str_index m j c hc
      by_cases h10 : c = 10
      · subst h10
        clear hc
        go_wp2_with fail
        go_ret
        exact ⟨rfl, f1.same f2⟩
      · have h11 : ((c.toNat : Int) == 10) = false := nl_nb h10
        have hnx : Hidden (∀ d ∈ m.take (j + 1), d ≠ 10) := mem_take_succ hc h10 hnoH
        clear hc h10
        go_wp2_with fail
        go_roundg (m.length - (j + 1))
        case measure =>
          have : gk = m.length - j := hgkH
          omega
        case rel => exact ⟨j + 1, by go_num, by omega, hnx, rfl, rfl⟩
    · obtain rfl : j = m.length := by omega
      have hno : ∀ c ∈ m, c ≠ 10 := by
        have h := (show ∀ c ∈ m.take m.length, c ≠ 10 from hnoH)
        rwa [List.take_length] at h
      have hma := hmath hno
      clear hnoH hno hmath
      have s1 := slice_to l tp htp (by omega)
      have s2 := slice_from l tp htp (by omega)
      obtain ⟨A, hA⟩ : ∃ A, l.take tp = A := ⟨_, rfl⟩
      obtain ⟨C, hC⟩ : ∃ C, l.drop tp = C := ⟨_, rfl⟩
      have hAl : A.length ≤ 4096 := by rw [← hA, List.length_take]; omega
      have hCl : C.length ≤ 4096 := by rw [← hC, List.length_drop]; omega
      rw [hA] at s1
      rw [hC] at s2

      by_cases w1 : what = 1
      · subst w1
        obtain ⟨AP, hAP⟩ : ∃ AP, A ++ [10, 9] = AP := ⟨_, rfl⟩
        obtain ⟨APC, hAPC⟩ : ∃ APC, AP ++ C = APC := ⟨_, rfl⟩
        obtain ⟨T, hT⟩ : ∃ T, APC ++ [32] = T := ⟨_, rfl⟩
        have lAP : AP.length ≤ 140737488400000 := by rw [← hAP, List.length_append]; simp only [List.length_cons, List.length_nil]; omega
        have lAPC : APC.length ≤ 140737488500000 := by rw [← hAPC, List.length_append]; omega
        have k1 := cat A [10, 9] AP hAP (by simp only [List.length_cons, List.length_nil]; omega)
        have k2 := cat AP C APC hAPC (by omega)
        have k3 := cat APC [32] T hT (by simp only [List.length_cons, List.length_nil]; omega)
        have lT : T.length ≤ 140737488600000 := by rw [← hT, List.length_append]; simp only [List.length_cons, List.length_nil]; omega
        have eZ : textS l 1 m tp = T := by unfold textS; rw [if_neg (by omega), hA, hC, show putS 1 m = [10, 9] from rfl, hAP, hAPC, hT]
        have sT := str_len T
        rw [eZ] at hma
        have hmaH : Hidden (T.length ≤ 4096 → ∃ ts', ts'.length ≤ 1024 ∧ lexS wordsL valS T = (ts', 0, 0) ∧ ts.map Tok.core = ts'.map Tok.core) := hma
        clear hma eZ hA hC hAP hAPC hT
        by_cases hlen : 4096 < T.length
        · clear hmaH
          go_wp2_with fail
          go_quiet (fail)
          go_wp2_with fail
          go_ret
          exact ⟨rfl, (f1.same f2).same (fr_dn _ _ _)⟩
        · obtain ⟨ts', hts', hR', hco⟩ := hmaH (by omega)
          have hcoH : Hidden (ts.map Tok.core = ts'.map Tok.core) := hco
          have klx := fun W (hf : Fr (fun _ => False) wr W) => lex_any T ts' 0 0 (by omega) hR' W (tab_fr tb2 hf)
          clear hco
          go_wp2_with fail
          go_quiet (fail)
          go_wp2_with (first
            | (go_at_call 9; refine (klx _ (fr_dn _ _ _)).mono ?_; rintro e W4 ⟨v2, rfl, r2, f4⟩
               have f3 := fr_dn (fun _ => False) wr nq
               have ks := same_any _ v2 ts ts' true (decide_eq_true hcoH) (by omega) W4 (((r1.tk.keepN f2).keepN f3).keepN f4) r2.tk
               obtain ⟨ao2, cap2, rfl⟩ := r2.len)
            | (go_at_call 16; refine ks.mono ?_; rintro e W5 ⟨rfl, f5⟩))
          go_ret
          exact ⟨rfl, (((f1.same f2).same f3).same f4).same f5⟩
      by_cases w2 : what = 2
      · subst w2
        obtain ⟨P1, hPm⟩ : ∃ P1, [32, 47, 47, 32] ++ m = P1 := ⟨_, rfl⟩
        obtain ⟨P, hP⟩ : ∃ P, P1 ++ [10] = P := ⟨_, rfl⟩
        have lP1 : P1.length ≤ 140737488360000 := by rw [← hPm, List.length_append]; simp only [List.length_cons, List.length_nil]; omega
        have lP : P.length ≤ 140737488370000 := by rw [← hP, List.length_append]; simp only [List.length_cons, List.length_nil]; omega
        have ka := cat [32, 47, 47, 32] m P1 hPm (by simp only [List.length_cons, List.length_nil]; omega)
        have kb := cat P1 [10] P hP (by simp only [List.length_cons, List.length_nil]; omega)
        obtain ⟨AP, hAP⟩ : ∃ AP, A ++ P = AP := ⟨_, rfl⟩
        obtain ⟨APC, hAPC⟩ : ∃ APC, AP ++ C = APC := ⟨_, rfl⟩
        obtain ⟨T, hT⟩ : ∃ T, APC ++ [32] = T := ⟨_, rfl⟩
        have lAP : AP.length ≤ 140737488400000 := by rw [← hAP, List.length_append]; omega
        have lAPC : APC.length ≤ 140737488500000 := by rw [← hAPC, List.length_append]; omega
        have k1 := cat A P AP hAP (by omega)
        have k2 := cat AP C APC hAPC (by omega)
        have k3 := cat APC [32] T hT (by simp only [List.length_cons, List.length_nil]; omega)
        have lT : T.length ≤ 140737488600000 := by rw [← hT, List.length_append]; simp only [List.length_cons, List.length_nil]; omega
        have eZ : textS l 2 m tp = T := by unfold textS; rw [if_neg (by omega), hA, hC, show putS 2 m = P by rw [← hP, ← hPm]; rfl, hAP, hAPC, hT]
        have sT := str_len T
        rw [eZ] at hma
        have hmaH : Hidden (T.length ≤ 4096 → ∃ ts', ts'.length ≤ 1024 ∧ lexS wordsL valS T = (ts', 0, 0) ∧ ts.map Tok.core = ts'.map Tok.core) := hma
        clear hma eZ hA hC hAP hAPC hT hP hPm
        by_cases hlen : 4096 < T.length
        · clear hmaH
          go_wp2_with fail
          go_quiet (fail)
          go_wp2_with fail
          go_ret
          exact ⟨rfl, (f1.same f2).same (fr_dn _ _ _)⟩
        · obtain ⟨ts', hts', hR', hco⟩ := hmaH (by omega)
          have hcoH : Hidden (ts.map Tok.core = ts'.map Tok.core) := hco
          have klx := fun W (hf : Fr (fun _ => False) wr W) => lex_any T ts' 0 0 (by omega) hR' W (tab_fr tb2 hf)
          clear hco
          go_wp2_with fail
          go_quiet (fail)
          go_wp2_with (first
            | (go_at_call 9; refine (klx _ (fr_dn _ _ _)).mono ?_; rintro e W4 ⟨v2, rfl, r2, f4⟩
               have f3 := fr_dn (fun _ => False) wr nq
               have ks := same_any _ v2 ts ts' true (decide_eq_true hcoH) (by omega) W4 (((r1.tk.keepN f2).keepN f3).keepN f4) r2.tk
               obtain ⟨ao2, cap2, rfl⟩ := r2.len)
            | (go_at_call 16; refine ks.mono ?_; rintro e W5 ⟨rfl, f5⟩))
          go_ret
          exact ⟨rfl, (((f1.same f2).same f3).same f4).same f5⟩
      by_cases w3 : what = 3
      · subst w3
        obtain ⟨AP, hAP⟩ : ∃ AP, A ++ [32] = AP := ⟨_, rfl⟩
        obtain ⟨APC, hAPC⟩ : ∃ APC, AP ++ C = APC := ⟨_, rfl⟩
        obtain ⟨T, hT⟩ : ∃ T, APC ++ [32] = T := ⟨_, rfl⟩
        have lAP : AP.length ≤ 140737488400000 := by rw [← hAP, List.length_append]; simp only [List.length_cons, List.length_nil]; omega
        have lAPC : APC.length ≤ 140737488500000 := by rw [← hAPC, List.length_append]; omega
        have k1 := cat A [32] AP hAP (by simp only [List.length_cons, List.length_nil]; omega)
        have k2 := cat AP C APC hAPC (by omega)
        have k3 := cat APC [32] T hT (by simp only [List.length_cons, List.length_nil]; omega)
        have lT : T.length ≤ 140737488600000 := by rw [← hT, List.length_append]; simp only [List.length_cons, List.length_nil]; omega
        obtain ⟨L1, hL1⟩ : ∃ L1, l ++ [10, 47, 47] = L1 := ⟨_, rfl⟩
        obtain ⟨Z, hZ⟩ : ∃ Z, L1 ++ m = Z := ⟨_, rfl⟩
        have lL1 : L1.length ≤ 5000 := by rw [← hL1, List.length_append]; simp only [List.length_cons, List.length_nil]; omega
        have k4 := cat l [10, 47, 47] L1 hL1 (by simp only [List.length_cons, List.length_nil]; omega)
        have k5 := cat L1 m Z hZ (by omega)
        have lZ : Z.length ≤ 140737488600000 := by rw [← hZ, List.length_append]; omega
        have eZ : textS l 3 m tp = Z := by unfold textS; rw [if_pos (by omega), hL1, hZ]
        have sT := str_len Z
        rw [eZ] at hma
        have hmaH : Hidden (Z.length ≤ 4096 → ∃ ts', ts'.length ≤ 1024 ∧ lexS wordsL valS Z = (ts', 0, 0) ∧ ts.map Tok.core = ts'.map Tok.core) := hma
        clear hma eZ hA hC hAP hAPC hT hL1 hZ
        by_cases hlen : 4096 < Z.length
        · clear hmaH
          go_wp2_with fail
          go_quiet (fail)
          go_wp2_with fail
          go_ret
          exact ⟨rfl, (f1.same f2).same (fr_dn _ _ _)⟩
        · obtain ⟨ts', hts', hR', hco⟩ := hmaH (by omega)
          have hcoH : Hidden (ts.map Tok.core = ts'.map Tok.core) := hco
          have klx := fun W (hf : Fr (fun _ => False) wr W) => lex_any Z ts' 0 0 (by omega) hR' W (tab_fr tb2 hf)
          clear hco
          go_wp2_with fail
          go_quiet (fail)
          go_wp2_with (first
            | (go_at_call 9; refine (klx _ (fr_dn _ _ _)).mono ?_; rintro e W4 ⟨v2, rfl, r2, f4⟩
               have f3 := fr_dn (fun _ => False) wr nq
               have ks := same_any _ v2 ts ts' true (decide_eq_true hcoH) (by omega) W4 (((r1.tk.keepN f2).keepN f3).keepN f4) r2.tk
               obtain ⟨ao2, cap2, rfl⟩ := r2.len)
            | (go_at_call 16; refine ks.mono ?_; rintro e W5 ⟨rfl, f5⟩))
          go_ret
          exact ⟨rfl, (((f1.same f2).same f3).same f4).same f5⟩
      · have w1' : (what == 1) = false := by rw [beq_eq_false_iff_ne]; exact w1
        have w2' : (what == 2) = false := by rw [beq_eq_false_iff_ne]; exact w2
        have w3' : (what == 3) = false := by rw [beq_eq_false_iff_ne]; exact w3
        obtain ⟨AP, hAP⟩ : ∃ AP, A ++ [32] = AP := ⟨_, rfl⟩
        obtain ⟨APC, hAPC⟩ : ∃ APC, AP ++ C = APC := ⟨_, rfl⟩
        obtain ⟨T, hT⟩ : ∃ T, APC ++ [32] = T := ⟨_, rfl⟩
        have lAP : AP.length ≤ 140737488400000 := by rw [← hAP, List.length_append]; simp only [List.length_cons, List.length_nil]; omega
        have lAPC : APC.length ≤ 140737488500000 := by rw [← hAPC, List.length_append]; omega
        have k1 := cat A [32] AP hAP (by simp only [List.length_cons, List.length_nil]; omega)
        have k2 := cat AP C APC hAPC (by omega)
        have k3 := cat APC [32] T hT (by simp only [List.length_cons, List.length_nil]; omega)
        have lT : T.length ≤ 140737488600000 := by rw [← hT, List.length_append]; simp only [List.length_cons, List.length_nil]; omega
        have eZ : textS l what m tp = T := by unfold textS; rw [if_neg (by omega), hA, hC, show putS what m = [32] by unfold putS; rw [if_neg w1, if_neg w2], hAP, hAPC, hT]
        have sT := str_len T
        rw [eZ] at hma
        have hmaH : Hidden (T.length ≤ 4096 → ∃ ts', ts'.length ≤ 1024 ∧ lexS wordsL valS T = (ts', 0, 0) ∧ ts.map Tok.core = ts'.map Tok.core) := hma
        clear hma eZ hA hC hAP hAPC hT
        by_cases hlen : 4096 < T.length
        · clear hmaH
          go_wp2_with fail
          go_quiet (fail)
          go_wp2_with fail
          go_ret
          exact ⟨rfl, (f1.same f2).same (fr_dn _ _ _)⟩
        · obtain ⟨ts', hts', hR', hco⟩ := hmaH (by omega)
          have hcoH : Hidden (ts.map Tok.core = ts'.map Tok.core) := hco
          have klx := fun W (hf : Fr (fun _ => False) wr W) => lex_any T ts' 0 0 (by omega) hR' W (tab_fr tb2 hf)
          clear hco
          go_wp2_with fail
          go_quiet (fail)
          go_wp2_with (first
            | (go_at_call 9; refine (klx _ (fr_dn _ _ _)).mono ?_; rintro e W4 ⟨v2, rfl, r2, f4⟩
               have f3 := fr_dn (fun _ => False) wr nq
               have ks := same_any _ v2 ts ts' true (decide_eq_true hcoH) (by omega) W4 (((r1.tk.keepN f2).keepN f3).keepN f4) r2.tk
               obtain ⟨ao2, cap2, rfl⟩ := r2.len)
            | (go_at_call 16; refine ks.mono ?_; rintro e W5 ⟨rfl, f5⟩))
          go_ret
          exact ⟨rfl, (((f1.same f2).same f3).same f4).same f5⟩
end Go.Proofs.YtdhiombagbiffaaDoor
