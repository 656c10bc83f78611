/- Where every instruction leads. Plain: what verified answers. -/
import Derived.Test.YtphpmaimgndjmaaDoorCdWd
import Derived.Test.YtphpmaimgndjmaaDoorCdWe
import Derived.Test.YtphpmaimgndjmaaDoorCdZ
import Derived.Test.YtphpmaimgndjmaaDoorCdOu
namespace Go.Proofs.YtphpmaimgndjmaaDoor.Cd
open Go.RowKit Ty
set_option linter.unusedSimpArgs false
set_option linter.unusedVariables false

variable {w : World} {f : Fu} {p : Fm} {q gs ga n k b3 o3 c2 c3 c4 c5 : Nat} {v0 : Value} {a2 a4 a5 : Option Addr} {L : Cs} {s : Sp} {g : Bool}
theorem wyT_way (K : Nat) (t b : Int) (hn : f.cd.length = n) (hkn : k < n) (hi : f.cd.getD k default = ⟨15, (K : Int), t, b⟩) (hov : s.tr.length ≤ 32) (hsl : s.st.length ≤ 512) :
    wyT k n (decide (K < n)) K s = ((wayS f p k s).1, (wayS f p k s).2.map fun x => ((x.1 : Int), x.2)) := by
  have est : stepS f p (f.cd.getD k default) s = some (some ⟨s.st, s.tr ++ [((K : Int), s.st)]⟩, some ⟨s.st ++ [1], s.tr⟩) := by rw [hi]; simp [stepS]
  have o1 : anyO (some ⟨s.st, s.tr ++ [((K : Int), s.st)]⟩) = decide (s.tr.length = 32) := by
    show over _ = _
    unfold over
    simp
    rw [Bool.eq_iff_iff]
    simp
    omega
  have o2 : anyO (some ⟨s.st ++ [1], s.tr⟩) = decide (s.st.length = 512) := by
    show over _ = _
    unfold over
    simp
    rw [Bool.eq_iff_iff]
    simp
    omega
  unfold wayS wyT
  rw [est, hi, hn]
  simp only [o1, o2, Option.isSome_some, Bool.true_and]
  by_cases h1 : K < n
  · have e1 : decide (K < n) = true := by simpa using h1
    have e2 : decide ((n : Int) ≤ (K : Int)) = false := by simp; omega
    rw [e1, e2]
    by_cases h2 : k + 1 = n
    · have e3 : decide (n ≤ k + 1) = true := by simp; omega
      rw [if_pos (Or.inr h2), e3]
      rfl
    · have e4 : decide (n ≤ k + 1) = false := by simp; omega
      rw [if_neg (by rintro (e | e); cases e; exact h2 e), e4]
      by_cases h3 : s.tr.length = 32 ∨ s.st.length = 512
      · rw [if_pos h3]
        have : (decide (s.tr.length = 32) || decide (s.st.length = 512)) = true := by simpa using h3
        simp [this]
      · rw [if_neg h3]
        have : (decide (s.tr.length = 32) || decide (s.st.length = 512)) = false := by
          rw [Bool.or_eq_false_iff]
          constructor
          · simp; intro e; exact h3 (Or.inl e)
          · simp; intro e; exact h3 (Or.inr e)
        simp [this]
  · have e1 : decide (K < n) = false := by simpa using h1
    have e2 : decide ((n : Int) ≤ (K : Int)) = true := by simp; omega
    rw [e1, e2, if_pos (Or.inl rfl)]
    simp
theorem wyU_way (N t b : Int) (hn : f.cd.length = n) (hkn : k < n) (hi : f.cd.getD k default = ⟨16, N, t, b⟩) (hov : s.tr.length ≤ 32) (hsl : s.st.length ≤ 512) :
    wyU k n s = ((wayS f p k s).1, (wayS f p k s).2.map fun x => ((x.1 : Int), x.2)) := by
  have est : stepS f p (f.cd.getD k default) s = if s.tr = [] then none else some (some ⟨s.st, s.tr.dropLast⟩, none) := by rw [hi]; simp [stepS]
  unfold wayS wyU
  rw [est]
  by_cases h0 : s.tr = []
  · rw [if_pos h0, if_pos (Or.inr (by rw [h0]; rfl))]
    rfl
  · rw [if_neg h0, hn]
    have h0' : s.tr.length ≠ 0 := fun e => h0 (List.length_eq_zero_iff.1 e)
    have o1 : anyO (some ⟨s.st, s.tr.dropLast⟩) = false := by
      show over _ = _
      unfold over
      simp
      omega
    simp only [o1]
    by_cases h2 : k + 1 = n
    · have e3 : decide (n ≤ k + 1) = true := by simp; omega
      rw [if_pos (Or.inl h2), e3]
      rfl
    · have e3 : decide (n ≤ k + 1) = false := by simp; omega
      rw [if_neg (by rintro (e | e); exact h2 e; exact h0' e), e3]
      rfl
theorem ct_lens (c : Ct w f p q gs ga n k b3 o3 c2 c3 c4 c5 v0 a2 a4 a5 L s g) : k < n ∧ s.st.length ≤ 512 ∧ s.tr.length ≤ 32 := ⟨by rw [← c.wk.len]; exact (List.getElem?_eq_some_iff.1 c.at').1, over_len c.ov⟩
theorem tz_len {s : Sp} (h : Tz s) (hl : s.tr.length ≤ 32) : (encTr s.tr).length ≤ 1000000 := by have := encTr_len s.tr h; omega
theorem kw_15 (c : Ct w f p q gs ga n k b3 o3 c2 c3 c4 c5 v0 a2 a4 a5 L s g) (hz : Tz s) (N t b : Int) (hi : f.cd.getD k default = ⟨15, N, t, b⟩) : KW w f p q k s := by
  obtain ⟨K, rfl⟩ := n_nat c hi
  obtain ⟨h1, h2, h3⟩ := ct_lens c
  have hN := right_n c.right
  rw [hi] at hN
  have hcell := c.cell
  rw [hi] at hcell
  have hs := site_of c
  have kk := ways_t q gs ga n k b3 o3 c3 v0 (ci f.sg.res) (.slice a2 f.loc.length c2) (.slice a4 p.fns.length c4) (.slice a5 p.vars.length c5) L s g K t b (byR 15) (lo 15) (Cd.hi 15) (taR 15) (puR 15) (nmR 15) (decide (K < n)) w c.wk c.at' (by have := c.n1; omega) c.le c.le2
    (hcell 0 _ rfl) (hcell 1 _ rfl) (hcell 2 _ rfl) (hcell 3 _ rfl) h3 h2 (by unfold D.I64; simp only [] at hN; omega) (tz_len hz h3) c.tab
    (fun W => row_is 15 W)
    (fun W hW => by
      have := has_any q v0 f.sg.res a2 (some ⟨b3, o3, none⟩) a4 a5 f.loc.length n p.fns.length p.vars.length c2 c3 c4 c5 15 K t b 4 (by decide) W (hs.keep hW)
      rw [has_4] at this
      exact this)
    (fun _ W hW => by
      have := behind_told q 15 K t b (byR 15) (lo 15) (Cd.hi 15) (nuR 15) (taR 15) (puR 15) (trR 15) (nmR 15) (enR 15) s.st [] [] c.ok.st vd_nil vd_nil (by omega) (by simp) (by decide) (by decide) (by decide) W (fun W' _ => tell_none q 15 K t b _ (by decide) W') (fun W' _ => tell_none q 15 K t b _ (by decide) W')
      rw [behT_some (tk_nil _), List.append_nil] at this
      exact this)
  rw [wyT_way K t b c.len h1 hi h3 h2] at kk
  exact kk
theorem kw_16 (c : Ct w f p q gs ga n k b3 o3 c2 c3 c4 c5 v0 a2 a4 a5 L s g) (hz : Tz s) (N t b : Int) (hi : f.cd.getD k default = ⟨16, N, t, b⟩) : KW w f p q k s := by
  obtain ⟨h1, h2, h3⟩ := ct_lens c
  have hcell := c.cell
  rw [hi] at hcell
  have hs := site_of c
  have kk := ways_u q gs ga n k b3 o3 c3 v0 (ci f.sg.res) (.slice a2 f.loc.length c2) (.slice a4 p.fns.length c4) (.slice a5 p.vars.length c5) L s g N t b (byR 16) (lo 16) (Cd.hi 16) (taR 16) (puR 16) (nmR 16) w c.wk c.at' (by have := c.n1; omega) c.le c.le2
    (hcell 0 _ rfl) (hcell 1 _ rfl) (hcell 2 _ rfl) (hcell 3 _ rfl) h3 h2 (tz_len hz h3) c.ok
    (fun W => row_is 16 W)
    (fun W hW => has_any q v0 f.sg.res a2 (some ⟨b3, o3, none⟩) a4 a5 f.loc.length n p.fns.length p.vars.length c2 c3 c4 c5 16 N t b 0 (by decide) W (hs.keep hW))
    (fun W hW => by
      have := behind_told q 16 N t b (byR 16) (lo 16) (Cd.hi 16) (nuR 16) (taR 16) (puR 16) (trR 16) (nmR 16) (enR 16) s.st [] [] c.ok.st vd_nil vd_nil (by omega) (by simp) (by decide) (by decide) (by decide) W (fun W' _ => tell_none q 16 N t b _ (by decide) W') (fun W' _ => tell_none q 16 N t b _ (by decide) W')
      rw [behT_some (tk_nil _), List.append_nil] at this
      exact this)
  rw [wyU_way (p := p) N t b c.len h1 hi h3 h2] at kk
  exact kk
/-- Where every instruction leads. -/
theorem kw_all (c : Ct w f p q gs ga n k b3 o3 c2 c3 c4 c5 v0 a2 a4 a5 L s g) (hz : Tz s) (hps : ∀ g ∈ p.fns, g.ps.length ≤ 17592186044416) : KW w f p q k s := by
  obtain ⟨i, hi⟩ : ∃ i, f.cd.getD k default = i := ⟨_, rfl⟩
  have hr := right_parts c.right
  rw [hi] at hr
  obtain ⟨op, N, t, b⟩ := i
  have hk : 1 ≤ op ∧ op ≤ 17 := by simpa [known] using hr.1
  have hcell := c.cell
  have hr1 := c.right
  rw [hi] at hcell hr1
  have : op = 1 ∨ op = 2 ∨ op = 3 ∨ op = 4 ∨ op = 5 ∨ op = 6 ∨ op = 7 ∨ op = 8 ∨ op = 9 ∨ op = 10 ∨ op = 11 ∨ op = 12 ∨ op = 13 ∨ op = 14 ∨ op = 15 ∨ op = 16 ∨ op = 17 := by omega
  rcases this with rfl | rfl | rfl | rfl | rfl | rfl | rfl | rfl | rfl | rfl | rfl | rfl | rfl | rfl | rfl | rfl | rfl
  · exact kw_push f p q gs ga n k b3 o3 c2 c3 c4 c5 v0 a2 a4 a5 L s g _ w c.wk c.at' c.n1 c.le c.le2 c.len hcell hi hr1 c.ov c.ok rfl
  · exact kw_2 c N t b hi
  · exact kw_3 c N t b hi
  · exact kw_4 c N t b hi
  · exact kw_5 c N t b hi
  · exact kw_6 c N t b hi
  · exact kw_7 c N t b hi
  · exact kw_8 c N t b hi
  · exact kw_9 c N t b hi
  · exact kw_10 c hps N t b hi
  · exact kw_ret f p q gs ga n k b3 o3 c2 c3 c4 c5 v0 a2 a4 a5 L s g _ w c.wk c.at' c.n1 c.le c.le2 c.len hcell hi hr1 c.ov c.ok rfl c.okF.res
  · exact kw_12 c 12 N t b (Or.inl rfl) hi
  · exact kw_13 c N t b hi
  · exact kw_14 c N t b hi
  · exact kw_15 c hz N t b hi
  · exact kw_16 c hz N t b hi
  · exact kw_12 c 17 N t b (Or.inr rfl) hi
end Go.Proofs.YtphpmaimgndjmaaDoor.Cd
