/- The program's printing of statements and declarations (6): any right statement, a block. -/
import Derived.Test.YteijjaabngkbjaaGreatDoorPyD
import Derived.Test.YteijjaabngkbjaaGreatDoorPyE
namespace Go.Proofs.YteijjaabngkbjaaGreatDoor
open Go.RowKit Te
set_option linter.unusedSimpArgs false
set_option linter.unusedVariables false

theorem one_ex {w0 : World} {e : Exs} {ao1 : Option Addr} {cap1 : Nat} (h : ExL w0 ao1 cap1 e) (ho : OkX e) (he : errL rnS cnS e = 0) (h1 : e.len = 1) :
    ∃ x kx b0 off aok capk, e = .cons x kx .nil ∧ ao1 = some ⟨b0, off, none⟩ ∧ OkE x ∧ OkX kx ∧ ShE x kx.len ∧ ShL kx ∧ ExL w0 aok capk kx ∧ w0.cell? ⟨b0, off, none⟩ = some (ci x.kind) ∧ w0.cell? ⟨b0, off + 1, none⟩ = some (ci x.op) ∧ w0.cell? ⟨b0, off + 2, none⟩ = some (ct x.mod) ∧ w0.cell? ⟨b0, off + 3, none⟩ = some (ct x.name) ∧
      w0.cell? ⟨b0, off + 4, none⟩ = some (ci x.vt) ∧ w0.cell? ⟨b0, off + 5, none⟩ = some (.int .u64 x.vb) ∧ w0.cell? ⟨b0, off + 6, none⟩ = some (.slice aok kx.len capk) := by
  cases e with
  | nil => simp [Exs.len] at h1
  | cons x kx r =>
    cases r with
    | cons a b c => simp [Exs.len] at h1
    | nil =>
      have hs := shL_of_err _ he
      rcases h.2.2 with h0 | ⟨b0, off, rfl, hA⟩
      · simp [Exs.len] at h0
      · obtain ⟨aok, capk, hk, _, c⟩ := ex_row hA
        exact ⟨x, kx, b0, off, aok, capk, rfl, rfl, ho.1, ho.2.1, hs.1, hs.2.1, hk, c⟩
theorem stmt_w (h : SH) (e : Exs) (bo el : Sts) (n : Nat) (hn : n ≤ 1000000) (hH : errSH rnS h e bo.len el.len = 0) (hE : errL rnS cnS e = 0) (ho : OkX e) (hB : hasBody h.kind = true → BlkW bo (n + 1)) (hL : h.kind = 8 ∨ 0 < el.len → BlkW el (n + 1))
    (ao1 ao2 ao3 : Option Addr) (cap1 cap2 cap3 : Nat) (acc T : Bs) (w0 w : World) (B b : Nat) (ht : F.Tab w0) (hw : PW w0 B b acc w) (h1 : ExL w0 ao1 cap1 e) (h2 : StL w0 ao2 cap2 bo) (h3 : StL w0 ao3 cap3 el)
    (hT : Hidden (acc ++ stT txS (.cons h e bo el .nil) n = T)) (hl : T.length ≤ 140737488355328) :
    Calls Tryz.prog 129 #[bp b, stV h (.slice ao1 e.len cap1) (.slice ao2 bo.len cap2) (.slice ao3 el.len cap3), ci (n : Int)] w fun e w' => e = .returned (.tuple #[]) ∧ PWrote w0 B b T w w' := by
  have hf := (Pz.orE_0 hH).1
  have hf : fitsS h e bo.len el.len = true := by
    by_cases hc : fitsS h e bo.len el.len = true
    · exact hc
    · rw [if_neg hc] at hf; exact absurd hf (by decide)
  clear hH
  have hT : acc ++ stT txS (.cons h e bo el .nil) n = T := hT
  obtain ⟨k, name⟩ := h
  unfold fitsS at hf
  simp only at hf hB hL
  by_cases k1 : k = 1
  · subst k1
    rw [if_pos (Or.inl rfl), decide_eq_true_eq] at hf
    obtain ⟨x, kx, b0, off, aok, capk, rfl, rfl, o1, o2, o3, o4, hk, c0, c1, c2, c3, c4, c5, c6⟩ := one_ex h1 ho hE hf.1
    exact stmt_1 n hn name acc T w0 w B b ht hw ao2 ao3 bo.len el.len cap2 cap3 x kx b0 off cap1 aok capk o1 o2 o3 o4 hk c0 c1 c2 c3 c4 c5 c6 (by show _ = T; rw [← hT]; simp [stT, txF, txA_one]) hl
  by_cases k2 : k = 2
  · subst k2
    rw [if_pos (Or.inr rfl), decide_eq_true_eq] at hf
    obtain ⟨x, kx, b0, off, aok, capk, rfl, rfl, o1, o2, o3, o4, hk, c0, c1, c2, c3, c4, c5, c6⟩ := one_ex h1 ho hE hf.1
    exact stmt_2 n hn name acc T w0 w B b ht hw ao2 ao3 bo.len el.len cap2 cap3 x kx b0 off cap1 aok capk o1 o2 o3 o4 hk c0 c1 c2 c3 c4 c5 c6 (by show _ = T; rw [← hT]; simp [stT, txF, txA_one]) hl
  rw [if_neg (by omega)] at hf
  by_cases k3 : k = 3
  · subst k3
    rw [if_pos rfl, decide_eq_true_eq] at hf
    obtain ⟨x, kx, b0, off, aok, capk, rfl, rfl, o1, o2, o3, o4, hk, c0, c1, c2, c3, c4, c5, c6⟩ := one_ex h1 ho hE hf.1
    by_cases hz : 0 < el.len
    · exact stmt_3b n hn name acc T w0 w B b ht hw ao2 ao3 bo el cap2 cap3 x kx b0 off cap1 aok capk o1 o2 o3 o4 hk c0 c1 c2 c3 c4 c5 c6 (hB rfl) h2 (hL (Or.inr hz)) h3 hz (by show _ = T; rw [← hT]; simp [stT, txF, txA_one, hz]) hl
    · exact stmt_3a n hn name acc T w0 w B b ht hw ao2 ao3 bo el cap2 cap3 x kx b0 off cap1 aok capk o1 o2 o3 o4 hk c0 c1 c2 c3 c4 c5 c6 (hB rfl) h2 (by omega) (by show _ = T; rw [← hT]; simp [stT, txF, txA_one, hz]) hl
  rw [if_neg k3] at hf
  by_cases k4 : k = 4
  · subst k4
    rw [if_pos rfl, decide_eq_true_eq] at hf
    obtain ⟨x, kx, b0, off, aok, capk, rfl, rfl, o1, o2, o3, o4, hk, c0, c1, c2, c3, c4, c5, c6⟩ := one_ex h1 ho hE hf.1
    exact stmt_4 n hn name acc T w0 w B b ht hw ao2 ao3 bo el cap2 cap3 x kx b0 off cap1 aok capk o1 o2 o3 o4 hk c0 c1 c2 c3 c4 c5 c6 (hB rfl) h2 (by show _ = T; rw [← hT]; simp [stT, txF, txA_one]) hl
  rw [if_neg k4] at hf
  by_cases k5 : k = 5
  · subst k5
    rw [if_pos rfl, decide_eq_true_eq] at hf
    by_cases hz : e.len = 0
    · have : e = .nil := by
        cases e with
        | nil => rfl
        | cons a b c => simp [Exs.len] at hz
      subst this
      exact stmt_5a n hn name acc T w0 w B b ht hw ao2 ao3 bo el cap2 cap3 ao1 cap1 (by show _ = T; rw [← hT]; simp [stT, txF, txA_one, Exs.len]) hl
    · obtain ⟨x, kx, b0, off, aok, capk, rfl, rfl, o1, o2, o3, o4, hk, c0, c1, c2, c3, c4, c5, c6⟩ := one_ex h1 ho hE (by omega)
      exact stmt_5b n hn name acc T w0 w B b ht hw ao2 ao3 bo el cap2 cap3 x kx b0 off cap1 aok capk o1 o2 o3 o4 hk c0 c1 c2 c3 c4 c5 c6 (by show _ = T; rw [← hT]; simp [stT, txF, txA_one, Exs.len]) hl
  rw [if_neg k5] at hf
  by_cases k6 : k = 6
  · subst k6
    rw [if_pos (Or.inl rfl), decide_eq_true_eq] at hf
    obtain ⟨x, kx, b0, off, aok, capk, rfl, rfl, o1, o2, o3, o4, hk, c0, c1, c2, c3, c4, c5, c6⟩ := one_ex h1 ho hE hf.1
    exact stmt_6 n hn name acc T w0 w B b ht hw ao2 ao3 bo.len el.len cap2 cap3 x kx b0 off cap1 aok capk o1 o2 o3 o4 hk c0 c1 c2 c3 c4 c5 c6 (by show _ = T; rw [← hT]; simp [stT, txF, txA_one]) hl
  by_cases k7 : k = 7
  · subst k7
    rw [if_pos (Or.inr rfl), decide_eq_true_eq] at hf
    obtain ⟨x, kx, b0, off, aok, capk, rfl, rfl, o1, o2, o3, o4, hk, c0, c1, c2, c3, c4, c5, c6⟩ := one_ex h1 ho hE hf.1
    exact stmt_7 n hn name acc T w0 w B b ht hw ao2 ao3 bo.len el.len cap2 cap3 x kx b0 off cap1 aok capk o1 o2 o3 o4 hk c0 c1 c2 c3 c4 c5 c6 (by show _ = T; rw [← hT]; simp [stT, txF, txA_one]) hl
  rw [if_neg (by omega)] at hf
  by_cases k8 : k = 8
  · subst k8
    rw [if_pos rfl, decide_eq_true_eq] at hf
    have : e = .nil := by
      cases e with
      | nil => rfl
      | cons a b c => simp [Exs.len] at hf
    subst this
    exact stmt_8 n hn name acc T w0 w B b ht hw ao2 ao3 bo el cap2 cap3 ao1 cap1 (hB rfl) h2 (hL (Or.inl rfl)) h3 (by show _ = T; rw [← hT]; simp [stT, txF, txA_one]) hl
  rw [if_neg k8] at hf
  by_cases k9 : k = 9
  · subst k9
    rw [if_pos rfl, decide_eq_true_eq] at hf
    obtain ⟨x, kx, b0, off, aok, capk, rfl, rfl, o1, o2, o3, o4, hk, c0, c1, c2, c3, c4, c5, c6⟩ := one_ex h1 ho hE hf.1
    exact stmt_9 n hn name acc T w0 w B b ht hw ao2 ao3 bo.len el.len cap2 cap3 x kx b0 off cap1 aok capk o1 o2 o3 o4 hk c0 c1 c2 c3 c4 c5 c6 (by show _ = T; rw [← hT]; simp [stT, txF, txA_one]) hl
  rw [if_neg k9] at hf
  cases hf
/-- A right block, at a depth. -/
def BlkC (k : Sts) : Prop := ∀ (n : Nat) (a : Int), n ≤ 32 → errS rnS cnS k = 0 → OkS k → dS k (n : Int) a ≤ 32 → BlkW k n
theorem stT_one (h : SH) (e : Exs) (b l r : Sts) (n : Nat) : stT txS (.cons h e b l r) n = stT txS (.cons h e b l .nil) n ++ stT txS r n := by
  conv => lhs; rw [stT]
  conv => rhs; rw [stT]
  rw [show stT txS .nil n = [] from rfl, List.append_nil]
set_option maxRecDepth 20000 in
set_option maxHeartbeats 4000000 in
theorem blk_step (k : Sts) (ih : ∀ k' : Sts, k'.size < k.size → BlkC k') : BlkC k := by
  intro n a0 hn he0 ho0 hd0 z hz ao cap w0 w B b acc T hk ht hw hT hl
  subst hz
  have hrest := hk.rest
  obtain ⟨hcap, hmax, _⟩ := hk
  have hlen : k.len ≤ 9223372036854775807 := by unfold maxLen at hmax; omega
  go_enter Tryz.func82, Tryz.ntmps82
  go_wp2_with fail
  go_loopg [10] k.len (fun g iv wr => ∃ (i : Nat) (r : Sts) (ac : Bs) (aa : Int), iv = ci (i : Int) ∧ i + r.len = k.len ∧ r.size ≤ k.size ∧ StR w0 ao i r ∧ errS rnS cnS r = 0 ∧ OkS r ∧ dS r (n : Int) aa ≤ 32 ∧ ac ++ stT txS r n = T ∧ g = r.len ∧ PW w0 B b ac wr ∧ Fr (BS B b w) w wr)
  case atStart => exact ⟨0, k, acc, a0, rfl, by omega, Nat.le_refl _, hrest, he0, ho0, hd0, hT, rfl, hw, Fr.refl _ _⟩
  case round =>
    obtain ⟨i, r, ac, aa, rfl, hlen2, hsize, hrow, her, hor, hdr, hac, hgk, hp, hfr⟩ := hrel
    have hgkH : Hidden (gk = r.len) := hgk
    have hacH : Hidden (ac ++ stT txS r n = T) := hac
    have hlenH : Hidden (i + r.len = k.len) := hlen2
    have herH : Hidden (errS rnS cnS r = 0) := her
    clear hgk hac hlen2 hrest her he0 hT
    cases r with
    | nil =>
      have hi : i = k.len := hlenH
      subst hi
      have : ac = T := by have := (show _ = T from hacH); simpa [stT] using this
      subst this
      go_wp2_with fail
      go_end0
      exact ⟨rfl, hp, hfr⟩
    | cons h' e' b' l' r' =>
      have hil : i < k.len := by have : i + (r'.len + 1) = k.len := hlenH; omega
      obtain ⟨b0, off, ao1, cap1, ao2, cap2, ao3, cap3, rfl, hL1, hL2, hL3, hrow2, d0, d1, d2, d3, d4⟩ := hrow.next
      have d0 := hp.fr.cellN d0
      have d1 := hp.fr.cellN d1
      have d2 := hp.fr.cellN d2
      have d3 := hp.fr.cellN d3
      have d4 := hp.fr.cellN d4
      have f2 := Fr.alloc (fun _ => False) wr (.cells #[ci h'.kind, ct h'.name, .slice ao1 e'.len cap1, .slice ao2 b'.len cap2, .slice ao3 l'.len cap3] 91)
      simp only [Sts.size] at hsize
      have her2 : errS rnS cnS (.cons h' e' b' l' r') = 0 := herH
      rw [errS] at her2
      obtain ⟨a1, a2⟩ := Pz.orE_0 her2
      obtain ⟨a3, a4⟩ := Pz.orE_0 a1
      obtain ⟨a5, a6⟩ := Pz.orE_0 a4
      obtain ⟨a7, a8⟩ := Pz.orE_0 a6
      obtain ⟨_, _, s1, s2, s3, s4⟩ := hor
      obtain ⟨q1, q2, q3, aa', q4⟩ := Pz.dS_cons (by omega) (by omega) hdr
      have hB : hasBody h'.kind = true → BlkW b' (n + 1) := fun hb => by
        have := q2 (Or.inl hb)
        have := Pz.dS_acc b' ((n : Int) + 1) ((n : Int) + 1)
        exact ih b' (by omega) (n + 1) ((n : Int) + 1) (by omega) a7 s2 (by simpa using q2 (Or.inl hb))
      have hL : h'.kind = 8 ∨ 0 < l'.len → BlkW l' (n + 1) := fun hb => by
        have := q3 hb
        have := Pz.dS_acc l' ((n : Int) + 1) ((n : Int) + 1)
        exact ih l' (by omega) (n + 1) ((n : Int) + 1) (by omega) a8 s3 (by simpa using q3 hb)
      obtain ⟨T2, hT2'⟩ : ∃ T2, ac ++ stT txS (.cons h' e' b' l' .nil) n = T2 := ⟨_, rfl⟩
      have hT2 : Hidden (ac ++ stT txS (.cons h' e' b' l' .nil) n = T2) := hT2'
      have hT3 : Hidden (T2 ++ stT txS r' n = T) := by
        show _ = T
        rw [← (show _ = T from hacH), stT_one, ← hT2', List.append_assoc]
      clear hT2' hacH her2 herH a1 a4 a6
      have ke := stmt_w h' e' b' l' n (by omega) a3 a5 s1 hB hL ao1 ao2 ao3 cap1 cap2 cap3 ac T2 w0 _ B b ht (hp.quiet f2) hL1 hL2 hL3 hT2 (app_le (show _ = T from hT3) hl)
      clear hT2 a3 a5 q1 q2 q3 hdr
      go_wp2_with fail
      go_at_call 129
      refine ke.mono ?_
      rintro e W3 ⟨rfl, p3, g3⟩
      go_wp2_with fail
      go_roundg r'.len
      case measure =>
        have : gk = r'.len + 1 := hgkH
        omega
      case rel =>
        refine ⟨i + 1, r', _, aa', by go_num, ?_, by omega, hrow2, a2, s4, q4, hT3, rfl, p3, bs_trans hfr (bs_then f2 g3)⟩
        have : i + (r'.len + 1) = k.len := hlenH
        omega
theorem blk_any (k : Sts) : BlkC k := by
  have : ∀ (n : Nat) (k : Sts), k.size < n → BlkC k := by
    intro n
    induction n with
    | zero => intro k hk; omega
    | succ n ih => intro k hk; exact blk_step k (fun k' hk' => ih k' (by omega))
  exact this (k.size + 1) k (by omega)
end Go.Proofs.YteijjaabngkbjaaGreatDoor
