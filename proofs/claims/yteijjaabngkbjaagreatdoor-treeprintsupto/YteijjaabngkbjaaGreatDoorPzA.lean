/- Modules: how long their texts are; what is printed; what is read of it. -/
import Derived.Test.YteijjaabngkbjaaGreatDoorPyI
import Derived.Test.YteijjaabngkbjaaGreatDoorPxA
import Derived.Test.YteijjaabngkbjaaGreatDoorPsQ
import Derived.Test.YteijjaabngkbjaaGreatDoorPsE2
import Derived.Test.YteijjaabngkbjaaGreatDoorTrTAll
import Derived.Test.YteijjaabngkbjaaGreatDoorTrB
namespace Go.Proofs.YteijjaabngkbjaaGreatDoor
open Go.RowKit Lx Te
set_option linter.unusedSimpArgs false
set_option linter.unusedVariables false

theorem kws_in : ∀ x ∈ Pz.kws, x ∈ wordsL := by decide
theorem tx_ln (vt vb : Int) (h : litOk cnS vt vb = true) (h0 : 0 ≤ vb) : (txS vt vb).length ≤ 3001 := by
  have hb : vb < 9223372036854775808 := by
    unfold litOk at h
    split at h
    · simpa using h
    · split at h
      · rw [Bool.and_eq_true] at h; simpa using h.1
      · split at h
        · have : vb ≤ 1 := by simpa using h
          omega
        · cases h
  exact txS_len vt vb h0 (by omega) (fun _ => hb)
theorem nnX_of : ∀ (k : Exs), OkX k → Pz.NnX k
  | .nil, _ => trivial
  | .cons h k r, ⟨h1, h2, h3⟩ => ⟨h1.vb0, nnX_of k h2, nnX_of r h3⟩
theorem nnS_of : ∀ (k : Sts), OkS k → Pz.NnS k
  | .nil, _ => trivial
  | .cons h e b l r, ⟨_, _, h1, h2, h3, h4⟩ => ⟨nnX_of e h1, nnS_of b h2, nnS_of l h3, nnS_of r h4⟩
theorem nnD_of {d : De} (h : OkD d) : Pz.NnD d := ⟨nnX_of _ h.e, nnS_of _ h.body⟩
theorem sz_bkX : ∀ k : Exs, k.size + 1 ≤ In.bkX k
  | .nil => Nat.le_refl _
  | .cons h k r => by have := sz_bkX k; have := sz_bkX r; simp only [Exs.size, In.bkX]; omega
theorem sz_bkS : ∀ k : Sts, k.size + 1 ≤ In.bkS k
  | .nil => Nat.le_refl _
  | .cons h e b l r => by have := sz_bkX e; have := sz_bkS b; have := sz_bkS l; have := sz_bkS r; simp only [Sts.size, In.bkS]; omega
theorem pa_sum : ∀ l : List Pa, l.length ≤ (l.map fun p => p.name.length + 1).sum
  | [] => Nat.le_refl _
  | p :: r => by have := pa_sum r; simp only [List.length_cons, List.map_cons, List.sum_cons]; omega
theorem im_sum : ∀ l : List Bs, l.length ≤ (l.map fun p => p.length + 1).sum
  | [] => Nat.le_refl _
  | p :: r => by have := im_sum r; simp only [List.length_cons, List.map_cons, List.sum_cons]; omega
theorem nd_bk (d : De) : ndD d ≤ In.bkD d := by
  have := sz_bkX d.e
  have := sz_bkS d.body
  have := pa_sum d.params
  unfold ndD In.bkD
  omega
theorem fDs_bk : ∀ l : List De, Pz.fDs l ≤ (l.map In.bkD).sum
  | [] => Nat.le_refl _
  | d :: r => by
    have := fDs_bk r
    have := nd_bk d
    simp only [Pz.fDs, List.map_cons, List.sum_cons] at *
    omega
theorem errDs_mem : ∀ (l : List De), errDs rnS cnS l = 0 → ∀ d ∈ l, errD rnS cnS d = 0
  | [], _, d, hd => by simp at hd
  | x :: r, h, d, hd => by
    obtain ⟨h1, h2⟩ := Pz.orE_0 h
    rcases List.mem_cons.1 hd with rfl | hd
    · exact h1
    · exact errDs_mem r h2 d hd
theorem errM_decls {m : Mo} (h : errM rnS cnS m = 0) : ∀ d ∈ m.decls, errD rnS cnS d = 0 := by
  unfold errM at h
  obtain ⟨_, a2⟩ := Pz.orE_0 h
  obtain ⟨_, a4⟩ := Pz.orE_0 a2
  obtain ⟨_, a6⟩ := Pz.orE_0 a4
  obtain ⟨_, a8⟩ := Pz.orE_0 a6
  exact errDs_mem _ a8
theorem mo_len (m : Mo) (he : errM rnS cnS m = 0) (hN : ∀ d ∈ m.decls, Pz.NnD d) (hsz : m.imports.length + Pz.fDs m.decls ≤ 10000000) : (moT txS m).length ≤ 60000000000 := by
  have := Pz.moT_ln (rn := rnS) (cn := cnS) (tx := txS) (fun x h => rn_len h) tx_ln m he hN
  omega
/-- What is printed of any module that is not too great. -/
theorem print_up (m : Mo) (v : Value) (w : World) (hok : OkM m) (hv : MoI w m v) (ht : F.Tab w) (hsz : m.imports.length + Pz.fDs m.decls ≤ 10000000) :
    Calls Tryz.prog 8 #[v] w fun e w' => e = .returned (.tuple #[ct (prS m).1, ci (prS m).2]) ∧ Fr (fun _ => False) w w' :=
  print_w m v w hok hv ht (fun he d hd => decl_w d (errM_decls he d hd) (hok.decls d hd)) (fun he => by have := mo_len m he (fun d hd => nnD_of (hok.decls d hd)) hsz; omega)
/-- What is read of a text that is printed. -/
theorem pr_back (m : Mo) (he : errM rnS cnS m = 0) (hN : ∀ d ∈ m.decls, Pz.NnD d) (h3 : (lexS wordsL valS (moT txS m)).2.2 ≠ 3) : Pz.parS (moT txS m) = some (some m, 0, 0) := by
  have h0 : (lexS wordsL valS (moT txS m)).2.2 = 0 := by
    rcases Pz.rd_err (Pz.rd_mo lawT kws_in m he hN) with h | h
    · exact h
    · exact absurd h h3
  unfold Pz.parS
  rw [if_pos h0]
  refine Pz.mod_back lawT kws_in lawI m he hN _ (lexS wordsL valS (moT txS m)).2.1 ?_ _
  exact Prod.ext rfl (Prod.ext rfl h0)
/-- What is read of any text. -/
theorem par_parts (l : By) : (∃ m ts, Pz.parS l = some (some m, 0, 0) ∧ lexS wordsL valS l = (ts, 0, 0) ∧ Pz.parT ts l.length = some (some m, 0, 0) ∧ ts.length ≤ 1024 ∧ l.length ≤ 4096) ∨ ∃ p c, Pz.parS l = some (none, p, c) ∧ c ≠ 0 := by
  obtain ⟨⟨r, p, c⟩, h⟩ := Pz.parS_some l
  have h' := h
  unfold Pz.parS at h
  rcases Pz.lex_parts l with ⟨h1, h2, h3, h4⟩ | ⟨h1, h2⟩
  · rw [if_pos h1] at h
    rcases Pz.parT_nz _ _ _ _ _ h with ⟨rfl, rfl, m, rfl⟩ | ⟨hc, rfl⟩
    · exact Or.inl ⟨m, _, h', h2, h, h3, h4⟩
    · exact Or.inr ⟨p, c, h', hc⟩
  · rw [if_neg h1] at h
    simp only [Option.some.injEq, Prod.mk.injEq] at h
    obtain ⟨rfl, rfl, rfl⟩ := h
    exact Or.inr ⟨_, _, h', h1⟩
end Go.Proofs.YteijjaabngkbjaaGreatDoor
