/- The program's Parse and Expr; what must come at any rate. -/
import Derived.Test.YtpkaekokkhecmaaGreatDoorPwN
import Derived.Test.YtpkaekokkhecmaaGreatDoorPsT
namespace Go.Proofs.YtpkaekokkhecmaaGreatDoor
open Go.RowKit Lx Te
set_option linter.unusedSimpArgs false
set_option linter.unusedVariables false
set_option linter.unusedSectionVars false

/-- Of a text. -/
def Pz.parS (l : By) : Option (Option Mo × Nat × Int) := if (lexS wordsL valS l).2.2 = 0 then Pz.parT (lexS wordsL valS l).1 l.length else some (none, (lexS wordsL valS l).2.1, (lexS wordsL valS l).2.2)
def Pz.xprS (l : By) : Option (Option Pz.Ex × Nat × Int) := if (lexS wordsL valS l).2.2 = 0 then Pz.xprT (lexS wordsL valS l).1 l.length else some (none, (lexS wordsL valS l).2.1, (lexS wordsL valS l).2.2)
def Pz.mo (r : Option Mo) : Mo := r.getD ⟨[], [], []⟩
def Pz.ex (r : Option Pz.Ex) : Pz.Ex := r.getD (⟨0, 0, [], [], 0, 0⟩, .nil)
theorem Pz.lex_ne {l : By} {ts : List Tok} (h : lexS wordsL valS l = (ts, 0, 0)) : ∀ t ∈ ts, t.x ≠ [] := by
  have key : ∀ (p : Nat) (u : By) (ts : List Tok), Toks wordsL valS p u ts → ∀ t ∈ ts, t.x ≠ [] := by
    intro p u ts hT
    induction hT with
    | done p => simp
    | more p x r k ty b ts hk h0 hg hv h ih =>
      intro t ht
      rcases List.mem_cons.1 ht with rfl | ht
      · exact h0
      · exact ih t ht
  rcases toks_of_lexS wordsL valS l ts 0 0 h with ⟨_, _, _, _, hT⟩ | ⟨h0, _⟩
  · exact key _ _ _ hT
  · exact absurd rfl h0
theorem Pz.lex_parts (l : By) : ((lexS wordsL valS l).2.2 = 0 ∧ lexS wordsL valS l = ((lexS wordsL valS l).1, 0, 0) ∧ (lexS wordsL valS l).1.length ≤ 1024 ∧ l.length ≤ 4096) ∨ ((lexS wordsL valS l).2.2 ≠ 0 ∧ lexS wordsL valS l = ([], (lexS wordsL valS l).2.1, (lexS wordsL valS l).2.2)) := by
  rcases toks_of_lexS wordsL valS l _ _ _ (show lexS wordsL valS l = ((lexS wordsL valS l).1, (lexS wordsL valS l).2.1, (lexS wordsL valS l).2.2) from rfl) with ⟨h1, h2, h3, h4, _⟩ | ⟨h1, h2, _⟩
  · exact Or.inl ⟨h1, Prod.ext rfl (Prod.ext h2 h1), h3, h4⟩
  · exact Or.inr ⟨h1, Prod.ext h2 rfl⟩
theorem Pz.parS_some (l : By) : ∃ r, Pz.parS l = some r := by
  unfold Pz.parS
  rcases Pz.lex_parts l with ⟨h1, h2, h3, _⟩ | ⟨h1, h2⟩
  · rw [if_pos h1]
    exact Pz.parT_some _ _ (Pz.lex_ne h2)
  · rw [if_neg h1]
    exact ⟨_, rfl⟩
theorem Pz.xprS_some (l : By) : ∃ r, Pz.xprS l = some r := by
  unfold Pz.xprS
  rcases Pz.lex_parts l with ⟨h1, h2, h3, _⟩ | ⟨h1, h2⟩
  · rw [if_pos h1]
    exact Pz.xprT_some _ _ (Pz.lex_ne h2)
  · rw [if_neg h1]
    exact ⟨_, rfl⟩
theorem results_ctt {fn : Func} {p0 p1 p2 : Tmp} {t0 : TypeId} (h : fn.results = #[.cell p0 t0, .tmp p1, .tmp p2]) (tmps : Array Value) (w : World) (a0 : Addr) (v0 : Value)
    (h0 : tmps.getD p0 undef = .pointer (some a0)) (l0 : (loadVar t0 a0).run Tryz.prog w = .ok v0 w) : (results fn tmps).run Tryz.prog w = .ok (.tuple #[v0, tmps.getD p1 undef, tmps.getD p2 undef]) w := by
  have h0' : tmps[p0]?.getD undef = .pointer (some a0) := by simpa using h0
  simp [results, h, h0', asAddr, l0, Sem.run_bind, Result.andThen]
/-- read. -/
theorem readM_any (l : By) (r : Option Mo) (p : Nat) (c : Int) (hl : l.length ≤ 9223372036854775807) (h : Pz.parS l = some (r, p, c)) (w : World) (ht : F.Tab w) :
    Calls Tryz.prog 24 #[ct l, .func (.func 25) #[] #[]] w fun e w' => ∃ v, e = .returned (.tuple #[v, ci (p : Int), ci c]) ∧ Nw w.heap.size w' (fun w' => MoI w' (Pz.mo r) v) ∧ Fr (fun _ => False) w w' := by
  unfold Pz.parS at h
  rcases Pz.lex_parts l with ⟨h1, h2, h3, _⟩ | ⟨h1, h2⟩
  · rw [if_pos h1] at h
    exact readM_toks l _ ((lexS wordsL valS l).1.length + 2) (by omega) h3 p c r hl h2 h w ht
  · rw [if_neg h1] at h
    have e := Option.some.inj h
    cases e
    exact (readM_lex l _ _ h1 hl h2 w ht).mono fun e w' ⟨h3, h4⟩ => ⟨_, h3, fun _ _ => ⟨none, 0, none, 0, rfl, ⟨Nat.le_refl _, by decide, Or.inl rfl⟩, ⟨Nat.le_refl _, by decide, Or.inl rfl⟩⟩, h4⟩
theorem readX_any (l : By) (r : Option Pz.Ex) (p : Nat) (c : Int) (hl : l.length ≤ 9223372036854775807) (h : Pz.xprS l = some (r, p, c)) (w : World) (ht : F.Tab w) :
    Calls Tryz.prog 12 #[ct l, .func (.func 13) #[] #[]] w fun e w' => ∃ v, e = .returned (.tuple #[v, ci (p : Int), ci c]) ∧ Nw w.heap.size w' (fun w' => ExI w' (Pz.ex r).1 (Pz.ex r).2 v) ∧ Fr (fun _ => False) w w' := by
  unfold Pz.xprS at h
  rcases Pz.lex_parts l with ⟨h1, h2, h3, _⟩ | ⟨h1, h2⟩
  · rw [if_pos h1] at h
    exact readX_toks l _ ((lexS wordsL valS l).1.length + 2) (by omega) h3 p c r hl h2 h w ht
  · rw [if_neg h1] at h
    have e := Option.some.inj h
    cases e
    exact (readX_lex l _ _ h1 hl h2 w ht).mono fun e w' ⟨h3, h4⟩ => ⟨_, h3, fun _ _ => ⟨none, 0, rfl, Nat.le_refl _, by decide, Or.inl rfl⟩, h4⟩
set_option maxRecDepth 20000 in
/-- Parse. -/
theorem par_any (l : By) (r : Option Mo) (p : Nat) (c : Int) (hl : l.length ≤ 9223372036854775807) (h : Hidden (Pz.parS l = some (r, p, c))) (w : World) (ht : F.Tab w) :
    Calls Tryz.prog 11 #[ct l] w fun e w' => ∃ ao cap ao' cap', e = .returned (.tuple #[.agg #[ct (Pz.mo r).name, .slice ao (Pz.mo r).imports.length cap, .slice ao' (Pz.mo r).decls.length cap'], ci (p : Int), ci c]) ∧ SvL w' ao cap (Pz.mo r).imports ∧ DeL w' ao' cap' (Pz.mo r).decls ∧ Fr (fun _ => False) w w' := by
  have f0 := Fr.alloc (fun _ => False) w mo0
  have k := readM_any l r p c hl h _ (tab_fr ht f0)
  have hb0 : Hidden ((w.alloc mo0).heap[w.heap.size]? = some mo0) := alloc_new _ _
  clear h
  go_enter Tryz.func11, Tryz.ntmps11
  go_wp2_with fail
  go_at_call 24
  refine k.mono ?_
  rintro e W1 ⟨v, rfl, hN, f1⟩
  obtain ⟨ao, cap, ao', cap', rfl, _, _⟩ := hN.now
  have hb1 : Hidden (W1.heap[w.heap.size]? = some mo0) := f1.heap hb0 (fun f => f)
  obtain ⟨a0, a1, a2, z0, z1, z2⟩ := box3 hb1
  simp only [World.size_alloc] at hN
  go_wp2_with fail
  have fs := set3_fr W1 w.heap.size (ct (Pz.mo r).name) (.slice ao (Pz.mo r).imports.length cap) (.slice ao' (Pz.mo r).decls.length cap')
  obtain ⟨x1, x2, x3, x4, e5, h1, h2⟩ := (hN.step fs (fun k hk => by subst hk; omega)).now
  cases e5
  exact post_one (results_ctt rfl _ _ _ _ rfl (run_loadVar_row _ _ _ _ _ _ _ (set_three hb1 _ _ _) Tryz.underlying44 rfl info_mo)) rfl ⟨_, _, _, _, rfl, h1, h2, (f0.same f1).over fs (fun k hk => by subst hk; exact Nat.le_refl _)⟩
set_option maxRecDepth 20000 in
/-- Expr. -/
theorem xpr_any (l : By) (r : Option Pz.Ex) (p : Nat) (c : Int) (hl : l.length ≤ 9223372036854775807) (h : Hidden (Pz.xprS l = some (r, p, c))) (w : World) (ht : F.Tab w) :
    Calls Tryz.prog 6 #[ct l] w fun e w' => ∃ ao cap, e = .returned (.tuple #[.agg #[ci (Pz.ex r).1.kind, ci (Pz.ex r).1.op, ct (Pz.ex r).1.mod, ct (Pz.ex r).1.name, ci (Pz.ex r).1.vt, .int .u64 (Pz.ex r).1.vb, .slice ao (Pz.ex r).2.len cap], ci (p : Int), ci c]) ∧ ExL w' ao cap (Pz.ex r).2 ∧ Fr (fun _ => False) w w' := by
  have f0 := Fr.alloc (fun _ => False) w ex0
  have k := readX_any l r p c hl h _ (tab_fr ht f0)
  have hb0 : Hidden ((w.alloc ex0).heap[w.heap.size]? = some ex0) := alloc_new _ _
  clear h
  go_enter Tryz.func6, Tryz.ntmps6
  go_wp2_with fail
  go_at_call 12
  refine k.mono ?_
  rintro e W1 ⟨v, rfl, hN, f1⟩
  obtain ⟨ao, cap, rfl, _⟩ := hN.now
  have hb1 : Hidden (W1.heap[w.heap.size]? = some ex0) := f1.heap hb0 (fun f => f)
  obtain ⟨a0, a1, a2, a3, a4, a5, a6, z0, z1, z2, z3, z4, z5, z6⟩ := box7 hb1
  simp only [World.size_alloc] at hN
  go_wp2_with fail
  have fs := set7_fr W1 w.heap.size (ci (Pz.ex r).1.kind) (ci (Pz.ex r).1.op) (ct (Pz.ex r).1.mod) (ct (Pz.ex r).1.name) (ci (Pz.ex r).1.vt) (.int .u64 (Pz.ex r).1.vb) (.slice ao (Pz.ex r).2.len cap)
  obtain ⟨x1, x2, e5, h1⟩ := (hN.step fs (fun k hk => by subst hk; omega)).now
  cases e5
  exact post_one (results_ctt rfl _ _ _ _ rfl (run_loadVar_row _ _ _ _ _ _ _ (set_seven hb1 _ _ _ _ _ _ _) Tryz.underlying27 rfl info_ex)) rfl ⟨_, _, rfl, h1, (f0.same f1).over fs (fun k hk => by subst hk; exact Nat.le_refl _)⟩

def liveA : By := [49, 32, 43, 32, 50, 32, 42, 32, 120]
def liveB : By := [97, 32, 60, 32, 98, 32, 60, 32, 99]
def liveC : By := [109, 111, 100, 117, 108, 101, 32, 109, 59, 32, 102, 110, 32, 102, 40, 97, 58, 32, 105, 110, 116, 41, 58, 32, 98, 111, 111, 108, 32, 123, 32, 114, 101, 116, 117, 114, 110, 32, 97, 32, 62, 32, 48, 59, 32, 125]
theorem liveA_is : Pz.xprS liveA = some (some (Pz.bin 1 (Pz.lit 1 1) (Pz.bin 3 (Pz.lit 1 2) (⟨2, 0, [], [120], 0, 0⟩, .nil))), 0, 0) := by decide +kernel
theorem liveB_is : Pz.xprS liveB = some (none, 6, 11) := by decide +kernel
theorem liveC_is : Pz.parS liveC = some (some ⟨[109], [], [⟨3, false, [102], 3, [⟨[97], 1⟩], .nil, .cons ⟨5, []⟩ (.cons ⟨7, 10, [], [], 0, 0⟩ (.cons ⟨2, 0, [], [97], 0, 0⟩ .nil (.cons ⟨1, 0, [], [], 1, 0⟩ .nil .nil)) .nil) .nil .nil .nil⟩]⟩, 0, 0) := by decide +kernel
end Go.Proofs.YtpkaekokkhecmaaGreatDoor
