/- PwO PsG PsH PsO PsE2 TrTAll PzA PsR PsU PsZ PzB -/
import Derived.Test.YteijjaabngkbjaaGreatDoorPwN
import Derived.Test.YteijjaabngkbjaaGreatDoorPwBB
import Derived.Test.YteijjaabngkbjaaGreatDoorLxAll
import Derived.Test.YteijjaabngkbjaaGreatDoorPsDB
import Derived.Test.YteijjaabngkbjaaGreatDoorIyAB
import Derived.Deep.RegionHeld3
import Derived.Lib.Builder
import Derived.Shelf.Strings.Builder1
import Derived.Lib.UnsafeStr
import Derived.Test.YteijjaabngkbjaaGreatDoorPwDB
import Derived.Shelf.Strings.Builder2
import Derived.Shelf.Strings.OnBuilder
import Derived.Shelf.Small.Bits
import Derived.Shelf.Small.Strs
import Derived.Shelf.Small.Wraps
import Derived.Shelf.Strconv.Itoa0
import Derived.Shelf.Strconv.Itoa1
import Derived.Shelf.LaysM
import Derived.Shelf.Strconv.Itoa2
import Derived.Shelf.Strconv.Itoa3
import Derived.Shelf.Strconv.Itoa4
import Derived.Shelf.Strings.Search1
import Derived.Shelf.Strings.Search2
import Derived.Shelf.Strings.Prefix
import Derived.Shelf.Bits.Mul64
import Derived.Test.YteijjaabngkbjaaGreatDoorProg
import Derived.Deep.Slices
import Derived.Deep.Strs
import Derived.ChangeSlices
import Derived.ChangeArms
import Derived.DataReads
namespace Go.Proofs.YteijjaabngkbjaaGreatDoor
open Go.RowKit Lx Te
set_option linter.unusedSimpArgs false
set_option linter.unusedVariables false
set_option linter.unusedSectionVars false
def Pz.parS (l : By) : Option (Option Mo × Nat × Int) := if (lexS wordsL valS l).2.2 = 0 then Pz.parT (lexS wordsL valS l).1 l.length else some (none, (lexS wordsL valS l).2.1, (lexS wordsL valS l).2.2)
def Pz.xprS (l : By) : Option (Option Pz.Ex × Nat × Int) := if (lexS wordsL valS l).2.2 = 0 then Pz.xprT (lexS wordsL valS l).1 l.length else some (none, (lexS wordsL valS l).2.1, (lexS wordsL valS l).2.2)
def Pz.mo (r : Option Mo) : Mo := r.getD ⟨[], [], []⟩
def Pz.ex (r : Option Pz.Ex) : Pz.Ex := r.getD (⟨0, 0, [], [], 0, 0⟩, .nil)
theorem Pz.lex_ne {l : By} {ts : List Tok} (h : lexS wordsL valS l = (ts, 0, 0)) : ∀ t ∈ ts, t.x ≠ [] := by
  have key : ∀ (p : Nat) (u : By) (ts : List Tok), Toks wordsL valS p u ts → ∀ t ∈ ts, t.x ≠ [] := by
    intro p u ts hT
    induction hT with
    | done p => simp
    | more p x r k ty b ts hk h0 hg hv h ih =>
      intro t ht
      rcases List.mem_cons.1 ht with rfl | ht
      · exact h0
      · exact ih t ht
  rcases toks_of_lexS wordsL valS l ts 0 0 h with ⟨_, _, _, _, hT⟩ | ⟨h0, _⟩
  · exact key _ _ _ hT
  · exact absurd rfl h0
theorem Pz.lex_parts (l : By) : ((lexS wordsL valS l).2.2 = 0 ∧ lexS wordsL valS l = ((lexS wordsL valS l).1, 0, 0) ∧ (lexS wordsL valS l).1.length ≤ 1024 ∧ l.length ≤ 4096) ∨ ((lexS wordsL valS l).2.2 ≠ 0 ∧ lexS wordsL valS l = ([], (lexS wordsL valS l).2.1, (lexS wordsL valS l).2.2)) := by
  rcases toks_of_lexS wordsL valS l _ _ _ (show lexS wordsL valS l = ((lexS wordsL valS l).1, (lexS wordsL valS l).2.1, (lexS wordsL valS l).2.2) from rfl) with ⟨h1, h2, h3, h4, _⟩ | ⟨h1, h2, _⟩
  · exact Or.inl ⟨h1, Prod.ext rfl (Prod.ext h2 h1), h3, h4⟩
  · exact Or.inr ⟨h1, Prod.ext h2 rfl⟩
theorem Pz.parS_some (l : By) : ∃ r, Pz.parS l = some r := by
  unfold Pz.parS
  rcases Pz.lex_parts l with ⟨h1, h2, h3, _⟩ | ⟨h1, h2⟩
  · rw [if_pos h1]
    exact Pz.parT_some _ _ (Pz.lex_ne h2)
  · rw [if_neg h1]
    exact ⟨_, rfl⟩
theorem results_ctt {fn : Func} {p0 p1 p2 : Tmp} {t0 : TypeId} (h : fn.results = #[.cell p0 t0, .tmp p1, .tmp p2]) (tmps : Array Value) (w : World) (a0 : Addr) (v0 : Value)
    (h0 : tmps.getD p0 undef = .pointer (some a0)) (l0 : (loadVar t0 a0).run Tryz.prog w = .ok v0 w) : (results fn tmps).run Tryz.prog w = .ok (.tuple #[v0, tmps.getD p1 undef, tmps.getD p2 undef]) w := by
  have h0' : tmps[p0]?.getD undef = .pointer (some a0) := by simpa using h0
  simp [results, h, h0', asAddr, l0, Sem.run_bind, Result.andThen]
theorem readM_any (l : By) (r : Option Mo) (p : Nat) (c : Int) (hl : l.length ≤ 9223372036854775807) (h : Pz.parS l = some (r, p, c)) (w : World) (ht : F.Tab w) :
    Calls Tryz.prog 32 #[ct l, .func (.func 33) #[] #[]] w fun e w' => ∃ v, e = .returned (.tuple #[v, ci (p : Int), ci c]) ∧ Nw w.heap.size w' (fun w' => MoI w' (Pz.mo r) v) ∧ Fr (fun _ => False) w w' := by
  unfold Pz.parS at h
  rcases Pz.lex_parts l with ⟨h1, h2, h3, _⟩ | ⟨h1, h2⟩
  · rw [if_pos h1] at h
    exact readM_toks l _ ((lexS wordsL valS l).1.length + 2) (by omega) h3 p c r hl h2 h w ht
  · rw [if_neg h1] at h
    have e := Option.some.inj h
    cases e
    exact (readM_lex l _ _ h1 hl h2 w ht).mono fun e w' ⟨h3, h4⟩ => ⟨_, h3, fun _ _ => ⟨none, 0, none, 0, rfl, ⟨Nat.le_refl _, by decide, Or.inl rfl⟩, ⟨Nat.le_refl _, by decide, Or.inl rfl⟩⟩, h4⟩
theorem readX_any (l : By) (r : Option Pz.Ex) (p : Nat) (c : Int) (hl : l.length ≤ 9223372036854775807) (h : Pz.xprS l = some (r, p, c)) (w : World) (ht : F.Tab w) :
    Calls Tryz.prog 58 #[ct l, .func (.func 59) #[] #[]] w fun e w' => ∃ v, e = .returned (.tuple #[v, ci (p : Int), ci c]) ∧ Nw w.heap.size w' (fun w' => ExI w' (Pz.ex r).1 (Pz.ex r).2 v) ∧ Fr (fun _ => False) w w' := by
  unfold Pz.xprS at h
  rcases Pz.lex_parts l with ⟨h1, h2, h3, _⟩ | ⟨h1, h2⟩
  · rw [if_pos h1] at h
    exact readX_toks l _ ((lexS wordsL valS l).1.length + 2) (by omega) h3 p c r hl h2 h w ht
  · rw [if_neg h1] at h
    have e := Option.some.inj h
    cases e
    exact (readX_lex l _ _ h1 hl h2 w ht).mono fun e w' ⟨h3, h4⟩ => ⟨_, h3, fun _ _ => ⟨none, 0, rfl, Nat.le_refl _, by decide, Or.inl rfl⟩, h4⟩
set_option maxRecDepth 20000 in
theorem par_any (l : By) (r : Option Mo) (p : Nat) (c : Int) (hl : l.length ≤ 9223372036854775807) (h : Hidden (Pz.parS l = some (r, p, c))) (w : World) (ht : F.Tab w) :
    Calls Tryz.prog 14 #[ct l] w fun e w' => ∃ ao cap ao' cap', e = .returned (.tuple #[.agg #[ct (Pz.mo r).name, .slice ao (Pz.mo r).imports.length cap, .slice ao' (Pz.mo r).decls.length cap'], ci (p : Int), ci c]) ∧ SvL w' ao cap (Pz.mo r).imports ∧ DeL w' ao' cap' (Pz.mo r).decls ∧ Fr (fun _ => False) w w' := by
  have f0 := Fr.alloc (fun _ => False) w mo0
  have k := readM_any l r p c hl h _ (tab_fr ht f0)
  have hb0 : Hidden ((w.alloc mo0).heap[w.heap.size]? = some mo0) := alloc_new _ _
  clear h
  go_enter Tryz.func14, Tryz.ntmps14
  go_wp2_with fail
  go_at_call 32
  refine k.mono ?_
  rintro e W1 ⟨v, rfl, hN, f1⟩
  obtain ⟨ao, cap, ao', cap', rfl, _, _⟩ := hN.now
  have hb1 : Hidden (W1.heap[w.heap.size]? = some mo0) := f1.heap hb0 (fun f => f)
  obtain ⟨a0, a1, a2, z0, z1, z2⟩ := box3 hb1
  simp only [World.size_alloc] at hN
  go_wp2_with fail
  have fs := set3_fr W1 w.heap.size (ct (Pz.mo r).name) (.slice ao (Pz.mo r).imports.length cap) (.slice ao' (Pz.mo r).decls.length cap')
  obtain ⟨x1, x2, x3, x4, e5, h1, h2⟩ := (hN.step fs (fun k hk => by subst hk; omega)).now
  cases e5
  exact post_one (results_ctt rfl _ _ _ _ rfl (run_loadVar_row _ _ _ _ _ _ _ (set_three hb1 _ _ _) Tryz.underlying25 rfl info_mo)) rfl ⟨_, _, _, _, rfl, h1, h2, (f0.same f1).over fs (fun k hk => by subst hk; exact Nat.le_refl _)⟩
set_option maxRecDepth 20000 in
theorem xpr_any (l : By) (r : Option Pz.Ex) (p : Nat) (c : Int) (hl : l.length ≤ 9223372036854775807) (h : Hidden (Pz.xprS l = some (r, p, c))) (w : World) (ht : F.Tab w) :
    Calls Tryz.prog 31 #[ct l] w fun e w' => ∃ ao cap, e = .returned (.tuple #[.agg #[ci (Pz.ex r).1.kind, ci (Pz.ex r).1.op, ct (Pz.ex r).1.mod, ct (Pz.ex r).1.name, ci (Pz.ex r).1.vt, .int .u64 (Pz.ex r).1.vb, .slice ao (Pz.ex r).2.len cap], ci (p : Int), ci c]) ∧ ExL w' ao cap (Pz.ex r).2 ∧ Fr (fun _ => False) w w' := by
  have f0 := Fr.alloc (fun _ => False) w ex0
  have k := readX_any l r p c hl h _ (tab_fr ht f0)
  have hb0 : Hidden ((w.alloc ex0).heap[w.heap.size]? = some ex0) := alloc_new _ _
  clear h
  go_enter Tryz.func31, Tryz.ntmps31
  go_wp2_with fail
  go_at_call 58
  refine k.mono ?_
  rintro e W1 ⟨v, rfl, hN, f1⟩
  obtain ⟨ao, cap, rfl, _⟩ := hN.now
  have hb1 : Hidden (W1.heap[w.heap.size]? = some ex0) := f1.heap hb0 (fun f => f)
  obtain ⟨a0, a1, a2, a3, a4, a5, a6, z0, z1, z2, z3, z4, z5, z6⟩ := box7 hb1
  simp only [World.size_alloc] at hN
  go_wp2_with fail
  have fs := set7_fr W1 w.heap.size (ci (Pz.ex r).1.kind) (ci (Pz.ex r).1.op) (ct (Pz.ex r).1.mod) (ct (Pz.ex r).1.name) (ci (Pz.ex r).1.vt) (.int .u64 (Pz.ex r).1.vb) (.slice ao (Pz.ex r).2.len cap)
  obtain ⟨x1, x2, e5, h1⟩ := (hN.step fs (fun k hk => by subst hk; omega)).now
  cases e5
  exact post_one (results_ctt rfl _ _ _ _ rfl (run_loadVar_row _ _ _ _ _ _ _ (set_seven hb1 _ _ _ _ _ _ _) Tryz.underlying59 rfl info_ex)) rfl ⟨_, _, rfl, h1, (f0.same f1).over fs (fun k hk => by subst hk; exact Nat.le_refl _)⟩
def liveA : By := [49, 32, 43, 32, 50, 32, 42, 32, 120]
def liveB : By := [97, 32, 60, 32, 98, 32, 60, 32, 99]
def liveC : By := [109, 111, 100, 117, 108, 101, 32, 109, 59, 32, 102, 110, 32, 102, 40, 97, 58, 32, 105, 110, 116, 41, 58, 32, 98, 111, 111, 108, 32, 123, 32, 114, 101, 116, 117, 114, 110, 32, 97, 32, 62, 32, 48, 59, 32, 125]
theorem liveA_is : Pz.xprS liveA = some (some (Pz.bin 1 (Pz.lit 1 1) (Pz.bin 3 (Pz.lit 1 2) (⟨2, 0, [], [120], 0, 0⟩, .nil))), 0, 0) := by decide +kernel
theorem liveB_is : Pz.xprS liveB = some (none, 6, 11) := by decide +kernel
theorem liveC_is : Pz.parS liveC = some (some ⟨[109], [], [⟨3, false, [102], 3, [⟨[97], 1⟩], .nil, .cons ⟨5, []⟩ (.cons ⟨7, 10, [], [], 0, 0⟩ (.cons ⟨2, 0, [], [97], 0, 0⟩ .nil (.cons ⟨1, 0, [], [], 1, 0⟩ .nil .nil)) .nil) .nil .nil .nil⟩]⟩, 0, 0) := by decide +kernel
end Go.Proofs.YteijjaabngkbjaaGreatDoor
namespace Go.Proofs.YteijjaabngkbjaaGreatDoor
set_option linter.unusedSimpArgs false
set_option linter.unusedVariables false
namespace Pz
open Lx Te
abbrev Co := Nat × By × Int × Int
section
variable {words : List By} {V : Nat → By → Int × Int × Int}
def Rd (words : List By) (V : Nat → By → Int × Int × Int) (u : By) (T : List Co) : Prop := ∀ q, ∃ ts, Toks words V q (u.drop (gap u)) ts ∧ ts.map Tok.core = T
theorem Rd.nil : Rd words V [] [] := fun q => ⟨[], by simpa using Toks.done q, rfl⟩
theorem Rd.blank {c : UInt8} {u : By} {T : List Co} (hc : blB c = true) (h : Rd words V u T) : Rd words V (c :: u) T := by
  intro q
  obtain ⟨ts, h1, h2⟩ := h q
  refine ⟨ts, ?_, h2⟩
  rw [gap, gapM_false, if_pos hc, Nat.add_comm, List.drop_succ_cons]
  exact h1
theorem Rd.step {x r : By} {k : Nat} {ty b : Int} {T : List Co} (h0 : x ≠ []) (hg : gap (x ++ r) = 0) (hk : kindLen words (x ++ r) = (k, x.length)) (hv : V k x = (ty, b, 0)) (h : Rd words V r T) : Rd words V (x ++ r) ((k, x, ty, b) :: T) := by
  intro q
  obtain ⟨ts, h1, h2⟩ := h (q + x.length + gap r)
  refine ⟨⟨k, x, ty, b, q⟩ :: ts, ?_, by simp [h2, Tok.core]⟩
  rw [hg, List.drop_zero]
  exact .more q x r k ty b ts hk h0 hg hv h1
theorem gap0 {c : UInt8} {r : By} (h1 : blB c = false) (h2 : c ≠ 47) : gap (c :: r) = 0 := by
  rw [gap, gapM_false, if_neg (by simp [h1]), if_neg (fun h => h2 h.1)]
theorem ltr_f {c : UInt8} (h : ltr c = true) : blB c = false ∧ c ≠ 47 ∧ dgt c = false ∧ c ≠ 61 := by
  refine ⟨?_, ?_, ?_, ?_⟩
  · cases hb : blB c with
    | false => rfl
    | true => have := (blank_no hb).1; simp [nmB, h] at this
  · rintro rfl; revert h; decide
  · simp only [ltr, dgt, Bool.or_eq_true, Bool.and_eq_true, decide_eq_true_eq, Bool.and_eq_false_iff, decide_eq_false_iff_not] at *; omega
  · rintro rfl; revert h; decide
def StN (r : By) : Prop := ∀ c, r[0]? = some c → nmB c = false
def enB (c : UInt8) : Bool := c == 32 || c == 41 || c == 44 || c == 59
def End (r : By) : Prop := ∀ c, r[0]? = some c → enB c = true
theorem End.no {r : By} (h : End r) : r[0]? ≠ some 61 := fun hc => by
  have := h _ hc; revert this; decide
theorem End.nil : End [] := fun c h => by simp at h
theorem End.cons {c : UInt8} {r : By} (h : enB c = true) : End (c :: r) := fun d hd => by
  simp at hd; subst hd; exact h
theorem StN.cons {c : UInt8} {r : By} (h : nmB c = false) : StN (c :: r) := fun d hd => by
  simp at hd; subst hd; exact h
theorem Rd.word {x r : By} {T : List Co} {ty b : Int} (hx : ∃ c r', x = c :: r' ∧ ltr c = true) (ha : ∀ c ∈ x, nmB c = true) (hr : StN r) (k : Nat) (hk : k = if x ∈ words then 2 else 1) (hv : V k x = (ty, b, 0)) (h : Rd words V r T) : Rd words V (x ++ r) ((k, x, ty, b) :: T) := by
  obtain ⟨c, r', rfl, hc⟩ := hx
  obtain ⟨f1, f2, f3, _⟩ := ltr_f hc
  have hrun := run_stop nmB (c :: r') r ha hr
  refine Rd.step (by simp) (by rw [List.cons_append]; exact gap0 f1 f2) ?_ hv h
  rw [List.cons_append] at hrun ⊢
  rw [kind_cons, if_neg (by simp [f3]), if_pos hc, hrun, hk]
  congr 2
  rw [← List.cons_append, List.take_left]
theorem Rd.mark {a : UInt8} {r : By} {T : List Co} (h1 : Lx.one a = true) (h2 : ∀ b, r[0]? = some b → Lx.two a b = false) (h3 : gap (a :: r) = 0) (hv : V 5 [a] = (0, 0, 0)) (h : Rd words V r T) : Rd words V (a :: r) ((5, [a], 0, 0) :: T) := by
  have e : kindLen words (a :: r) = (5, 1) := by
    have hd : dgt a = false ∧ ltr a = false := by
      simp only [Lx.one, Bool.or_eq_true, beq_iff_eq] at h1
      rcases h1 with (((((((((((((((h | h) | h) | h) | h) | h) | h) | h) | h) | h) | h) | h) | h) | h) | h) | h) | h <;> (subst h; decide)
    rw [kind_cons, if_neg (by simp [hd.1]), if_neg (by simp [hd.2])]
    cases r with
    | nil => simp [mkLen, h1]
    | cons b r => rw [mkLen, if_neg (by simp [h2 b (by simp)]), if_pos h1]
  exact Rd.step (x := [a]) (r := r) (by simp) h3 e hv h
end
end Pz
end Go.Proofs.YteijjaabngkbjaaGreatDoor
namespace Go.Proofs.YteijjaabngkbjaaGreatDoor
set_option linter.unusedSimpArgs false
set_option linter.unusedVariables false
namespace Pz
open Lx Te
structure LawT (rn : Bs → Int) (cn : Int → Int) (tx : Int → Int → Bs) (words : List By) (V : Nat → By → Int × Int × Int) : Prop where
  nm : ∀ x, rn x = 0 → (∃ c r, x = c :: r ∧ ltr c = true) ∧ (∀ c ∈ x, nmB c = true) ∧ x ∉ words ∧ V 1 x = (0, 0, 0)
  wd : ∀ x, V 2 x = (0, 0, 0)
  mrk : ∀ x, V 5 x = (0, 0, 0)
  int : ∀ vb, 0 ≤ vb → vb < 9223372036854775808 → tx 1 vb ≠ [] ∧ (∀ c ∈ tx 1 vb, dgt c = true) ∧ V 3 (tx 1 vb) = (1, vb, 0)
  flo : ∀ vb, 0 ≤ vb → litOk cn 2 vb = true → vb ≠ 9218868437227405312 → vb ≠ 9221120237041090561 → ∃ z, tx 2 vb = 48 :: 120 :: z ∧ (∀ c ∈ z, hxB c = true) ∧ V 4 (tx 2 vb) = (2, vb, 0)
  inf : tx 2 9218868437227405312 = [105, 110, 102]
  nan : tx 2 9221120237041090561 = [110, 97, 110]
  fal : tx 3 0 = [102, 97, 108, 115, 101]
  tru : tx 3 1 = [116, 114, 117, 101]
  wi : [105, 110, 102] ∈ words
  wn : [110, 97, 110] ∈ words
  wf : [102, 97, 108, 115, 101] ∈ words
  wt : [116, 114, 117, 101] ∈ words
  wI : [105, 110, 116] ∈ words
  wF : [102, 108, 111, 97, 116] ∈ words
  wp : [105, 110, 112, 117, 116] ∈ words
section
variable {rn : Bs → Int} {cn : Int → Int} {tx : Int → Int → Bs} {words : List By} {V : Nat → By → Int × Int × Int} (L : LawT rn cn tx words V)
include L
def Gd (words : List By) (V : Nat → By → Int × Int × Int) (u : By) (T : List Co) : Prop := Rd words V u T ∧ u[0]? ≠ some 61
omit L in
theorem Gd.blank {u : By} {T : List Co} (h : Rd words V u T) : Gd words V (32 :: u) T := ⟨h.blank (by decide), by simp⟩
end
end Pz
end Go.Proofs.YteijjaabngkbjaaGreatDoor
namespace Go.Proofs.YteijjaabngkbjaaGreatDoor
set_option linter.unusedSimpArgs false
set_option linter.unusedVariables false
namespace Pz
open Lx Te
def kws : List Bs := [[108, 101, 116], [105, 102], [101, 108, 115, 101], [119, 104, 105, 108, 101], [114, 101, 116, 117, 114, 110], [115, 104, 111, 119], [102, 97, 105, 108], [116, 114, 121], [99, 97, 116, 99, 104], [99, 111, 110, 115, 116], [118, 97, 114], [102, 110], [101, 120, 112, 111, 114, 116], [105, 109, 112, 111, 114, 116], [109, 111, 100, 117, 108, 101], [105, 110, 116], [102, 108, 111, 97, 116], [98, 111, 111, 108]]
section
variable {rn : Bs → Int} {cn : Int → Int} {tx : Int → Int → Bs} {words : List By} {V : Nat → By → Int × Int × Int} (L : LawT rn cn tx words V) (hw : ∀ x ∈ kws, x ∈ words)
include L
include hw
end
end Pz
end Go.Proofs.YteijjaabngkbjaaGreatDoor
namespace Go.Proofs.YteijjaabngkbjaaGreatDoor
set_option linter.unusedSimpArgs false
set_option linter.unusedVariables false
namespace Pz
open Lx Te
def Nz {α : Type} : Ou α → Prop
  | some (.er p c) => c ≠ 0
  | _ => True
theorem Nz.ok {α : Type} {a : α} {ts : List Tok} : Nz (some (.ok a ts)) := trivial
theorem Nz.no {α : Type} : Nz (none : Ou α) := trivial
theorem Nz.bd {α β : Type} {m : Ou α} {k : α → List Tok → Ou β} (h : Nz m) (hk : ∀ a ts, Nz (k a ts)) : Nz (bd m k) := by
  rcases m with _ | ⟨a, ts⟩ | ⟨p, c⟩
  · trivial
  · exact hk a ts
  · exact h
theorem Nz.ite {α : Type} {c : Prop} [Decidable c] {a b : Ou α} (h1 : Nz a) (h2 : Nz b) : Nz (if c then a else b) := by
  split
  · exact h1
  · exact h2
theorem Nz.e3 {α : Type} {p : Nat} : Nz (some (.er p 3) : Ou α) := show (3 : Int) ≠ 0 by decide
theorem Nz.e11 {α : Type} {p : Nat} : Nz (some (.er p 11) : Ou α) := show (11 : Int) ≠ 0 by decide
theorem Nz.e13 {α : Type} {p : Nat} : Nz (some (.er p 13) : Ou α) := show (13 : Int) ≠ 0 by decide
theorem must_nz (s : Bs) (fl : Bool) (ts : List Tok) : Nz (must s fl ts) := by
  cases ts with
  | nil => trivial
  | cons t r => exact Nz.ite (Nz.ite Nz.e3 Nz.ok) Nz.e11
theorem has_nz (s : Bs) (fl : Bool) (ts : List Tok) : Nz (has s fl ts) := by
  cases ts with
  | nil => trivial
  | cons t r => exact Nz.ite (Nz.ite Nz.e3 Nz.ok) Nz.ok
theorem name_nz (fl : Bool) (ts : List Tok) : Nz (name fl ts) := by
  cases ts with
  | nil => trivial
  | cons t r => exact Nz.ite (Nz.ite Nz.e3 Nz.ok) Nz.e11
theorem opn_nz (s : Bs) (fl : Bool) (d : Nat) (ts : List Tok) : Nz (opn s fl d ts) := by
  cases ts with
  | nil => trivial
  | cons t r => exact Nz.ite (Nz.ite Nz.e13 (Nz.ite Nz.e3 Nz.ok)) Nz.e11
theorem refr_nz (fl : Bool) (ts : List Tok) : Nz (refr fl ts) :=
  (name_nz fl ts).bd fun n ts => (has_nz _ _ _).bd fun b ts => Nz.ite ((name_nz _ _).bd fun m ts => Nz.ok) Nz.ok
section
variable {E : Bool → Nat → List Tok → Ou Ex} (hE : ∀ fl d ts, Nz (E fl d ts))
include hE
theorem ins_nz (fl : Bool) (d : Nat) (ts : List Tok) : Nz (ins E fl d ts) :=
  (opn_nz _ _ _ _).bd fun _ ts => (hE _ _ _).bd fun e ts => (must_nz _ _ _).bd fun _ ts => Nz.ok
theorem rwE_nz (d : Nat) : ∀ (g : Nat) (acc : Exs) (ts : List Tok), Nz (rwE E d g acc ts) := by
  intro g
  induction g with
  | zero => intro acc ts; trivial
  | succ g ih =>
    intro acc ts
    cases ts with
    | nil => trivial
    | cons t r => exact Nz.ite ((hE _ d r).bd fun e ts => ih _ ts) Nz.ok
theorem args_nz (g d : Nat) (ts : List Tok) : Nz (args E g d ts) := by
  unfold args
  split
  · exact Nz.ite Nz.ok ((opn_nz _ _ _ _).bd fun _ ts => (hE _ _ _).bd fun e ts => (rwE_nz hE _ g _ _).bd fun l ts => (must_nz _ _ _).bd fun _ ts => Nz.ok)
  · exact Nz.ite Nz.no Nz.e11
  · trivial
theorem call_nz (g d : Nat) (e : Ex) (ts : List Tok) : Nz (call E g d e ts) := (args_nz hE g d ts).bd fun l ts => Nz.ok
theorem pr_nz (g : Nat) (fl : Bool) (d : Nat) (ts : List Tok) : Nz (pr E g fl d ts) := by
  unfold pr
  split
  · trivial
  refine Nz.ite (Nz.ite Nz.e3 Nz.ok) (Nz.ite ?_ (Nz.ite (Nz.ite Nz.e3 Nz.ok) (Nz.ite (Nz.ite Nz.e3 Nz.ok) (Nz.ite (Nz.ite Nz.e3 Nz.ok) (Nz.ite (Nz.ite Nz.e3 Nz.ok) (Nz.ite (Nz.ite Nz.e3 Nz.ok) (Nz.ite (Nz.ite Nz.e3 ((ins_nz hE _ _ _).bd fun e ts => Nz.ok)) (Nz.ite (Nz.ite Nz.e3 ((ins_nz hE _ _ _).bd fun e ts => Nz.ok)) (ins_nz hE _ _ _)))))))))
  refine (refr_nz fl _).bd fun e ts => ?_
  cases ts with
  | nil => trivial
  | cons u r' => exact Nz.ite (call_nz hE g d e _) Nz.ok
theorem un_nz (g : Nat) : ∀ (f : Nat) (fl : Bool) (d : Nat) (ts : List Tok), Nz (un E g f fl d ts) := by
  intro f
  induction f with
  | zero => intro fl d ts; trivial
  | succ f ih =>
    intro fl d ts
    cases ts with
    | nil => trivial
    | cons t r => exact Nz.ite ((opn_nz _ _ _ _).bd fun _ ts => (ih _ _ ts).bd fun e ts => Nz.ok) (Nz.ite ((opn_nz _ _ _ _).bd fun _ ts => (ih _ _ ts).bd fun e ts => Nz.ok) (pr_nz hE g fl d _))
end
theorem lp_nz {N : List Tok → Ou Ex} (lv : Nat) (hN : ∀ ts, Nz (N ts)) : ∀ (f : Nat) (e : Ex) (ts : List Tok), Nz (lp N lv f e ts) := by
  intro f
  induction f with
  | zero => intro e ts; trivial
  | succ f ih =>
    intro e ts
    cases ts with
    | nil => trivial
    | cons t r => exact Nz.ite Nz.ok ((hN r).bd fun e2 ts => Nz.ite Nz.ok (ih _ ts))
theorem two_nz {E : Bool → Nat → List Tok → Ou Ex} (hE : ∀ fl d ts, Nz (E fl d ts)) (g : Nat) : ∀ (n : Nat) (fl : Bool) (d : Nat) (ts : List Tok), Nz (two E g n fl d ts) := by
  intro n
  induction n with
  | zero => intro fl d ts; exact un_nz hE g g fl d ts
  | succ n ih => intro fl d ts; exact (ih fl d ts).bd fun e ts => lp_nz _ (fun ts => ih false d ts) g e ts
theorem expr_nz : ∀ (f : Nat) (fl : Bool) (d : Nat) (ts : List Tok), Nz (expr f fl d ts)
  | 0, _, _, _ => trivial
  | f + 1, fl, d, ts => two_nz (expr_nz f) (f + 1) 5 fl d ts
section
variable {E : Nat → List Tok → Ou Ex} {C : Nat → Ex → List Tok → Ou Ex} {B : Nat → List Tok → Ou Sts} (hE : ∀ d ts, Nz (E d ts)) (hC : ∀ d e ts, Nz (C d e ts)) (hB : ∀ d ts, Nz (B d ts))
include hE in
theorem lone_nz (d : Nat) (ts : List Tok) : Nz (lone E d ts) := (hE d ts).bd fun e ts => Nz.ok
theorem ended_nz (kind : Int) (n : Bs) (e : Exs) (ts : List Tok) : Nz (ended kind n e ts) := (must_nz _ _ _).bd fun _ ts => Nz.ok
include hE in
theorem asg_nz (d : Nat) (kind : Int) (n : Bs) (ts : List Tok) : Nz (asg E d kind n ts) := (must_nz _ _ _).bd fun _ ts => (lone_nz hE d ts).bd fun e ts => ended_nz kind n e ts
include hE hC in
theorem named_nz (d : Nat) (ts : List Tok) : Nz (named E C d ts) := by
  unfold named
  refine (refr_nz false ts).bd fun e ts => ?_
  cases ts with
  | nil => trivial
  | cons u r => exact Nz.ite (asg_nz hE d 2 _ _) ((hC d e _).bd fun c ts => ended_nz 9 [] _ ts)
include hE hB in
theorem branch_nz (d : Nat) (ts : List Tok) : Nz (branch E B d ts) :=
  (lone_nz hE d ts).bd fun e ts => (hB d ts).bd fun b ts => (has_nz _ _ _).bd fun y ts => Nz.ite ((hB d ts).bd fun l ts => Nz.ok) Nz.ok
include hE hC hB in
theorem stm_nz (d : Nat) (ts : List Tok) : Nz (stm E C B d ts) := by
  unfold stm
  split
  · trivial
  refine Nz.ite (named_nz hE hC d _) (Nz.ite ((name_nz false _).bd fun n ts => asg_nz hE d 1 n ts) (Nz.ite (branch_nz hE hB d _) (Nz.ite ((lone_nz hE d _).bd fun e ts => (hB d ts).bd fun b ts => Nz.ok) (Nz.ite ?_
    (Nz.ite ((lone_nz hE d _).bd fun e ts => ended_nz 6 [] e ts) (Nz.ite ((lone_nz hE d _).bd fun e ts => ended_nz 7 [] e ts) (Nz.ite ((hB d _).bd fun b ts => (must_nz _ _ _).bd fun _ ts => (name_nz _ _).bd fun n ts => (hB d ts).bd fun l ts => Nz.ok) Nz.e11)))))))
  unfold returned
  split
  · trivial
  · exact Nz.ite (ended_nz 5 [] _ _) ((lone_nz hE d _).bd fun e ts => ended_nz 5 [] e ts)
end
theorem sts_nz {S : List Tok → Ou St} (hS : ∀ ts, Nz (S ts)) : ∀ (g : Nat) (acc : Sts) (ts : List Tok), Nz (sts S g acc ts) := by
  intro g
  induction g with
  | zero => intro acc ts; trivial
  | succ g ih =>
    intro acc ts
    cases ts with
    | nil => trivial
    | cons t r => exact Nz.ite Nz.ok ((hS _).bd fun s ts => ih _ ts)
theorem blk_nz {E : Nat → List Tok → Ou Ex} {C : Nat → Ex → List Tok → Ou Ex} (hE : ∀ d ts, Nz (E d ts)) (hC : ∀ d e ts, Nz (C d e ts)) (g : Nat) : ∀ f d ts, Nz (blk E C g f d ts) := by
  intro f
  induction f with
  | zero => intro d ts; trivial
  | succ f ih => intro d ts; exact (opn_nz _ _ _ _).bd fun _ ts => (sts_nz (fun ts => stm_nz hE hC ih (d + 1) ts) g .nil ts).bd fun l ts => (must_nz _ _ _).bd fun _ ts => Nz.ok
theorem typ_nz (ts : List Tok) : Nz (typ ts) := by
  unfold typ
  split
  · trivial
  · exact Nz.ite Nz.ok (Nz.ite Nz.ok (Nz.ite Nz.ok Nz.e11))
theorem par1_nz (fl : Bool) (ts : List Tok) : Nz (par1 fl ts) := (name_nz fl ts).bd fun n ts => (must_nz _ _ _).bd fun _ ts => (typ_nz _).bd fun t ts => Nz.ok
theorem rwP_nz : ∀ (g : Nat) (acc : List Pa) (ts : List Tok), Nz (rwP g acc ts) := by
  intro g
  induction g with
  | zero => intro acc ts; trivial
  | succ g ih =>
    intro acc ts
    cases ts with
    | nil => trivial
    | cons t r => exact Nz.ite ((par1_nz _ r).bd fun p ts => ih _ ts) Nz.ok
section
variable {E : Nat → List Tok → Ou Ex} {B : Nat → List Tok → Ou Sts} (hE : ∀ d ts, Nz (E d ts)) (hB : ∀ d ts, Nz (B d ts)) (g : Nat)
include hE in
theorem holder_nz (kind : Int) (ex : Bool) (ts : List Tok) : Nz (holder E kind ex ts) :=
  (name_nz false ts).bd fun n ts => (must_nz _ _ _).bd fun _ ts => (typ_nz _).bd fun t ts => (must_nz _ _ _).bd fun _ ts => (lone_nz hE 0 _).bd fun e ts => (must_nz _ _ _).bd fun _ ts => Nz.ok
theorem params_nz (ts : List Tok) : Nz (params g ts) := by
  unfold params
  split
  · trivial
  · exact Nz.ite Nz.ok ((par1_nz false _).bd fun p ts => rwP_nz g [p] ts)
theorem result_nz (ts : List Tok) : Nz (result ts) := (has_nz _ _ _).bd fun y ts => Nz.ite (typ_nz _) Nz.ok
include hB in
theorem fnc_nz (ex : Bool) (ts : List Tok) : Nz (fnc B g ex ts) :=
  (name_nz false ts).bd fun n ts => (must_nz _ _ _).bd fun _ ts => (params_nz g _).bd fun ps ts => (must_nz _ _ _).bd fun _ ts => (result_nz _).bd fun t ts => (hB 0 _).bd fun b ts => Nz.ok
include hE hB in
theorem dcl2_nz (ex fl : Bool) (ts : List Tok) : Nz (dcl2 E B g ex fl ts) := by
  unfold dcl2
  split
  · trivial
  · exact Nz.ite (Nz.ite Nz.e3 (holder_nz hE 1 ex _)) (Nz.ite (Nz.ite Nz.e3 (holder_nz hE 2 ex _)) (Nz.ite (Nz.ite Nz.e3 (fnc_nz hB g ex _)) Nz.e11))
include hE hB in
theorem dcl_nz (fl : Bool) (ts : List Tok) : Nz (dcl E B g fl ts) := by
  unfold dcl
  split
  · trivial
  · exact Nz.ite (Nz.ite Nz.e3 (dcl2_nz hE hB g true false _)) (dcl2_nz hE hB g false fl _)
include hE hB in
theorem dcls_nz : ∀ (f : Nat) (acc : List De) (ts : List Tok), Nz (dcls E B g f acc ts) := by
  intro f
  induction f with
  | zero => intro acc ts; trivial
  | succ f ih =>
    intro acc ts
    match ts with
    | [] => trivial
    | [t] => exact Nz.ok
    | t :: u :: r => exact (dcl_nz hE hB g _ _).bd fun d ts => ih _ ts
end
theorem imps_nz : ∀ (f : Nat) (acc : List Bs) (ts : List Tok), Nz (imps f acc ts) := by
  intro f
  induction f with
  | zero => intro acc ts; trivial
  | succ f ih =>
    intro acc ts
    cases ts with
    | nil => trivial
    | cons t r => exact Nz.ite ((show Nz (imp1 _ _) from (must_nz _ _ _).bd fun _ ts => (name_nz false _).bd fun n ts => (must_nz _ _ _).bd fun _ ts => Nz.ok).bd fun p ts => ih _ ts) Nz.ok
theorem parT_nz (ts : List Tok) (n : Nat) (r : Option Mo) (p : Nat) (c : Int) (h : parT ts n = some (r, p, c)) : (c = 0 ∧ p = 0 ∧ ∃ m, r = some m) ∨ (c ≠ 0 ∧ r = none) := by
  have hE := expr_nz (ts.length + 2)
  have hE0 : ∀ d ts', Nz (E0 (ts.length + 2) d ts') := fun d ts' => hE false d ts'
  have hC0 : ∀ d e ts', Nz (C0 (ts.length + 2) d e ts') := fun d e ts' => call_nz hE _ d e ts'
  have hB0 : ∀ d ts', Nz (B0 (ts.length + 2) d ts') := fun d ts' => blk_nz hE0 hC0 _ _ d ts'
  have hm : Nz (mdl (ts.length + 2) (ts ++ [endT n])) :=
    (must_nz _ _ _).bd fun _ ts1 => (name_nz false _).bd fun x ts2 => (must_nz _ _ _).bd fun _ ts3 => (imps_nz _ [] _).bd fun is ts4 => (dcls_nz hE0 hB0 _ _ [] _).bd fun ds ts5 => Nz.ok
  unfold parT whole at h
  split at h
  · cases h
  · rename_i p' c' heq
    rw [heq] at hm
    simp only [Option.some.injEq, Prod.mk.injEq] at h
    exact Or.inr ⟨h.2.2 ▸ hm, h.1.symm⟩
  · simp only [Option.some.injEq, Prod.mk.injEq] at h
    exact Or.inl ⟨h.2.2.symm, h.2.1.symm, _, h.1.symm⟩
  · simp only [Option.some.injEq, Prod.mk.injEq] at h
    exact Or.inr ⟨by rw [← h.2.2]; decide, h.1.symm⟩
  · cases h
end Pz
end Go.Proofs.YteijjaabngkbjaaGreatDoor
namespace Go.Proofs.YteijjaabngkbjaaGreatDoor
open Go.RowKit Te
set_option linter.unusedSimpArgs false
set_option linter.unusedVariables false
theorem Bld.keepN {B b : Nat} {bs : List UInt8} {w w' : World} (h : Bld B b bs w) (hf : Fr (fun _ => False) w w') : Bld B b bs w' := by
  have key : ∀ {p : Value}, Bat B b p bs w → Bat B b p bs w' := by
    rintro p ⟨h1, v, hb, ho, hn⟩
    refine ⟨h1, v, hf.heap hb (fun f => f), ?_, hn⟩
    obtain ⟨g1, g2⟩ := ho
    refine ⟨g1, ?_⟩
    rcases g2 with h0 | ⟨g, cap, cur, rfl, hb', hg, hr⟩
    · exact Or.inl h0
    · exact Or.inr ⟨g, cap, cur, rfl, hb', hf.heap hg (fun f => f), hr⟩
  rcases h with h | h
  · exact Or.inl (key h)
  · exact Or.inr (key h)
structure Wr (w0 : World) (B b : Nat) (acc : Bs) (w : World) : Prop where
  fr : Fr (fun _ => False) w0 w
  low : w0.heap.size ≤ B
  size : B ≤ w.heap.size
  bld : Bld B b acc w
theorem Wr.next {w0 w w' : World} {B b : Nat} {acc acc' : Bs} (h : Wr w0 B b acc w) (g : Fr (BS B b w) w w') (hb : Bat B b (.pointer (some ⟨b, 0, none⟩)) acc' w') : Wr w0 B b acc' w' :=
  ⟨bs_over h.fr g h.low h.bld.low, h.low, Nat.le_trans h.size g.size, Or.inr hb⟩
end Go.Proofs.YteijjaabngkbjaaGreatDoor
namespace Go.Proofs.YteijjaabngkbjaaGreatDoor
open Go.RowKit Te
set_option linter.unusedSimpArgs false
set_option linter.unusedVariables false
end Go.Proofs.YteijjaabngkbjaaGreatDoor
namespace Go.Proofs.YteijjaabngkbjaaGreatDoor
open Go.RowKit Te
set_option linter.unusedSimpArgs false
set_option linter.unusedVariables false
end Go.Proofs.YteijjaabngkbjaaGreatDoor
namespace Go.Proofs.YteijjaabngkbjaaGreatDoor
open Go.RowKit Te
set_option linter.unusedSimpArgs false
set_option linter.unusedVariables false
end Go.Proofs.YteijjaabngkbjaaGreatDoor
namespace Go.Proofs.YteijjaabngkbjaaGreatDoor.P
open Go.RowKit Te
set_option linter.unusedSimpArgs false
set_option linter.unusedVariables false
abbrev Bat (B b : Nat) (p : Value) (bs : Bs) (w : World) : Prop := Lib.BuilderAt 80 5 B b p (Lib.byteCells bs) w
abbrev Bld (B b : Nat) (bs : Bs) (w : World) : Prop := Lib.IsBuilder 80 5 B b (Lib.byteCells bs) w
end Go.Proofs.YteijjaabngkbjaaGreatDoor.P
namespace Go.Proofs.YteijjaabngkbjaaGreatDoor
open Go.RowKit Te
set_option linter.unusedSimpArgs false
set_option linter.unusedVariables false
theorem P.bat_low {B b : Nat} {bs : Bs} {w : World} (h : P.Bld B b bs w) : B ≤ b := by
  rcases h with h | h
  · exact h.1
  · exact h.1
structure PW (w0 : World) (B b : Nat) (acc : Bs) (w : World) : Prop where
  fr : Fr (fun _ => False) w0 w
  low : w0.heap.size ≤ B
  size : B ≤ w.heap.size
  bld : P.Bld B b acc w
theorem PW.next {w0 w w' : World} {B b : Nat} {acc acc' : Bs} (h : PW w0 B b acc w) (g : Fr (BS B b w) w w') (hb : P.Bat B b (.pointer (some ⟨b, 0, none⟩)) acc' w') : PW w0 B b acc' w' :=
  ⟨bs_over h.fr g h.low (P.bat_low h.bld), h.low, Nat.le_trans h.size g.size, Or.inr hb⟩
def Prn (w : World) (q : Nat) (l : List Bs) : Prop := w.heap[q]? = some (.cells (l.map ct).toArray 9 (0, 0))
theorem Prn.cell {w : World} {q : Nat} {l : List Bs} (h : Prn w q l) {i : Nat} {x : Bs} (hi : l[i]? = some x) : w.cell? ⟨q, i, none⟩ = some (ct x) := by
  rw [cell_of_row w q i _ 9 (0, 0) h]
  simp [hi]
end Go.Proofs.YteijjaabngkbjaaGreatDoor
namespace Go.Proofs.YteijjaabngkbjaaGreatDoor
open Go.RowKit Te
set_option linter.unusedSimpArgs false
set_option linter.unusedVariables false
end Go.Proofs.YteijjaabngkbjaaGreatDoor
namespace Go.Proofs.YteijjaabngkbjaaGreatDoor
open Go.RowKit Te
set_option linter.unusedSimpArgs false
set_option linter.unusedVariables false
end Go.Proofs.YteijjaabngkbjaaGreatDoor
namespace Go.Proofs.YteijjaabngkbjaaGreatDoor
open Go.RowKit Lx Te
set_option linter.unusedSimpArgs false
set_option linter.unusedVariables false
theorem par_parts (l : By) : (∃ m ts, Pz.parS l = some (some m, 0, 0) ∧ lexS wordsL valS l = (ts, 0, 0) ∧ Pz.parT ts l.length = some (some m, 0, 0) ∧ ts.length ≤ 1024 ∧ l.length ≤ 4096) ∨ ∃ p c, Pz.parS l = some (none, p, c) ∧ c ≠ 0 := by
  obtain ⟨⟨r, p, c⟩, h⟩ := Pz.parS_some l
  have h' := h
  unfold Pz.parS at h
  rcases Pz.lex_parts l with ⟨h1, h2, h3, h4⟩ | ⟨h1, h2⟩
  · rw [if_pos h1] at h
    rcases Pz.parT_nz _ _ _ _ _ h with ⟨rfl, rfl, m, rfl⟩ | ⟨hc, rfl⟩
    · exact Or.inl ⟨m, _, h', h2, h, h3, h4⟩
    · exact Or.inr ⟨p, c, h', hc⟩
  · rw [if_neg h1] at h
    simp only [Option.some.injEq, Prod.mk.injEq] at h
    obtain ⟨rfl, rfl, rfl⟩ := h
    exact Or.inr ⟨_, _, h', h1⟩
end Go.Proofs.YteijjaabngkbjaaGreatDoor
namespace Go.Proofs.YteijjaabngkbjaaGreatDoor
set_option linter.unusedSimpArgs false
set_option linter.unusedVariables false
namespace Pz
open Lx Te
open Go.RowKit (wrap64)
def Rg {α : Type} (A : Tok → Prop) (P : α → Prop) : Ou α → Prop
  | some (.ok a ts) => P a ∧ ∀ t ∈ ts, A t
  | _ => True
theorem Rg.er {α : Type} {A : Tok → Prop} {P : α → Prop} (p : Nat) (c : Int) : Rg A P (some (.er p c)) := trivial
theorem Rg.no {α : Type} {A : Tok → Prop} {P : α → Prop} : Rg A P none := trivial
theorem Rg.ok {α : Type} {A : Tok → Prop} {P : α → Prop} {a : α} {ts : List Tok} (h : P a) (ht : ∀ t ∈ ts, A t) : Rg A P (some (.ok a ts)) := ⟨h, ht⟩
theorem Rg.bd {α β : Type} {A : Tok → Prop} {P : α → Prop} {Q : β → Prop} {m : Ou α} {k : α → List Tok → Ou β} (h : Rg A P m) (hk : ∀ a ts, P a → (∀ t ∈ ts, A t) → Rg A Q (k a ts)) : Rg A Q (bd m k) := by
  rcases m with _ | ⟨a, ts⟩ | ⟨p, c⟩
  · trivial
  · exact hk a ts h.1 h.2
  · trivial
theorem Rg.mono {α : Type} {A : Tok → Prop} {P Q : α → Prop} {m : Ou α} (h : Rg A P m) (hk : ∀ a, P a → Q a) : Rg A Q m := by
  rcases m with _ | ⟨a, ts⟩ | ⟨p, c⟩
  · trivial
  · exact ⟨hk a h.1, h.2⟩
  · trivial
theorem Rg.ite {α : Type} {A : Tok → Prop} {P : α → Prop} {c : Prop} [Decidable c] {a b : Ou α} (h1 : c → Rg A P a) (h2 : ¬ c → Rg A P b) : Rg A P (if c then a else b) := by
  split
  · exact h1 ‹_›
  · exact h2 ‹_›
theorem tl {A : Tok → Prop} {t : Tok} {r : List Tok} (h : ∀ x ∈ t :: r, A x) : A t ∧ ∀ x ∈ r, A x := ⟨h t (by simp), fun x hx => h x (by simp [hx])⟩
section
variable (rn : Bs → Int) (cn : Int → Int)
def TokR (t : Tok) : Prop := (t.k = 1 → rn t.x = 0) ∧ (t.k = 3 ∨ t.k = 4 → litOk cn t.ty t.b = true ∧ 0 ≤ t.b)
def QX (L : Int) (d : Nat) (e : Ex) : Prop := RX rn cn e.1 e.2 ∧ 0 ≤ e.1.vb ∧ NnX e.2 ∧ dX e.1 e.2 L (d : Int) ≤ 32
def AlX (d : Nat) : Exs → Prop
  | .nil => True
  | .cons h k r => QX rn cn 1 d (h, k) ∧ AlX d r
end
variable {rn : Bs → Int} {cn : Int → Int}
theorem must_rg (A : Tok → Prop) (s : Bs) (fl : Bool) (ts : List Tok) (h : ∀ t ∈ ts, A t) : Rg A (fun _ => fl = false) (must s fl ts) := by
  cases ts with
  | nil => trivial
  | cons t r =>
    unfold must
    refine Rg.ite (fun _ => Rg.ite (fun _ => trivial) (fun hf => Rg.ok (by simpa using hf) (tl h).2)) (fun _ => trivial)
theorem has_rg (A : Tok → Prop) (s : Bs) (fl : Bool) (ts : List Tok) (h : ∀ t ∈ ts, A t) : Rg A (fun _ => True) (has s fl ts) := by
  cases ts with
  | nil => trivial
  | cons t r =>
    unfold has
    refine Rg.ite (fun _ => Rg.ite (fun _ => trivial) (fun _ => Rg.ok trivial (tl h).2)) (fun _ => Rg.ok trivial h)
theorem name_rg (fl : Bool) (ts : List Tok) (h : ∀ t ∈ ts, TokR rn cn t) : Rg (TokR rn cn) (fun n => fl = false ∧ rn n = 0) (name fl ts) := by
  cases ts with
  | nil => trivial
  | cons t r =>
    unfold name
    refine Rg.ite (fun hk => Rg.ite (fun _ => trivial) (fun hf => Rg.ok ⟨by simpa using hf, (tl h).1.1 hk⟩ (tl h).2)) (fun _ => trivial)
theorem opn_rg (A : Tok → Prop) (s : Bs) (fl : Bool) (d : Nat) (ts : List Tok) (h : ∀ t ∈ ts, A t) : Rg A (fun _ => fl = false ∧ d ≠ 32) (opn s fl d ts) := by
  cases ts with
  | nil => trivial
  | cons t r =>
    unfold opn
    refine Rg.ite (fun hk => Rg.ite (fun _ => trivial) (fun hd => Rg.ite (fun _ => trivial) (fun hf => Rg.ok ⟨by simpa using hf, hd⟩ (tl h).2))) (fun _ => trivial)
theorem dX_less {h : EH} {k : Exs} {L L' : Int} {a : Nat} (ha : a ≤ 32) (hl : L' ≤ L) (H : dX h k L (a : Int) ≤ 32) : dX h k L' (a : Int) ≤ 32 := by
  unfold dX inAt at *
  by_cases h1 : level h < L'
  · rw [if_pos h1]
    rw [if_pos (by omega)] at H
    exact H
  · rw [if_neg h1]
    split at H
    · rw [wrap_sm (by omega) (by omega)] at H
      have hb := dK_acc h k true ((a : Int) + 1) ((a : Int) + 1)
      apply Classical.byContradiction
      intro hn
      exact absurd (Te.dK_deep k h true (a : Int) ((a : Int) + 1) (a : Int) ((a : Int) + 1) (by omega) (by omega) (by omega) (by omega) (by omega) (by omega)) (by omega)
    · exact H
theorem dX_ins {h : EH} {k : Exs} (L : Int) {a : Nat} (ha : a + 1 ≤ 32) (H : dX h k 1 ((a + 1 : Nat) : Int) ≤ 32) : dX h k L (a : Int) ≤ 32 := by
  have hl : ¬ level h < 1 := by
    have : 1 ≤ level h := by
      unfold level lv2
      repeat' split
      all_goals omega
    omega
  have H1 := dX_no H hl
  unfold dB at H1
  unfold dX inAt
  split
  · rw [wrap_sm (by omega) (by omega)]
    simpa using H1
  · apply Classical.byContradiction
    intro hn
    exact absurd (Te.dK_deep k h true (a : Int) ((a : Int) + 1) (a : Int) ((a : Int) + 1) (by omega) (by omega) (by omega) (by omega) (by omega) (by omega)) (by simpa using H1)
theorem dX_leaf {h : EH} {L : Int} {a : Nat} (ha : a ≤ 32) (hl : ¬ level h < L) : dX h .nil L (a : Int) ≤ 32 := by
  unfold dX inAt
  rw [if_neg hl, dK]
  omega
theorem dK_put {p h : EH} {k r : Exs} {first : Bool} {a : Nat} {acc : Int} (ha : a ≤ 32) (hp : (a : Int) + kidD p ≤ 32) (H : dX h k (kidL p first) ((a : Int) + kidD p) ≤ 32) (hacc : acc ≤ 32) (hr : ∀ acc', acc' ≤ 32 → dK p r false (a : Int) acc' ≤ 32) : dK p (.cons h k r) first (a : Int) acc ≤ 32 := by
  rw [dK]
  have hk := kidD_r p
  apply hr
  rw [wrap_sm (by omega) (by omega)]
  unfold dX at H
  omega
theorem alx_dep {p : EH} (hp : p.kind = 4 ∨ p.kind = 5) {d : Nat} (hd : d + 1 ≤ 32) : ∀ (k : Exs) (first : Bool) (acc : Int), AlX rn cn (d + 1) k → acc ≤ 32 → dK p k first (d : Int) acc ≤ 32
  | .nil, _, acc, _, h => h
  | .cons h k r, first, acc, hA, hacc => by
    have e1 : kidD p = 1 := by unfold kidD; rw [if_pos hp]
    have e2 : kidL p first = 1 := by
      unfold kidL
      rw [if_neg (by omega), if_neg (by omega)]
    refine dK_put (by omega) (by omega) ?_ hacc (fun acc' h' => alx_dep hp hd r false acc' hA.2 h')
    rw [e1, e2]
    have := hA.1.2.2.2
    simpa using this
theorem alx_err {d : Nat} : ∀ (k : Exs), AlX rn cn d k → errL rn cn k = 0 ∧ NnX k
  | .nil, _ => ⟨rfl, trivial⟩
  | .cons h k r, ⟨⟨h1, h2, h3, _⟩, h5⟩ => by
    obtain ⟨i1, i2⟩ := alx_err r h5
    refine ⟨?_, h2, h3, i2⟩
    rw [errL, h1.1, h1.2, i1]
    rfl
theorem alx_app {d : Nat} {e : Ex} (he : QX rn cn 1 d e) : ∀ (k : Exs), AlX rn cn d k → AlX rn cn d (k.app (.cons e.1 e.2 .nil))
  | .nil, _ => ⟨he, trivial⟩
  | .cons h k r, ⟨h1, h2⟩ => ⟨h1, alx_app he r h2⟩
theorem qx_lit {t b : Int} (h : litOk cn t b = true) (h0 : 0 ≤ b) {L : Int} (hL : L ≤ 7) {d : Nat} (hd : d ≤ 32) : QX rn cn L d (lit t b) := by
  refine ⟨⟨?_, rfl⟩, h0, trivial, dX_leaf hd (by simp [lit, level]; omega)⟩
  simp [lit, errH, fitsE, nameE, orE, h, Exs.len]
theorem qx_input {L : Int} (hL : L ≤ 7) {d : Nat} (hd : d ≤ 32) : QX rn cn L d (⟨8, 0, [], [], 0, 0⟩, .nil) := by
  refine ⟨⟨?_, rfl⟩, by decide, trivial, dX_leaf hd (by simp [level]; omega)⟩
  simp [errH, fitsE, nameE, orE, Exs.len]
theorem qx_one {op : Int} (ho : op = 1 ∨ op = 2) {e : Ex} {d : Nat} (hd : d + 1 ≤ 32) (he : QX rn cn 6 (d + 1) e) {L : Int} (hL : L ≤ 6) : QX rn cn L d (one op e) := by
  obtain ⟨h1, h2, h3, h4⟩ := he
  refine ⟨⟨?_, ?_⟩, by simp [one], ⟨h2, h3, trivial⟩, ?_⟩
  · rcases ho with rfl | rfl <;> simp [one, errH, fitsE, nameE, orE, Exs.len]
  · simp only [one, errL]; rw [h1.1, h1.2]; rfl
  · apply dX_of
    · unfold dB
      refine dK_put (by omega) ?_ ?_ (by omega) (fun acc' h' => by rw [dK]; exact h')
      · rcases ho with rfl | rfl <;> simp [one, kidD] <;> omega
      · have e1 : kidD (one op e).1 = 1 := by rcases ho with rfl | rfl <;> simp [one, kidD]
        have e2 : kidL (one op e).1 true = 6 := by rcases ho with rfl | rfl <;> simp [one, kidL]
        rw [e1, e2]
        simpa using h4
    · rcases ho with rfl | rfl <;> simp [one, level] <;> omega
theorem qx_conv {op : Int} (ho : op = 3 ∨ op = 4) {e : Ex} {d : Nat} (hd : d + 1 ≤ 32) (he : QX rn cn 1 (d + 1) e) {L : Int} (hL : L ≤ 7) : QX rn cn L d (one op e) := by
  obtain ⟨h1, h2, h3, h4⟩ := he
  refine ⟨⟨?_, ?_⟩, by simp [one], ⟨h2, h3, trivial⟩, ?_⟩
  · rcases ho with rfl | rfl <;> simp [one, errH, fitsE, nameE, orE, Exs.len]
  · simp only [one, errL]; rw [h1.1, h1.2]; rfl
  · apply dX_of
    · unfold dB
      refine dK_put (by omega) ?_ ?_ (by omega) (fun acc' h' => by rw [dK]; exact h')
      · rcases ho with rfl | rfl <;> simp [one, kidD] <;> omega
      · have e1 : kidD (one op e).1 = 1 := by rcases ho with rfl | rfl <;> simp [one, kidD]
        have e2 : kidL (one op e).1 true = 1 := by rcases ho with rfl | rfl <;> simp [one, kidL]
        rw [e1, e2]
        simpa using h4
    · rcases ho with rfl | rfl <;> simp [one, level] <;> omega
theorem qx_bin {op : Int} (h1 : 1 ≤ op) (h2 : op ≤ 13) {e e2 : Ex} {d : Nat} (hd : d ≤ 32) (he : QX rn cn (side (lv2 op) true) d e) (he2 : QX rn cn (lv2 op + 1) d e2) (h7 : lv2 op ≤ 5) : QX rn cn (lv2 op) d (bin op e e2) := by
  obtain ⟨a1, a2, a3, a4⟩ := he
  obtain ⟨b1, b2, b3, b4⟩ := he2
  refine ⟨⟨?_, ?_⟩, by simp [bin], ⟨a2, a3, b2, b3, trivial⟩, ?_⟩
  · simp [bin, errH, fitsE, nameE, orE, Exs.len, h1, h2]
  · simp only [bin, errL]; rw [a1.1, a1.2, b1.1, b1.2]; rfl
  · have e1 : kidD (bin op e e2).1 = 0 := by simp [bin, kidD]
    have e3 : kidL (bin op e e2).1 true = side (lv2 op) true := by simp [bin, kidL]
    have e4 : kidL (bin op e e2).1 false = lv2 op + 1 := by simp [bin, kidL, side]; omega
    apply dX_of
    · unfold dB
      refine dK_put (by omega) (by rw [e1]; omega) (by rw [e1, e3]; simpa using a4) (by omega) (fun acc' h' => ?_)
      exact dK_put (by omega) (by rw [e1]; omega) (by rw [e1, e4]; simpa using b4) h' (fun acc' h' => by rw [dK]; exact h')
    · simp [bin, level]
theorem qx_less {e : Ex} {L L' : Int} {d : Nat} (hd : d ≤ 32) (hl : L' ≤ L) (h : QX rn cn L d e) : QX rn cn L' d e := ⟨h.1, h.2.1, h.2.2.1, dX_less hd hl h.2.2.2⟩
theorem qx_ins {e : Ex} (L : Int) {d : Nat} (hd : d + 1 ≤ 32) (h : QX rn cn 1 (d + 1) e) : QX rn cn L d e := ⟨h.1, h.2.1, h.2.2.1, dX_ins L hd h.2.2.2⟩
def NmE (rn : Bs → Int) (e : Ex) : Prop := (∃ n, rn n = 0 ∧ e = (⟨2, 0, [], n, 0, 0⟩, .nil)) ∨ ∃ n m, rn n = 0 ∧ rn m = 0 ∧ e = (⟨3, 0, n, m, 0, 0⟩, .nil)
theorem refr_rg (fl : Bool) (ts : List Tok) (h : ∀ t ∈ ts, TokR rn cn t) : Rg (TokR rn cn) (fun e => fl = false ∧ NmE rn e) (refr fl ts) := by
  unfold refr
  refine (name_rg fl ts h).bd fun n ts hn h => (has_rg _ _ _ _ h).bd fun b ts _ h => Rg.ite (fun _ => ?_) (fun _ => Rg.ok ⟨hn.1, Or.inl ⟨n, hn.2, rfl⟩⟩ h)
  exact (name_rg false ts h).bd fun m ts hm h => Rg.ok ⟨hn.1, Or.inr ⟨n, m, hn.2, hm.2, rfl⟩⟩ h
theorem qx_nm {e : Ex} (h : NmE rn e) {L : Int} (hL : L ≤ 7) {d : Nat} (hd : d ≤ 32) : QX rn cn L d e := by
  rcases h with ⟨n, hn, rfl⟩ | ⟨n, m, hn, hm, rfl⟩
  · refine ⟨⟨?_, rfl⟩, Int.le_refl 0, trivial, dX_leaf hd (by simp [level]; omega)⟩
    simp [errH, fitsE, nameE, orE, Exs.len, hn]
  · refine ⟨⟨?_, rfl⟩, Int.le_refl 0, trivial, dX_leaf hd (by simp [level]; omega)⟩
    simp [errH, fitsE, nameE, orE, Exs.len, hn, hm]
section
variable {E : Bool → Nat → List Tok → Ou Ex}
def RE (rn : Bs → Int) (cn : Int → Int) (E : Bool → Nat → List Tok → Ou Ex) : Prop := ∀ fl d ts, d ≤ 32 → (∀ t ∈ ts, TokR rn cn t) → Rg (TokR rn cn) (fun e => fl = false ∧ QX rn cn 1 d e) (E fl d ts)
theorem ins_rg (hE : RE rn cn E) (fl : Bool) (d : Nat) (ts : List Tok) (hd : d ≤ 32) (h : ∀ t ∈ ts, TokR rn cn t) : Rg (TokR rn cn) (fun e => fl = false ∧ d + 1 ≤ 32 ∧ QX rn cn 1 (d + 1) e) (ins E fl d ts) := by
  unfold ins
  refine (opn_rg _ _ _ _ _ h).bd fun _ ts hd1 h => ?_
  have hd2 : d + 1 ≤ 32 := by omega
  exact (hE false (d + 1) ts hd2 h).bd fun e ts he h => (must_rg _ _ _ _ h).bd fun _ ts _ h => Rg.ok ⟨hd1.1, hd2, he.2⟩ h
theorem rwE_rg (hE : RE rn cn E) (d : Nat) (hd : d ≤ 32) : ∀ (g : Nat) (acc : Exs) (ts : List Tok), AlX rn cn d acc → acc.len ≤ 8 → (∀ t ∈ ts, TokR rn cn t) → Rg (TokR rn cn) (fun l => AlX rn cn d l ∧ l.len ≤ 8) (rwE E d g acc ts) := by
  intro g
  induction g with
  | zero => intro acc ts _ _ _; trivial
  | succ g ih =>
    intro acc ts ha hl h
    cases ts with
    | nil => trivial
    | cons t r =>
      unfold rwE
      refine Rg.ite (fun _ => ?_) (fun _ => Rg.ok ⟨ha, hl⟩ h)
      refine (hE _ d r hd (tl h).2).bd fun e ts he h => ih _ ts (alx_app he.2 acc ha) ?_ h
      have := he.1
      rw [beq_eq_false_iff_ne] at this
      rw [Exs.app_len]; simp only [Exs.len]; omega
theorem args_rg (hE : RE rn cn E) (g d : Nat) (ts : List Tok) (hd : d ≤ 32) (h : ∀ t ∈ ts, TokR rn cn t) : Rg (TokR rn cn) (fun l => l = .nil ∨ (d + 1 ≤ 32 ∧ AlX rn cn (d + 1) l ∧ l.len ≤ 8)) (args E g d ts) := by
  unfold args
  split
  · rename_i t u r
    refine Rg.ite (fun _ => Rg.ok (Or.inl rfl) (tl (tl h).2).2) (fun _ => ?_)
    refine (opn_rg _ _ _ _ _ h).bd fun _ ts hd1 h => ?_
    have hd2 : d + 1 ≤ 32 := by omega
    refine (hE false (d + 1) ts hd2 h).bd fun e ts he h => (rwE_rg hE (d + 1) hd2 g (.cons e.1 e.2 .nil) ts ⟨he.2, trivial⟩ (by simp [Exs.len]) h).bd fun l ts hl h => (must_rg _ _ _ _ h).bd fun _ ts _ h => Rg.ok (Or.inr ⟨hd2, hl⟩) h
  · exact Rg.ite (fun _ => trivial) (fun _ => trivial)
  · trivial
theorem call_rg (hE : RE rn cn E) (g d : Nat) (e : Ex) (he : NmE rn e) (ts : List Tok) (hd : d ≤ 32) (h : ∀ t ∈ ts, TokR rn cn t) : Rg (TokR rn cn) (fun c => (c.1.kind = 4 ∨ c.1.kind = 5) ∧ QX rn cn 7 d c) (call E g d e ts) := by
  unfold call
  refine (args_rg hE g d ts hd h).bd fun l ts hl h => Rg.ok ?_ h
  have hk : (callH e.1).kind = 4 ∨ (callH e.1).kind = 5 := by
    rcases he with ⟨n, _, rfl⟩ | ⟨n, m, _, _, rfl⟩ <;> simp [callH]
  have h0 : (callH e.1).vb = 0 := by rcases he with ⟨n, _, rfl⟩ | ⟨n, m, _, _, rfl⟩ <;> simp [callH]
  have hlen : l.len ≤ 8 := by
    rcases hl with rfl | hl
    · simp [Exs.len]
    · exact hl.2.2
  have hH : errH rn cn (callH e.1) l.len = 0 := by
    rcases he with ⟨n, hn, rfl⟩ | ⟨n, m, hn, hm, rfl⟩
    · simp [callH, errH, fitsE, nameE, orE, hn]; omega
    · simp [callH, errH, fitsE, nameE, orE, hn, hm]; omega
  have hlv : ¬ level (callH e.1) < 7 := by
    unfold level
    rw [if_neg (by omega), if_neg (by omega)]
    omega
  rcases hl with rfl | ⟨hd2, hA, _⟩
  · exact ⟨hk, ⟨hH, rfl⟩, by show 0 ≤ (callH e.1).vb; omega, trivial, dX_leaf hd hlv⟩
  · obtain ⟨i1, i2⟩ := alx_err l hA
    exact ⟨hk, ⟨hH, i1⟩, by show 0 ≤ (callH e.1).vb; omega, i2, dX_of (alx_dep hk hd2 l true d hA (by omega)) hlv⟩
theorem pr_rg (hc1 : cn 9218868437227405312 = 9218868437227405312) (hc2 : cn 9221120237041090561 = 9221120237041090561) (hE : RE rn cn E) (g : Nat) (fl : Bool) (d : Nat) (ts : List Tok) (hd : d ≤ 32) (h : ∀ t ∈ ts, TokR rn cn t) : Rg (TokR rn cn) (fun e => fl = false ∧ QX rn cn 6 d e) (pr E g fl d ts) := by
  unfold pr
  split
  · trivial
  rename_i t r
  obtain ⟨ht, hr⟩ := tl h
  have lf : ∀ {x : Ex} {c : Prop}, QX rn cn 6 d x → Rg (TokR rn cn) (fun e => fl = false ∧ QX rn cn 6 d e) (if fl then some (.er t.p 3) else some (.ok x r)) :=
    fun hx => Rg.ite (fun _ => trivial) (fun hf => Rg.ok ⟨by simpa using hf, hx⟩ hr)
  refine Rg.ite (fun hk => lf (c := True) (qx_lit (ht.2 hk).1 (ht.2 hk).2 (by omega) hd)) (fun _ => ?_)
  refine Rg.ite (fun hk => ?_) (fun _ => ?_)
  · refine (refr_rg fl _ h).bd fun e ts he h => ?_
    cases ts with
    | nil => trivial
    | cons u r' =>
      refine Rg.ite (fun _ => (call_rg hE g d e he.2 _ hd h).mono fun c hc => ⟨he.1, qx_less hd (by omega) hc.2⟩) (fun _ => Rg.ok ⟨he.1, qx_nm he.2 (by omega) hd⟩ h)
  refine Rg.ite (fun _ => lf (c := True) (qx_lit (by simp [litOk]) (by omega) (by omega) hd)) (fun _ => ?_)
  refine Rg.ite (fun _ => lf (c := True) (qx_lit (by simp [litOk]) (by omega) (by omega) hd)) (fun _ => ?_)
  refine Rg.ite (fun _ => lf (c := True) (qx_lit (by simp [litOk, hc1]) (by omega) (by omega) hd)) (fun _ => ?_)
  refine Rg.ite (fun _ => lf (c := True) (qx_lit (by simp [litOk, hc2]) (by omega) (by omega) hd)) (fun _ => ?_)
  refine Rg.ite (fun _ => lf (c := True) (qx_input (by omega) hd)) (fun _ => ?_)
  refine Rg.ite (fun _ => Rg.ite (fun _ => trivial) (fun hf => (ins_rg hE false d r hd hr).bd fun e ts he h => Rg.ok ⟨by simpa using hf, qx_conv (Or.inl rfl) he.2.1 he.2.2 (by omega)⟩ h)) (fun _ => ?_)
  refine Rg.ite (fun _ => Rg.ite (fun _ => trivial) (fun hf => (ins_rg hE false d r hd hr).bd fun e ts he h => Rg.ok ⟨by simpa using hf, qx_conv (Or.inr rfl) he.2.1 he.2.2 (by omega)⟩ h)) (fun _ => ?_)
  exact (ins_rg hE fl d _ hd h).mono fun e he => ⟨he.1, qx_ins 6 he.2.1 he.2.2⟩
theorem un_rg (hc1 : cn 9218868437227405312 = 9218868437227405312) (hc2 : cn 9221120237041090561 = 9221120237041090561) (hE : RE rn cn E) (g : Nat) : ∀ (f : Nat) (fl : Bool) (d : Nat) (ts : List Tok), d ≤ 32 → (∀ t ∈ ts, TokR rn cn t) → Rg (TokR rn cn) (fun e => fl = false ∧ QX rn cn 6 d e) (un E g f fl d ts) := by
  intro f
  induction f with
  | zero => intro fl d ts _ _; trivial
  | succ f ih =>
    intro fl d ts hd h
    cases ts with
    | nil => trivial
    | cons t r =>
      unfold un
      refine Rg.ite (fun _ => (opn_rg _ _ _ _ _ h).bd fun _ ts h1 h => (ih false (d + 1) ts (by omega) h).bd fun e ts he h => Rg.ok ⟨h1.1, qx_one (Or.inl rfl) (by omega) he.2 (by omega)⟩ h) (fun _ => ?_)
      exact Rg.ite (fun _ => (opn_rg _ _ _ _ _ h).bd fun _ ts h1 h => (ih false (d + 1) ts (by omega) h).bd fun e ts he h => Rg.ok ⟨h1.1, qx_one (Or.inr rfl) (by omega) he.2 (by omega)⟩ h) (fun _ => pr_rg hc1 hc2 hE g fl d _ hd h)
end
theorem opOf_lv (x : Bs) (h : (opOf x).2 ≠ 0) : 1 ≤ (opOf x).1 ∧ (opOf x).1 ≤ 13 ∧ lv2 (opOf x).1 = ((opOf x).2 : Int) ∧ (opOf x).2 ≤ 5 := by
  by_cases e0 : x = [124, 124]
  · subst e0; exact ⟨by decide, by decide, by decide, by decide⟩
  by_cases e1 : x = [38, 38]
  · subst e1; exact ⟨by decide, by decide, by decide, by decide⟩
  by_cases e2 : x = [61, 61]
  · subst e2; exact ⟨by decide, by decide, by decide, by decide⟩
  by_cases e3 : x = [33, 61]
  · subst e3; exact ⟨by decide, by decide, by decide, by decide⟩
  by_cases e4 : x = [60]
  · subst e4; exact ⟨by decide, by decide, by decide, by decide⟩
  by_cases e5 : x = [60, 61]
  · subst e5; exact ⟨by decide, by decide, by decide, by decide⟩
  by_cases e6 : x = [62]
  · subst e6; exact ⟨by decide, by decide, by decide, by decide⟩
  by_cases e7 : x = [62, 61]
  · subst e7; exact ⟨by decide, by decide, by decide, by decide⟩
  by_cases e8 : x = [43]
  · subst e8; exact ⟨by decide, by decide, by decide, by decide⟩
  by_cases e9 : x = [45]
  · subst e9; exact ⟨by decide, by decide, by decide, by decide⟩
  by_cases e10 : x = [42]
  · subst e10; exact ⟨by decide, by decide, by decide, by decide⟩
  by_cases e11 : x = [47]
  · subst e11; exact ⟨by decide, by decide, by decide, by decide⟩
  by_cases e12 : x = [37]
  · subst e12; exact ⟨by decide, by decide, by decide, by decide⟩
  exfalso
  apply h
  unfold opOf
  rw [if_neg e0, if_neg e1, if_neg e2, if_neg e3, if_neg e4, if_neg e5, if_neg e6, if_neg e7, if_neg e8, if_neg e9, if_neg e10, if_neg e11, if_neg e12]
theorem lp_rg {N : List Tok → Ou Ex} {lv d : Nat} (h1 : 1 ≤ lv) (h5 : lv ≤ 5) (hd : d ≤ 32) (hN : ∀ ts, (∀ t ∈ ts, TokR rn cn t) → Rg (TokR rn cn) (QX rn cn ((lv : Int) + 1) d) (N ts)) : ∀ (f : Nat) (e : Ex) (ts : List Tok), QX rn cn (side (lv : Int) true) d e → (∀ t ∈ ts, TokR rn cn t) → Rg (TokR rn cn) (QX rn cn (lv : Int) d) (lp N lv f e ts) := by
  intro f
  induction f with
  | zero => intro e ts _ _; trivial
  | succ f ih =>
    intro e ts he h
    cases ts with
    | nil => trivial
    | cons t r =>
      have hs : (lv : Int) ≤ side (lv : Int) true := by unfold side; split <;> (try split) <;> omega
      unfold lp
      refine Rg.ite (fun _ => Rg.ok (qx_less hd hs he) h) (fun hop => ?_)
      have hop : (opOf t.x).2 = lv := by simpa using hop
      obtain ⟨o1, o2, o3, o4⟩ := opOf_lv t.x (by omega)
      refine (hN r (tl h).2).bd fun e2 ts he2 h => ?_
      have hb : QX rn cn (lv : Int) d (bin (opOf t.x).1 e e2) := by
        have hl : lv2 (opOf t.x).1 = (lv : Int) := by rw [o3, hop]
        have := qx_bin (rn := rn) (cn := cn) o1 o2 hd (e := e) (e2 := e2) (by rw [hl]; exact he) (by rw [hl]; exact he2) (by omega)
        rw [hl] at this
        exact this
      refine Rg.ite (fun _ => Rg.ok hb h) (fun h3 => ih _ ts ?_ h)
      have : side (lv : Int) true = (lv : Int) := by unfold side; rw [if_neg (by omega), if_neg (by simp; omega)]
      rw [this]
      exact hb
theorem two_rg {E : Bool → Nat → List Tok → Ou Ex} (hc1 : cn 9218868437227405312 = 9218868437227405312) (hc2 : cn 9221120237041090561 = 9221120237041090561) (hE : RE rn cn E) (g : Nat) : ∀ (n : Nat), n ≤ 5 → ∀ (fl : Bool) (d : Nat) (ts : List Tok), d ≤ 32 → (∀ t ∈ ts, TokR rn cn t) → Rg (TokR rn cn) (fun e => fl = false ∧ QX rn cn (6 - (n : Int)) d e) (two E g n fl d ts) := by
  intro n
  induction n with
  | zero => intro _ fl d ts hd h; exact un_rg hc1 hc2 hE g g fl d ts hd h
  | succ n ih =>
    intro hn fl d ts hd h
    unfold two
    refine (ih (by omega) fl d ts hd h).bd fun e ts he h => ?_
    have e1 : ((5 - n : Nat) : Int) + 1 = 6 - (n : Int) := by omega
    have e2 : ((5 - n : Nat) : Int) = 6 - ((n + 1 : Nat) : Int) := by omega
    have hp := lp_rg (rn := rn) (cn := cn) (N := two E g n false d) (lv := 5 - n) (d := d) (by omega) (by omega) hd (fun ts h => (ih (by omega) false d ts hd h).mono fun e he => by rw [e1]; exact he.2) g e ts (qx_less hd (by unfold side; split <;> (try split) <;> omega) he.2) h
    exact hp.mono fun e2' he2 => ⟨he.1, by rw [← e2]; exact he2⟩
theorem expr_rg (hc1 : cn 9218868437227405312 = 9218868437227405312) (hc2 : cn 9221120237041090561 = 9221120237041090561) : ∀ (f : Nat), RE rn cn (expr f)
  | 0 => fun _ _ _ _ _ => trivial
  | f + 1 => fun fl d ts hd h => two_rg hc1 hc2 (expr_rg hc1 hc2 f) (f + 1) 5 (Nat.le_refl _) fl d ts hd h
end Pz
end Go.Proofs.YteijjaabngkbjaaGreatDoor
namespace Go.Proofs.YteijjaabngkbjaaGreatDoor
set_option linter.unusedSimpArgs false
set_option linter.unusedVariables false
namespace Pz
open Lx Te
open Go.RowKit (wrap64)
section
variable (rn : Bs → Int) (cn : Int → Int)
def QS (d : Nat) (s : Sts) : Prop := errS rn cn s = 0 ∧ NnS s ∧ ∀ a : Int, a ≤ 32 → dS s (d : Int) a ≤ 32
def QB (d : Nat) (s : Sts) : Prop := errS rn cn s = 0 ∧ NnS s ∧ dS s ((d : Int) + 1) ((d : Int) + 1) ≤ 32
def QL (d : Nat) (e : Exs) : Prop := e.len = 1 ∧ errL rn cn e = 0 ∧ NnX e ∧ dL e (d : Int) (d : Int) ≤ 32
def QT (d : Nat) (s : St) : Prop := QS rn cn d (.cons s.1 s.2.1 s.2.2.1 s.2.2.2 .nil)
end
variable {rn : Bs → Int} {cn : Int → Int}
theorem errS_app : ∀ (x y : Sts), errS rn cn x = 0 → errS rn cn y = 0 → errS rn cn (x.app y) = 0
  | .nil, y, _, h => h
  | .cons h e b l r, y, hx, hy => by
    rw [errS] at hx
    obtain ⟨h1, h2⟩ := orE_0 hx
    rw [Sts.app, errS, h1, errS_app r y h2 hy]
    rfl
theorem nnS_app : ∀ (x y : Sts), NnS x → NnS y → NnS (x.app y)
  | .nil, y, _, h => h
  | .cons h e b l r, y, ⟨h1, h2, h3, h4⟩, hy => ⟨h1, h2, h3, nnS_app r y h4 hy⟩
theorem dS_app : ∀ (x y : Sts) (a acc : Int), dS (x.app y) a acc = dS y a (dS x a acc)
  | .nil, y, _, _ => rfl
  | .cons h e b l r, y, a, acc => by
    rw [Sts.app, dS, dS]
    exact dS_app r y a _
theorem qs_app {d : Nat} {x y : Sts} (hx : QS rn cn d x) (hy : QS rn cn d y) : QS rn cn d (x.app y) :=
  ⟨errS_app x y hx.1 hy.1, nnS_app x y hx.2.1 hy.2.1, fun a ha => by rw [dS_app]; exact hy.2.2 _ (hx.2.2 a ha)⟩
theorem qs_nil {d : Nat} : QS rn cn d .nil := ⟨rfl, trivial, fun a h => h⟩
theorem ql_of {d : Nat} (hd : d ≤ 32) {e : Ex} (h : QX rn cn 1 d e) : QL rn cn d (.cons e.1 e.2 .nil) := by
  obtain ⟨h1, h2, h3, h4⟩ := h
  refine ⟨rfl, ?_, ⟨h2, h3, trivial⟩, ?_⟩
  · rw [errL, h1.1, h1.2]; rfl
  · rw [dL, dL]; omega
theorem qt_of {d : Nat} (hd : d ≤ 32) {h : SH} {e : Exs} {b l : Sts} (hH : errSH rn h e b.len l.len = 0) (he1 : errL rn cn e = 0) (he2 : NnX e) (he3 : dL e (d : Int) (d : Int) ≤ 32)
    (hb : b = .nil ∧ hasBody h.kind = false ∨ QB rn cn d b) (hl : l = .nil ∧ h.kind ≠ 8 ∨ QB rn cn d l) : QT rn cn d (h, e, b, l) := by
  have b1 : errS rn cn b = 0 ∧ NnS b := by
    rcases hb with ⟨rfl, _⟩ | hb
    · exact ⟨rfl, trivial⟩
    · exact ⟨hb.1, hb.2.1⟩
  have l1 : errS rn cn l = 0 ∧ NnS l := by
    rcases hl with ⟨rfl, _⟩ | hl
    · exact ⟨rfl, trivial⟩
    · exact ⟨hl.1, hl.2.1⟩
  refine ⟨?_, ⟨he2, b1.2, l1.2, trivial⟩, fun a ha => ?_⟩
  · rw [errS, hH, he1, b1.1, l1.1]; rfl
  · have e2 : ∀ x : Int, x ≤ 32 → (if hasBody h.kind || decide (0 < b.len) then max x (dS b ((d : Int) + 1) ((d : Int) + 1)) else x) ≤ 32 := by
      intro x hx
      split
      · rcases hb with ⟨rfl, h0⟩ | hb
        · rename_i hc; simp [h0, Sts.len] at hc
        · have := hb.2.2; omega
      · exact hx
    have e3 : ∀ x : Int, x ≤ 32 → (if h.kind = 8 ∨ 0 < l.len then max x (dS l ((d : Int) + 1) ((d : Int) + 1)) else x) ≤ 32 := by
      intro x hx
      split
      · rcases hl with ⟨rfl, h0⟩ | hl
        · rename_i hc; simp [h0, Sts.len] at hc
        · have := hl.2.2; omega
      · exact hx
    rw [dS, dS, wrap_sm (by omega) (by omega)]
    have := e3 _ (e2 _ he3)
    simp only
    exact Int.max_le.2 ⟨ha, this⟩
section
variable {E : Nat → List Tok → Ou Ex} {C : Nat → Ex → List Tok → Ou Ex} {B : Nat → List Tok → Ou Sts}
def RE0 (rn : Bs → Int) (cn : Int → Int) (E : Nat → List Tok → Ou Ex) : Prop := ∀ d ts, d ≤ 32 → (∀ t ∈ ts, TokR rn cn t) → Rg (TokR rn cn) (QX rn cn 1 d) (E d ts)
def RC0 (rn : Bs → Int) (cn : Int → Int) (C : Nat → Ex → List Tok → Ou Ex) : Prop := ∀ d e ts, d ≤ 32 → NmE rn e → (∀ t ∈ ts, TokR rn cn t) → Rg (TokR rn cn) (fun c => (c.1.kind = 4 ∨ c.1.kind = 5) ∧ QX rn cn 7 d c) (C d e ts)
def RB0 (rn : Bs → Int) (cn : Int → Int) (B : Nat → List Tok → Ou Sts) : Prop := ∀ d ts, d ≤ 32 → (∀ t ∈ ts, TokR rn cn t) → Rg (TokR rn cn) (QB rn cn d) (B d ts)
theorem lone_rg (hE : RE0 rn cn E) (d : Nat) (ts : List Tok) (hd : d ≤ 32) (h : ∀ t ∈ ts, TokR rn cn t) : Rg (TokR rn cn) (QL rn cn d) (lone E d ts) :=
  (hE d ts hd h).bd fun e ts he h => Rg.ok (ql_of hd he) h
theorem ended_rg (P : St → Prop) (kind : Int) (n : Bs) (e : Exs) (ts : List Tok) (hP : P (⟨kind, n⟩, e, .nil, .nil)) (h : ∀ t ∈ ts, TokR rn cn t) : Rg (TokR rn cn) P (ended kind n e ts) :=
  (must_rg _ _ _ _ h).bd fun _ ts _ h => Rg.ok hP h
theorem asg_rg (hE : RE0 rn cn E) (d : Nat) (kind : Int) (hk : kind = 1 ∨ kind = 2) (n : Bs) (hn : rn n = 0) (ts : List Tok) (hd : d ≤ 32) (h : ∀ t ∈ ts, TokR rn cn t) : Rg (TokR rn cn) (QT rn cn d) (asg E d kind n ts) := by
  unfold asg
  refine (must_rg _ _ _ _ h).bd fun _ ts _ h => (lone_rg hE d ts hd h).bd fun e ts he h => ended_rg _ kind n e ts ?_ h
  refine qt_of hd ?_ he.2.1 he.2.2.1 he.2.2.2 (Or.inl ⟨rfl, ?_⟩) (Or.inl ⟨rfl, ?_⟩)
  · rcases hk with rfl | rfl <;> simp [errSH, fitsS, nameS, orE, he.1, hn, Sts.len]
  · rcases hk with rfl | rfl <;> rfl
  · rcases hk with rfl | rfl <;> simp
theorem named_rg (hE : RE0 rn cn E) (hC : RC0 rn cn C) (d : Nat) (ts : List Tok) (hd : d ≤ 32) (h : ∀ t ∈ ts, TokR rn cn t) : Rg (TokR rn cn) (QT rn cn d) (named E C d ts) := by
  unfold named
  refine (refr_rg false ts h).bd fun e ts he h => ?_
  cases ts with
  | nil => trivial
  | cons u r =>
    refine Rg.ite (fun hc => ?_) (fun _ => ?_)
    · rcases he.2 with ⟨n, hn, rfl⟩ | ⟨n, m, _, _, rfl⟩
      · exact asg_rg hE d 2 (Or.inr rfl) n hn _ hd h
      · exact absurd hc.1 (by show ¬ (3 : Int) = 2; decide)
    · refine (hC d e _ hd he.2 h).bd fun c ts hc h => ended_rg _ 9 [] _ ts ?_ h
      have hq := ql_of hd (qx_less hd (by omega) hc.2)
      refine qt_of hd ?_ hq.2.1 hq.2.2.1 hq.2.2.2 (Or.inl ⟨rfl, rfl⟩) (Or.inl ⟨rfl, by decide⟩)
      simp [errSH, fitsS, nameS, orE, Exs.len, Exs.kind0, hc.1, Sts.len]
theorem branch_rg (hE : RE0 rn cn E) (hB : RB0 rn cn B) (d : Nat) (ts : List Tok) (hd : d ≤ 32) (h : ∀ t ∈ ts, TokR rn cn t) : Rg (TokR rn cn) (QT rn cn d) (branch E B d ts) := by
  unfold branch
  refine (lone_rg hE d ts hd h).bd fun e ts he h => (hB d ts hd h).bd fun b ts hb h => (has_rg _ _ _ _ h).bd fun y ts _ h => Rg.ite (fun _ => ?_) (fun _ => Rg.ok ?_ h)
  · refine (hB d ts hd h).bd fun l ts hl h => Rg.ok ?_ h
    refine qt_of hd ?_ he.2.1 he.2.2.1 he.2.2.2 (Or.inr hb) (Or.inr hl)
    simp [errSH, fitsS, nameS, orE, he.1]
  · refine qt_of hd ?_ he.2.1 he.2.2.1 he.2.2.2 (Or.inr hb) (Or.inl ⟨rfl, by decide⟩)
    simp [errSH, fitsS, nameS, orE, he.1]
theorem while_rg (hE : RE0 rn cn E) (hB : RB0 rn cn B) (d : Nat) (ts : List Tok) (hd : d ≤ 32) (h : ∀ t ∈ ts, TokR rn cn t) : Rg (TokR rn cn) (QT rn cn d) (while_ E B d ts) := by
  unfold while_
  refine (lone_rg hE d ts hd h).bd fun e ts he h => (hB d ts hd h).bd fun b ts hb h => Rg.ok ?_ h
  refine qt_of hd ?_ he.2.1 he.2.2.1 he.2.2.2 (Or.inr hb) (Or.inl ⟨rfl, by decide⟩)
  simp [errSH, fitsS, nameS, orE, he.1, Sts.len]
theorem returned_rg (hE : RE0 rn cn E) (d : Nat) (ts : List Tok) (hd : d ≤ 32) (h : ∀ t ∈ ts, TokR rn cn t) : Rg (TokR rn cn) (QT rn cn d) (returned E d ts) := by
  unfold returned
  split
  · trivial
  refine Rg.ite (fun _ => ended_rg _ 5 [] _ _ ?_ h) (fun _ => ?_)
  · refine qt_of hd ?_ rfl trivial (by rw [dL]; omega) (Or.inl ⟨rfl, rfl⟩) (Or.inl ⟨rfl, by decide⟩)
    simp [errSH, fitsS, nameS, orE, Exs.len, Sts.len]
  · refine (lone_rg hE d _ hd h).bd fun e ts he h => ended_rg _ 5 [] e ts ?_ h
    refine qt_of hd ?_ he.2.1 he.2.2.1 he.2.2.2 (Or.inl ⟨rfl, rfl⟩) (Or.inl ⟨rfl, by decide⟩)
    simp [errSH, fitsS, nameS, orE, he.1, Sts.len]
theorem tried_rg (hB : RB0 rn cn B) (d : Nat) (ts : List Tok) (hd : d ≤ 32) (h : ∀ t ∈ ts, TokR rn cn t) : Rg (TokR rn cn) (QT rn cn d) (tried B d ts) := by
  unfold tried
  refine (hB d ts hd h).bd fun b ts hb h => (must_rg _ _ _ _ h).bd fun _ ts _ h => (name_rg false ts h).bd fun n ts hn h => (hB d ts hd h).bd fun l ts hl h => Rg.ok ?_ h
  refine qt_of hd ?_ rfl trivial (by rw [dL]; omega) (Or.inr hb) (Or.inr hl)
  simp [errSH, fitsS, nameS, orE, Exs.len, hn.2]
theorem shown_rg (hE : RE0 rn cn E) (kind : Int) (hk : kind = 6 ∨ kind = 7) (d : Nat) (ts : List Tok) (hd : d ≤ 32) (h : ∀ t ∈ ts, TokR rn cn t) : Rg (TokR rn cn) (QT rn cn d) (bd (lone E d ts) fun e ts => ended kind [] e ts) := by
  refine (lone_rg hE d ts hd h).bd fun e ts he h => ended_rg _ kind [] e ts ?_ h
  refine qt_of hd ?_ he.2.1 he.2.2.1 he.2.2.2 (Or.inl ⟨rfl, ?_⟩) (Or.inl ⟨rfl, ?_⟩)
  · rcases hk with rfl | rfl <;> simp [errSH, fitsS, nameS, orE, he.1, Sts.len]
  · rcases hk with rfl | rfl <;> rfl
  · rcases hk with rfl | rfl <;> decide
theorem stm_rg (hE : RE0 rn cn E) (hC : RC0 rn cn C) (hB : RB0 rn cn B) (d : Nat) (ts : List Tok) (hd : d ≤ 32) (h : ∀ t ∈ ts, TokR rn cn t) : Rg (TokR rn cn) (QT rn cn d) (stm E C B d ts) := by
  unfold stm
  split
  · trivial
  obtain ⟨ht, hr⟩ := tl h
  refine Rg.ite (fun _ => named_rg hE hC d _ hd h) (fun _ => ?_)
  refine Rg.ite (fun _ => (name_rg false _ hr).bd fun n ts hn h => asg_rg hE d 1 (Or.inl rfl) n hn.2 ts hd h) (fun _ => ?_)
  refine Rg.ite (fun _ => branch_rg hE hB d _ hd hr) (fun _ => ?_)
  refine Rg.ite (fun _ => while_rg hE hB d _ hd hr) (fun _ => ?_)
  refine Rg.ite (fun _ => returned_rg hE d _ hd hr) (fun _ => ?_)
  refine Rg.ite (fun _ => shown_rg hE 6 (Or.inl rfl) d _ hd hr) (fun _ => ?_)
  refine Rg.ite (fun _ => shown_rg hE 7 (Or.inr rfl) d _ hd hr) (fun _ => ?_)
  exact Rg.ite (fun _ => tried_rg hB d _ hd hr) (fun _ => trivial)
end
theorem sts_rg {S : List Tok → Ou St} {d : Nat} (hS : ∀ ts, (∀ t ∈ ts, TokR rn cn t) → Rg (TokR rn cn) (QT rn cn d) (S ts)) : ∀ (g : Nat) (acc : Sts) (ts : List Tok), QS rn cn d acc → (∀ t ∈ ts, TokR rn cn t) → Rg (TokR rn cn) (QS rn cn d) (sts S g acc ts) := by
  intro g
  induction g with
  | zero => intro acc ts _ _; trivial
  | succ g ih =>
    intro acc ts ha h
    cases ts with
    | nil => trivial
    | cons t r =>
      unfold sts
      exact Rg.ite (fun _ => Rg.ok ha h) (fun _ => (hS _ h).bd fun s ts hs h => ih _ ts (qs_app ha hs) h)
theorem blk_rg {E : Nat → List Tok → Ou Ex} {C : Nat → Ex → List Tok → Ou Ex} (hE : RE0 rn cn E) (hC : RC0 rn cn C) (g : Nat) : ∀ f, RB0 rn cn (blk E C g f) := by
  intro f
  induction f with
  | zero => intro d ts _ _; trivial
  | succ f ih =>
    intro d ts hd h
    unfold blk
    refine (opn_rg _ _ _ _ _ h).bd fun _ ts h1 h => (sts_rg (fun ts h => stm_rg hE hC ih (d + 1) ts (by omega) h) g .nil ts qs_nil h).bd fun l ts hl h => (must_rg _ _ _ _ h).bd fun _ ts _ h => Rg.ok ⟨hl.1, hl.2.1, ?_⟩ h
    have := hl.2.2 ((d : Int) + 1) (by omega)
    simpa using this
theorem typ_rg (A : Tok → Prop) (ts : List Tok) (h : ∀ t ∈ ts, A t) : Rg A (fun t => isTy t = true) (typ ts) := by
  unfold typ
  split
  · trivial
  obtain ⟨_, hr⟩ := tl h
  exact Rg.ite (fun _ => Rg.ok rfl hr) (fun _ => Rg.ite (fun _ => Rg.ok rfl hr) (fun _ => Rg.ite (fun _ => Rg.ok rfl hr) (fun _ => trivial)))
def PaR (rn : Bs → Int) (p : Pa) : Prop := rn p.name = 0 ∧ isTy p.type = true
theorem par1_rg (fl : Bool) (ts : List Tok) (h : ∀ t ∈ ts, TokR rn cn t) : Rg (TokR rn cn) (fun p => fl = false ∧ PaR rn p) (par1 fl ts) := by
  unfold par1
  exact (name_rg fl ts h).bd fun n ts hn h => (must_rg _ _ _ _ h).bd fun _ ts _ h => (typ_rg _ _ h).bd fun t ts ht h => Rg.ok ⟨hn.1, hn.2, ht⟩ h
theorem rwP_rg : ∀ (g : Nat) (acc : List Pa) (ts : List Tok), (∀ p ∈ acc, PaR rn p) → acc.length ≤ 8 → (∀ t ∈ ts, TokR rn cn t) → Rg (TokR rn cn) (fun l => (∀ p ∈ l, PaR rn p) ∧ l.length ≤ 8) (rwP g acc ts) := by
  intro g
  induction g with
  | zero => intro acc ts _ _ _; trivial
  | succ g ih =>
    intro acc ts ha hl h
    cases ts with
    | nil => trivial
    | cons t r =>
      unfold rwP
      refine Rg.ite (fun _ => ?_) (fun _ => Rg.ok ⟨ha, hl⟩ h)
      refine (par1_rg _ r (tl h).2).bd fun p ts hp h => ih _ ts ?_ ?_ h
      · intro q hq
        rcases List.mem_append.1 hq with hq | hq
        · exact ha q hq
        · rw [List.mem_singleton.1 hq]; exact hp.2
      · have := hp.1
        rw [beq_eq_false_iff_ne] at this
        rw [List.length_append]; simp only [List.length_singleton]; omega
theorem errP_oR : ∀ (l : List Pa), (∀ p ∈ l, PaR rn p) → errP rn l = 0
  | [], _ => rfl
  | p :: r, h => by
    have h1 := h p (by simp)
    rw [errP, h1.1, h1.2, errP_oR r (fun q hq => h q (by simp [hq]))]
    rfl
def QD (rn : Bs → Int) (cn : Int → Int) (d : De) : Prop := errD rn cn d = 0 ∧ NnD d
section
variable {E : Nat → List Tok → Ou Ex} {B : Nat → List Tok → Ou Sts}
theorem holder_rg (hE : RE0 rn cn E) (kind : Int) (ex : Bool) (hk : kind = 1 ∨ kind = 2 ∧ ex = false) (ts : List Tok) (h : ∀ t ∈ ts, TokR rn cn t) : Rg (TokR rn cn) (QD rn cn) (holder E kind ex ts) := by
  unfold holder
  refine (name_rg false ts h).bd fun n ts hn h => (must_rg _ _ _ _ h).bd fun _ ts _ h => (typ_rg _ _ h).bd fun t ts ht h => (must_rg _ _ _ _ h).bd fun _ ts _ h => (lone_rg hE 0 ts (by omega) h).bd fun e ts he h => (must_rg _ _ _ _ h).bd fun _ ts _ h => Rg.ok ⟨?_, he.2.2.1, trivial⟩ h
  obtain ⟨h1, h2, h3, h4⟩ := he
  have hdd : dD ⟨kind, ex, n, t, [], e, .nil⟩ ≤ 32 := by
    have hk3 : ¬ (kind = 3 ∨ 0 < Sts.nil.len) := by simp [Sts.len]; omega
    unfold dD
    simp only
    rw [if_neg hk3]
    exact h4
  unfold errD
  rw [if_neg (by omega)]
  rcases hk with rfl | ⟨rfl, rfl⟩ <;> simp [fitsD, ht, h1, h2, hn.2, orE, errP, errS, Sts.len]
theorem params_rg (g : Nat) (ts : List Tok) (h : ∀ t ∈ ts, TokR rn cn t) : Rg (TokR rn cn) (fun l => (∀ p ∈ l, PaR rn p) ∧ l.length ≤ 8) (params g ts) := by
  unfold params
  split
  · trivial
  exact Rg.ite (fun _ => Rg.ok ⟨by simp, by simp⟩ h) (fun _ => (par1_rg false _ h).bd fun p ts hp h => rwP_rg g [p] ts (by simpa using hp.2) (by simp) h)
theorem result_rg (A : Tok → Prop) (ts : List Tok) (h : ∀ t ∈ ts, A t) : Rg A (fun t => t = 0 ∨ isTy t = true) (result ts) := by
  unfold result
  exact (has_rg _ _ _ _ h).bd fun y ts _ h => Rg.ite (fun _ => (typ_rg _ _ h).mono fun t ht => Or.inr ht) (fun _ => Rg.ok (Or.inl rfl) h)
theorem fnc_rg (hB : RB0 rn cn B) (g : Nat) (ex : Bool) (ts : List Tok) (h : ∀ t ∈ ts, TokR rn cn t) : Rg (TokR rn cn) (QD rn cn) (fnc B g ex ts) := by
  unfold fnc
  refine (name_rg false ts h).bd fun n ts hn h => (must_rg _ _ _ _ h).bd fun _ ts _ h => (params_rg g ts h).bd fun ps ts hps h => (must_rg _ _ _ _ h).bd fun _ ts _ h => (result_rg _ _ h).bd fun t ts ht h => (hB 0 ts (by omega) h).bd fun b ts hb h => Rg.ok ⟨?_, trivial, hb.2.1⟩ h
  have hdd : dD ⟨3, ex, n, t, ps, .nil, b⟩ ≤ 32 := by
    have := hb.2.2
    have h1 : dS b 1 1 ≤ 32 := by simpa using this
    simp only [dD, dL, true_or, if_true]
    omega
  have h8 : ¬ 8 < ps.length := by have := hps.2; omega
  unfold errD
  rw [if_neg (by omega)]
  have e1 := errP_oR ps hps.1
  have e2 := hb.1
  have e3 : (t == 0 || isTy t) = true := by rcases ht with rfl | ht <;> simp [*]
  simp [fitsD, e3, hn.2, orE, h8, e1, e2, errL, Exs.len]
theorem dcl2_rg (hE : RE0 rn cn E) (hB : RB0 rn cn B) (g : Nat) (ex fl : Bool) (ts : List Tok) (h : ∀ t ∈ ts, TokR rn cn t) : Rg (TokR rn cn) (fun d => fl = false ∧ QD rn cn d) (dcl2 E B g ex fl ts) := by
  unfold dcl2
  split
  · trivial
  obtain ⟨_, hr⟩ := tl h
  refine Rg.ite (fun _ => Rg.ite (fun _ => trivial) (fun hf => (holder_rg hE 1 ex (Or.inl rfl) _ hr).mono fun d hd => ⟨by simpa using hf, hd⟩)) (fun _ => ?_)
  refine Rg.ite (fun hc => Rg.ite (fun _ => trivial) (fun hf => (holder_rg hE 2 ex (Or.inr ⟨rfl, hc.1⟩) _ hr).mono fun d hd => ⟨by simpa using hf, hd⟩)) (fun _ => ?_)
  exact Rg.ite (fun _ => Rg.ite (fun _ => trivial) (fun hf => (fnc_rg hB g ex _ hr).mono fun d hd => ⟨by simpa using hf, hd⟩)) (fun _ => trivial)
theorem dcl_rg (hE : RE0 rn cn E) (hB : RB0 rn cn B) (g : Nat) (fl : Bool) (ts : List Tok) (h : ∀ t ∈ ts, TokR rn cn t) : Rg (TokR rn cn) (fun d => fl = false ∧ QD rn cn d) (dcl E B g fl ts) := by
  unfold dcl
  split
  · trivial
  exact Rg.ite (fun _ => Rg.ite (fun _ => trivial) (fun hf => (dcl2_rg hE hB g true false _ (tl h).2).mono fun d hd => ⟨by simpa using hf, hd.2⟩)) (fun _ => dcl2_rg hE hB g false fl _ h)
theorem dcls_rg (hE : RE0 rn cn E) (hB : RB0 rn cn B) (g : Nat) : ∀ (f : Nat) (acc : List De) (ts : List Tok), (∀ d ∈ acc, QD rn cn d) → acc.length ≤ 64 → (∀ t ∈ ts, TokR rn cn t) → Rg (TokR rn cn) (fun l => (∀ d ∈ l, QD rn cn d) ∧ l.length ≤ 64) (dcls E B g f acc ts) := by
  intro f
  induction f with
  | zero => intro acc ts _ _ _; trivial
  | succ f ih =>
    intro acc ts ha hl h
    match ts, h with
    | [], _ => trivial
    | [t], h => exact Rg.ok (P := fun l : List De => (∀ d ∈ l, QD rn cn d) ∧ l.length ≤ 64) ⟨ha, hl⟩ h
    | t :: u :: r, h =>
      unfold dcls
      refine (dcl_rg hE hB g _ _ h).bd fun d ts hp h => ih _ ts ?_ ?_ h
      · intro q hq
        rcases List.mem_append.1 hq with hq | hq
        · exact ha q hq
        · rw [List.mem_singleton.1 hq]; exact hp.2
      · have := hp.1
        rw [beq_eq_false_iff_ne] at this
        rw [List.length_append]; simp only [List.length_singleton]; omega
end
theorem imp1_rg (fl : Bool) (ts : List Tok) (h : ∀ t ∈ ts, TokR rn cn t) : Rg (TokR rn cn) (fun n => fl = false ∧ rn n = 0) (imp1 fl ts) := by
  unfold imp1
  exact (must_rg _ _ _ _ h).bd fun _ ts hf h => (name_rg false ts h).bd fun n ts hn h => (must_rg _ _ _ _ h).bd fun _ ts _ h => Rg.ok ⟨hf, hn.2⟩ h
theorem imps_rg : ∀ (f : Nat) (acc : List Bs) (ts : List Tok), (∀ x ∈ acc, rn x = 0) → acc.length ≤ 16 → (∀ t ∈ ts, TokR rn cn t) → Rg (TokR rn cn) (fun l => (∀ x ∈ l, rn x = 0) ∧ l.length ≤ 16) (imps f acc ts) := by
  intro f
  induction f with
  | zero => intro acc ts _ _ _; trivial
  | succ f ih =>
    intro acc ts ha hl h
    cases ts with
    | nil => trivial
    | cons t r =>
      unfold imps
      refine Rg.ite (fun _ => ?_) (fun _ => Rg.ok ⟨ha, hl⟩ h)
      refine (imp1_rg _ _ h).bd fun p ts hp h => ih _ ts ?_ ?_ h
      · intro q hq
        rcases List.mem_append.1 hq with hq | hq
        · exact ha q hq
        · rw [List.mem_singleton.1 hq]; exact hp.2
      · have := hp.1
        rw [beq_eq_false_iff_ne] at this
        rw [List.length_append]; simp only [List.length_singleton]; omega
theorem errI_oR : ∀ (l : List Bs), (∀ x ∈ l, rn x = 0) → errI rn l = 0
  | [], _ => rfl
  | x :: r, h => by
    rw [errI, h x (by simp), errI_oR r (fun q hq => h q (by simp [hq]))]
    rfl
theorem errDs_oR : ∀ (l : List De), (∀ d ∈ l, QD rn cn d) → errDs rn cn l = 0
  | [], _ => rfl
  | x :: r, h => by
    rw [errDs, (h x (by simp)).1, errDs_oR r (fun q hq => h q (by simp [hq]))]
    rfl
theorem parT_right (hc1 : cn 9218868437227405312 = 9218868437227405312) (hc2 : cn 9221120237041090561 = 9221120237041090561) (ts : List Tok) (n : Nat) (m : Mo) (p : Nat) (c : Int) (hA : ∀ t ∈ ts, TokR rn cn t) (h : parT ts n = some (some m, p, c)) :
    errM rn cn m = 0 ∧ ∀ d ∈ m.decls, NnD d := by
  have hE := expr_rg (rn := rn) hc1 hc2 (ts.length + 2)
  have hE0 : RE0 rn cn (E0 (ts.length + 2)) := fun d ts' hd h => (hE false d ts' hd h).mono fun e he => he.2
  have hC0 : RC0 rn cn (C0 (ts.length + 2)) := fun d e ts' hd he h => call_rg hE (ts.length + 2) d e he ts' hd h
  have hB0 : RB0 rn cn (B0 (ts.length + 2)) := fun d ts' hd h => blk_rg hE0 hC0 _ _ d ts' hd h
  have hA' : ∀ t ∈ ts ++ [endT n], TokR rn cn t := by
    intro t ht
    rcases List.mem_append.1 ht with ht | ht
    · exact hA t ht
    · rw [List.mem_singleton.1 ht]
      exact ⟨fun h => absurd h (by simp [endT]), fun h => absurd h (by simp [endT])⟩
  have hm : Rg (TokR rn cn) (fun m : Mo => errM rn cn m = 0 ∧ ∀ d ∈ m.decls, NnD d) (mdl (ts.length + 2) (ts ++ [endT n])) := by
    unfold mdl
    refine (must_rg _ _ _ _ hA').bd fun _ ts _ h => (name_rg false ts h).bd fun x ts hx h => (must_rg _ _ _ _ h).bd fun _ ts _ h => (imps_rg _ [] ts (by simp) (by simp) h).bd fun is ts his h => (dcls_rg hE0 hB0 _ _ [] ts (by simp) (by simp) h).bd fun ds ts hds h => Rg.ok ⟨?_, fun d hd => (hds.1 d hd).2⟩ h
    have h1 : ¬ 16 < is.length := by have := his.2; omega
    have h2 : ¬ 64 < ds.length := by have := hds.2; omega
    simp [errM, hx.2, orE, h1, h2, errI_oR is his.1, errDs_oR ds hds.1]
  unfold parT whole at h
  split at h
  · cases h
  · cases h
  · rename_i a t heq
    rw [heq] at hm
    simp only [Option.some.injEq, Prod.mk.injEq] at h
    rw [← h.1]
    exact hm.1
  · cases h
  · cases h
end Pz
end Go.Proofs.YteijjaabngkbjaaGreatDoor
namespace Go.Proofs.YteijjaabngkbjaaGreatDoor
set_option linter.unusedSimpArgs false
set_option linter.unusedVariables false
namespace Lx
variable (words : List By) (V : Nat → By → Int × Int × Int)
theorem take_get {r : By} {n i : Nat} {c : UInt8} (h : (r.take n)[i]? = some c) : r[i]? = some c := by
  rw [List.getElem?_take] at h
  split at h
  · exact h
  · cases h
theorem Cut.take (r : By) (n : Nat) : Cut r (r.take n) := fun c h hc => ⟨take_get h, fun d hd hdb => take_get hd⟩
theorem toks_pos {p : Nat} {u : By} {ts : List Tok} (h : Toks words V p u ts) (h0 : ts ≠ []) : u ≠ [] := by
  cases h with
  | done => exact absurd rfl h0
  | more _ x r k ty b ts hk hx hg hv h =>
    intro e
    exact hx (List.append_eq_nil_iff.1 e).1
theorem toks_cut {p : Nat} {u : By} {ts : List Tok} (h : Toks words V p u ts) : ∀ (i : Nat) (w : Tok), ts[i]? = some w → ∃ j, w.p = p + j ∧ j ≤ u.length ∧ Toks words V p (u.take j) (ts.take i) := by
  induction h with
  | done p => intro i w h; simp at h
  | more p x r k ty b ts hk hx hg hv h ih =>
    intro i w hi
    cases i with
    | zero =>
      have : w = ⟨k, x, ty, b, p⟩ := by simpa using hi.symm
      subst this
      exact ⟨0, rfl, Nat.zero_le _, by simpa using Toks.done p⟩
    | succ i =>
      have hi' : ts[i]? = some w := by simpa using hi
      obtain ⟨j, e1, e2, e3⟩ := ih i w hi'
      have hne : ts ≠ [] := by intro e; rw [e] at hi'; simp at hi'
      have hd := toks_pos words V h hne
      have hgl : gap r < r.length := by
        rcases Nat.lt_or_ge (gap r) r.length with h | h
        · exact h
        · exact absurd (List.drop_eq_nil_of_le h) hd
      have hr' : r.take (gap r + j) = r.take (gap r) ++ (r.drop (gap r)).take j := by rw [List.take_add]
      have hgap : gap (r.take (gap r + j)) = gap r := by
        rw [hr']
        have e := gap_ahead ((r.drop (gap r)).take j) r false hgl
        rw [gap_first words V e3] at e
        exact e
      rw [List.length_drop] at e2
      refine ⟨x.length + gap r + j, by omega, by rw [List.length_append]; omega, ?_⟩
      have ht : (x ++ r).take (x.length + gap r + j) = x ++ r.take (gap r + j) := by
        rw [List.take_append, List.take_of_length_le (by omega)]
        congr 2
        omega
      rw [ht, List.take_succ_cons]
      refine Toks.more p x _ k ty b _ (kind_cut words x r _ k hx hk (Cut.take r _)) hx (gap_cut x r _ hx hg (Cut.take r _)) hv ?_
      rw [hgap]
      have : (r.take (gap r + j)).drop (gap r) = (r.drop (gap r)).take j := by rw [List.drop_take]; congr 1; omega
      rw [this]
      exact e3
theorem lexS_cut (s : By) (ts : List Tok) (q : Nat) (h : lexS words V s = (ts, q, 0)) (i : Nat) (w : Tok) (hi : ts[i]? = some w) : w.p ≤ s.length ∧ lexS words V (s.take w.p) = (ts.take i, 0, 0) := by
  rcases toks_of_lexS words V s ts q 0 h with ⟨_, _, h1, h2, h3⟩ | ⟨h1, _⟩
  · obtain ⟨j, e1, e2, e3⟩ := toks_cut words V h3 i w hi
    have hne : ts ≠ [] := by intro e; rw [e] at hi; simp at hi
    have hd := toks_pos words V h3 hne
    have hgl : gap s < s.length := by
      rcases Nat.lt_or_ge (gap s) s.length with h | h
      · exact h
      · exact absurd (List.drop_eq_nil_of_le h) hd
    rw [List.length_drop] at e2
    have hs' : s.take (gap s + j) = s.take (gap s) ++ (s.drop (gap s)).take j := by rw [List.take_add]
    have hgap : gap (s.take (gap s + j)) = gap s := by
      rw [hs']
      have e := gap_ahead ((s.drop (gap s)).take j) s false hgl
      rw [gap_first words V e3] at e
      exact e
    refine ⟨by omega, ?_⟩
    rw [e1]
    refine lexS_of_toks words V _ _ ?_ ?_ ?_
    · rw [List.length_take]; omega
    · rw [List.length_take]; omega
    · rw [hgap]
      have : (s.take (gap s + j)).drop (gap s) = (s.drop (gap s)).take j := by rw [List.drop_take]; congr 1; omega
      rw [this]
      exact e3
  · exact absurd rfl h1
theorem toks_all {p : Nat} {u : By} {ts : List Tok} (h : Toks words V p u ts) : ∀ t ∈ ts, ∃ r, kindLen words (t.x ++ r) = (t.k, t.x.length) ∧ t.x ≠ [] ∧ V t.k t.x = (t.ty, t.b, 0) := by
  induction h with
  | done p => intro t h; simp at h
  | more p x r k ty b ts hk hx hg hv h ih =>
    intro t ht
    rcases List.mem_cons.1 ht with rfl | ht
    · exact ⟨r, hk, hx, hv⟩
    · exact ih t ht
end Lx
end Go.Proofs.YteijjaabngkbjaaGreatDoor
namespace Go.Proofs.YteijjaabngkbjaaGreatDoor.F
open Go.RowKit Fl
set_option linter.unusedSimpArgs false
set_option linter.unusedVariables false
theorem canon_lt {a : Int} (h0 : 0 ≤ a) (h : a ≤ 9218868437227405312) : canonS a = a := by
  unfold canonS nan
  rw [if_neg]
  simp only [decide_eq_true_eq]
  omega
theorem rs_pos (l : List UInt8) : 0 ≤ (rsS l).1 ∧ (rsS l).1 < 9223372036854775808 ∧ canonS (rsS l).1 = (rsS l).1 := by
  unfold rsS
  repeat' split
  · exact ⟨by simp, by simp, by decide⟩
  · exact ⟨by simp, by simp, by decide⟩
  · exact ⟨by simp, by simp, by decide⟩
  · exact ⟨by simp, by simp, by decide⟩
  · exact ⟨by simp, by simp, by decide⟩
  · rename_i h
    generalize cut1 (Lib.trimPrefix l [48, 120, 49]) 112 = q at *
    have h1 := rfS_lt q.1
    have h2 := reS_ok q.2.1 (by
      cases e : (reS q.2.1).2
      · exact absurd (Or.inr e) h
      · rfl)
    have := join_U _ _ h1 h2.1 h2.2
    exact ⟨by simp, by simp only; omega, canon_lt (by simp) (by simp only; omega)⟩
theorem parse_pos (c : UInt8) (z : List UInt8) (hc : c ≠ 45) (h : (parseS (c :: z)).2 = 0) : 0 ≤ (parseS (c :: z)).1 ∧ (parseS (c :: z)).1 < 9223372036854775808 ∧ canonS (parseS (c :: z)).1 = (parseS (c :: z)).1 := by
  have hp : Lib.hasPrefix (c :: z) [45] = false := by
    cases hh : Lib.hasPrefix (c :: z) [45]
    · rfl
    · exfalso
      have : 45 = c := by simpa [Lib.hasPrefix] using hh
      exact hc this.symm
  have key : signed_ (Lib.hasPrefix (c :: z) [45]) (rsS (Lib.trimPrefix (c :: z) [45])).1 = (rsS (Lib.trimPrefix (c :: z) [45])).1 := by rw [hp]; rfl
  unfold parseS at h ⊢
  split
  · simp only
    rw [key]
    exact rs_pos _
  · rename_i hn
    rw [if_neg hn] at h
    exact absurd h (by decide)
theorem quo_pos (m k : Nat) (hm : m ≤ 9007199254740992) (hk : k ≤ 9007199254740992) (hk0 : k ≠ 0) : quoS m k ≤ 9218868437227405312 := by
  obtain ⟨rm, h1⟩ := rep_of m hm
  obtain ⟨rk, h2⟩ := rep_of k hk
  have z : rk ≠ 0 := fun h => hk0 ((rep_zero k rk h2).1 h)
  unfold quoS
  rw [fi_word (m : Int) rm (by simpa using h1), fi_word (k : Int) rk (by simpa using h2)]
  change (Ieee.double.div _ _).getD 0 ≤ _
  unfold Ieee.Format.div
  rw [read_word _ _ h1.1, read_word _ _ h2.1]
  simp only [Ieee.Datum.quotient]
  rw [if_neg (mag_pos rk z)]
  simp only [Option.map_some, Ieee.Format.write, Option.getD_some]
  rw [nearest_rung, word_f]
  have e1 : decide ((m : Int) < 0) = false := decide_eq_false (by omega)
  have e2 : decide ((k : Int) < 0) = false := decide_eq_false (by omega)
  rw [e1, e2]
  simp only [bne_self_eq_false, Bool.false_eq_true, if_false, Bool.xor_self]
  exact rung_le _ _
theorem lit_pos (s : List UInt8) (h : (litS s).2 = 0) : 0 ≤ (litS s).1 ∧ (litS s).1 < 9223372036854775808 ∧ canonS (litS s).1 = (litS s).1 := by
  unfold litS at *
  split at h
  · rename_i hg
    rw [if_pos hg]
    split at h
    · exact absurd h (by decide)
    · rename_i hlen
      rw [if_neg hlen]
      generalize cut1 s 46 = q at *
      rw [Bool.and_eq_true, Bool.and_eq_true] at hg
      have ga : (q.1 ++ q.2.1).all isd = true := by
        have g1 := hg.1.2
        have g2 := hg.2
        unfold allD at g1 g2
        rw [Bool.and_eq_true] at g1 g2
        rw [List.all_append, g1.1, g2.1]
        rfl
      have hn := numD_lt (q.1 ++ q.2.1) 0 0 ga (by decide)
      rw [Nat.zero_add, List.length_append] at hn
      have hp : 10 ^ (q.1.length + q.2.1.length) ≤ 10 ^ 15 := Nat.pow_le_pow_right (by decide) (by omega)
      have hp2 : 10 ^ q.2.1.length ≤ 10 ^ 15 := Nat.pow_le_pow_right (by decide) (by omega)
      have hp0 : 0 < 10 ^ q.2.1.length := Nat.pow_pos (by decide)
      have hm : numD (q.1 ++ q.2.1) ≤ 9007199254740992 := by
        have : numD (q.1 ++ q.2.1) < 10 ^ (q.1.length + q.2.1.length) := hn
        have : (10 : Nat) ^ 15 = 1000000000000000 := by decide
        omega
      have hk : 10 ^ q.2.1.length ≤ 9007199254740992 := by
        have : (10 : Nat) ^ 15 = 1000000000000000 := by decide
        omega
      have := quo_pos (numD (q.1 ++ q.2.1)) (10 ^ q.2.1.length) hm hk (by omega)
      exact ⟨by simp, by simp only; omega, canon_lt (by simp) (by simp only; omega)⟩
  · exact absurd h (by decide)
end Go.Proofs.YteijjaabngkbjaaGreatDoor.F
namespace Go.Proofs.YteijjaabngkbjaaGreatDoor
open Go.RowKit Lx Te
set_option linter.unusedSimpArgs false
set_option linter.unusedVariables false
theorem nat_pos (l : Bs) (h : (I.natS l).2.2 = 0) : 0 ≤ (I.natS l).1 ∧ (I.natS l).1 < 9223372036854775808 := by
  unfold I.natS I.amtS at *
  by_cases a : I.runD l < l.length
  · rw [if_pos a] at h; exact absurd h (by simp)
  rw [if_neg a] at *
  by_cases b : l.length = 0
  · rw [if_pos b] at h; exact absurd h (by decide)
  rw [if_neg b] at *
  by_cases c : 1 < l.length ∧ l.head? = some 48
  · rw [if_pos c] at h; exact absurd h (by decide)
  rw [if_neg c] at *
  by_cases d : 9223372036854775807 < I.numD l
  · rw [if_pos d] at h; exact absurd h (by decide)
  rw [if_neg d] at *
  exact ⟨by simp, by simp only; omega⟩
theorem tw_all (p : UInt8 → Bool) : ∀ (l : Bs), ∀ d ∈ l.takeWhile p, p d = true
  | [], d, hd => by simp at hd
  | c :: r, d, hd => by
    rw [List.takeWhile_cons] at hd
    split at hd
    · rcases List.mem_cons.1 hd with rfl | hd
      · assumption
      · exact tw_all p r d hd
    · simp at hd
theorem tw_take (p : UInt8 → Bool) : ∀ (l : Bs), l.take (l.takeWhile p).length = l.takeWhile p
  | [] => rfl
  | c :: r => by
    rw [List.takeWhile_cons]
    split
    · rw [List.length_cons, List.take_succ_cons, tw_take p r]
    · rfl
theorem tok_r {l : By} {ts : List Tok} (h : lexS wordsL valS l = (ts, 0, 0)) : ∀ t ∈ ts, Pz.TokR rnS cnS t := by
  rcases toks_of_lexS wordsL valS l ts 0 0 h with ⟨_, _, _, _, hT⟩ | ⟨h0, _⟩
  · intro t ht
    obtain ⟨r, hk, hx, hv⟩ := toks_all wordsL valS hT t ht
    obtain ⟨k, x, ty, b, p⟩ := t
    simp only at hk hx hv
    obtain ⟨c, z, rfl⟩ : ∃ c z, x = c :: z := by
      cases x with
      | nil => exact absurd rfl hx
      | cons c z => exact ⟨c, z, rfl⟩
    rw [List.cons_append, kind_cons] at hk
    have knum : ∀ l', (numLen l').1 = 3 ∨ (numLen l').1 = 4 := by
      intro l'
      unfold numLen
      split
      · exact Or.inr rfl
      · split
        · exact Or.inr rfl
        · exact Or.inl rfl
    constructor
    · intro h1
      simp only at h1
      subst h1
      split at hk
      · have := knum (c :: (z ++ r))
        rw [hk] at this
        simp at this
      · split at hk
        · rename_i hd hl
          simp only [Prod.mk.injEq] at hk
          have hw : ¬ (c :: (z ++ r)).take (run nmB (c :: (z ++ r))) ∈ wordsL := by
            intro hw
            have h1 := hk.1
            rw [if_pos hw] at h1
            exact absurd h1 (by decide)
          have hx' : (c :: (z ++ r)).take (run nmB (c :: (z ++ r))) = c :: z := by
            rw [hk.2, ← List.cons_append, List.take_left]
          rw [hx'] at hw
          have hall : ∀ d ∈ c :: z, nmB d = true := by
            intro d hd
            rw [← hx'] at hd
            unfold run at hd
            rw [tw_take] at hd
            exact tw_all nmB _ d hd
          unfold valS at hv
          rw [if_pos rfl] at hv
          simp only [Prod.mk.injEq] at hv
          have h32 : ¬ 32 < (c :: z).length := by
            intro hc
            have := hv.2.2
            rw [if_pos hc] at this
            exact absurd this (by decide)
          show N.rightS (c :: z) = 0
          unfold N.rightS
          have hsp : N.speltS (c :: z) = true := by
            rw [N.spelt_cons (c :: z) c rfl, Bool.and_eq_true]
            refine ⟨?_, ?_⟩
            · simp only [N.letB, ltr, Bool.or_eq_true, Bool.and_eq_true, decide_eq_true_eq, beq_iff_eq] at hl ⊢
              exact hl
            · rw [List.all_eq_true]
              intro d hd
              have := hall d hd
              simp only [N.ld, N.letB, N.digB, nmB, dgt, ltr, Bool.or_eq_true, Bool.and_eq_true, decide_eq_true_eq, beq_iff_eq] at this ⊢
              exact this.symm
          rw [if_pos hsp, if_neg h32, if_neg (show ¬ c :: z ∈ N.wordsL from hw)]
        · simp at hk
    · intro h34
      simp only at h34
      have hd : dgt c = true := by
        split at hk
        · assumption
        · split at hk
          · simp only [Prod.mk.injEq] at hk
            have := hk.1
            split at this <;> omega
          · simp only [Prod.mk.injEq] at hk
            omega
      have hc45 : c ≠ 45 := by
        rintro rfl
        exact absurd hd (by decide)
      unfold valS at hv
      rw [if_neg (by omega)] at hv
      rcases h34 with rfl | rfl
      · rw [if_pos rfl] at hv
        split at hv
        · rename_i h0
          simp only [Prod.mk.injEq] at hv
          obtain ⟨rfl, rfl, _⟩ := hv
          have := nat_pos _ h0
          exact ⟨by simpa [litOk] using this.2, this.1⟩
        · rename_i h0
          simp only [Prod.mk.injEq] at hv
          exact absurd hv.2.2 h0
      · rw [if_neg (by decide), if_pos rfl] at hv
        split at hv
        · split at hv
          · rename_i h0
            simp only [Prod.mk.injEq] at hv
            obtain ⟨rfl, rfl, _⟩ := hv
            have := F.parse_pos c z hc45 h0
            exact ⟨by simp only [litOk]; simp; exact ⟨this.2.1, this.2.2⟩, this.1⟩
          · rename_i h0
            simp only [Prod.mk.injEq] at hv
            exact absurd hv.2.2 h0
        · split at hv
          · rename_i h0
            simp only [Prod.mk.injEq] at hv
            obtain ⟨rfl, rfl, _⟩ := hv
            have := F.lit_pos (c :: z) h0
            exact ⟨by simp only [litOk]; simp; exact ⟨this.2.1, this.2.2⟩, this.1⟩
          · rename_i h0
            simp only [Prod.mk.injEq] at hv
            exact absurd hv.2.2 h0
  · exact absurd rfl h0
end Go.Proofs.YteijjaabngkbjaaGreatDoor
