/- Texts of ours, in one. -/
import Derived.Test.YtpkaekokkhecmaaGreatDoorTrD2
import Derived.Test.YtpkaekokkhecmaaGreatDoorNyA
import Derived.Test.YtpkaekokkhecmaaGreatDoorIyA
import Derived.Test.YtpkaekokkhecmaaGreatDoorLxAll
import Derived.Deep.RegionHeld3
import Derived.Lib.Builder
import Derived.Shelf.Strings.Builder1
import Derived.Lib.UnsafeStr
import Derived.Test.YtpkaekokkhecmaaGreatDoorTrLAll
namespace Go.Proofs.YtpkaekokkhecmaaGreatDoor
open Go.RowKit Te
set_option linter.unusedSimpArgs false
set_option linter.unusedVariables false

/-- The text of a literal. -/
def txS (vt vb : Int) : Bs := if vt = 1 then Lib.itoa vb else if vt = 2 then F.textS vb else if vb = 0 then [102, 97, 108, 115, 101] else [116, 114, 117, 101]
theorem kb_fr {w w' : World} (h : F.Kb w w') : Fr (fun _ => False) w w' := fr_of_kept h.1 h.2
theorem kb_frD {w w' : World} (h : D.Kb w w') : Fr (fun _ => False) w w' := fr_of_kept h.1 h.2
set_option maxRecDepth 20000 in
set_option maxHeartbeats 1000000 in
theorem lit_text (vt vb : Int) (hb0 : 0 ≤ vb) (hb1 : vb < 18446744073709551616) (h1 : vt = 1 → vb < 9223372036854775808) (w : World) (ht : F.Tab w) :
    Calls Tryz.prog 73 #[.agg #[ci vt, .int .u64 vb]] w fun e w' => e = .returned (ct (txS vt vb)) ∧ Fr (fun _ => False) w w' := by
  have f0 := Fr.alloc (fun _ => False) w (.cells #[ci vt, .int .u64 vb] 24)
  by_cases e1 : vt = 1
  · subst e1
    have hlt := h1 rfl
    have kd := D.dec_any vb ⟨by omega, by omega⟩ _ (tab_fr ht f0)
    clear h1
    go_enter Tryz.func73, Tryz.ntmps73
    go_wp2_with fail
    go_at_call 96
    refine kd.mono ?_
    rintro e w1 ⟨rfl, f1⟩
    go_wp2_with fail
    go_ret
    exact ⟨rfl, f0.same (kb_frD f1)⟩
  · have n1 : (vt == 1) = false := by simp [e1]
    by_cases e2 : vt = 2
    · subst e2
      have kd := F.text_any vb ⟨by omega, by omega⟩ _ (tab_fr ht f0)
      clear h1
      go_enter Tryz.func73, Tryz.ntmps73
      go_wp2_with fail
      go_at_call 93
      refine kd.mono ?_
      rintro e w1 ⟨rfl, f1⟩
      go_wp2_with fail
      go_ret
      exact ⟨rfl, f0.same (kb_fr f1)⟩
    · have n2 : (vt == 2) = false := by simp [e2]
      clear h1
      by_cases e3 : vb = 0
      · subst e3
        go_enter Tryz.func73, Tryz.ntmps73
        go_wp2_with fail
        go_ret
        exact ⟨by simp [txS, e1, e2], f0⟩
      · have n3 : (vb == 0) = false := by simp [e3]
        go_enter Tryz.func73, Tryz.ntmps73
        go_wp2_with fail
        go_ret
        exact ⟨by simp [txS, e1, e2, e3], f0⟩
theorem mark_text (op : Int) (r : Bs) (hr : Hidden (Te.mark op = r)) (w : World) : Calls Tryz.prog 78 #[ci op] w fun e w' => e = .returned (ct r) ∧ w' = w := by
  go_enter Tryz.func78, Tryz.ntmps78
  go_wp2
  all_goals (go_ret; refine ⟨?_, rfl⟩; rw [← (show Te.mark op = r from hr)]; clear hr)
  all_goals (simp only [beq_iff_eq, beq_eq_false_iff_ne, ne_eq] at *; simp [Te.mark, *])

/-- A builder's call behind another one. -/
theorem bs_trans {B b : Nat} {w w1 w2 : World} (h : Fr (BS B b w) w w1) (g : Fr (BS B b w1) w1 w2) : Fr (BS B b w) w w2 := by
  refine h.trans g (fun k hk hb => ?_)
  rcases hb with hb | ⟨h1, cur, fr, h2⟩
  · exact Or.inl hb
  · by_cases hS : BS B b w k
    · exact hS
    · exact Or.inr ⟨h1, cur, fr, by rw [← h.block k hk hS]; exact h2⟩
theorem bs_quiet {B b : Nat} {w w1 : World} (h : Fr (fun _ => False) w w1) : Fr (BS B b w) w w1 := h.mono (fun _ _ f => f.elim)
theorem bs_then {B b : Nat} {w w1 w2 : World} (h : Fr (fun _ => False) w w1) (g : Fr (BS B b w1) w1 w2) : Fr (BS B b w) w w2 := bs_trans (bs_quiet h) g
/-- What is no row of bytes and not the builder stays. -/
theorem bs_keep {B b : Nat} {w w1 : World} (h : Fr (BS B b w) w w1) {k : Nat} {cs : Array Value} {t : TypeId} {fr : Nat × Nat} (hk : w.heap[k]? = some (.cells cs t fr)) (hb : k ≠ b) (ht : t ≠ 5) : w1.heap[k]? = some (.cells cs t fr) := by
  refine h.heap hk (fun hS => ?_)
  rcases hS with hS | ⟨_, cur, fr', h2⟩
  · exact hb hS
  · rw [hk] at h2
    simp only [Option.some.injEq, Obj.cells.injEq] at h2
    exact ht h2.2.1
theorem Bld.keepN {B b : Nat} {bs : List UInt8} {w w' : World} (h : Bld B b bs w) (hf : Fr (fun _ => False) w w') : Bld B b bs w' := by
  have key : ∀ {p : Value}, Bat B b p bs w → Bat B b p bs w' := by
    rintro p ⟨h1, v, hb, ho, hn⟩
    refine ⟨h1, v, hf.heap hb (fun f => f), ?_, hn⟩
    obtain ⟨g1, g2⟩ := ho
    refine ⟨g1, ?_⟩
    rcases g2 with h0 | ⟨g, cap, cur, rfl, hb', hg, hr⟩
    · exact Or.inl h0
    · exact Or.inr ⟨g, cap, cur, rfl, hb', hf.heap hg (fun f => f), hr⟩
  rcases h with h | h
  · exact Or.inl (key h)
  · exact Or.inr (key h)
/-- Where an expression is written: the tree lies ahead of the builder. -/
structure Wr (w0 : World) (B b : Nat) (acc : Bs) (w : World) : Prop where
  fr : Fr (fun _ => False) w0 w
  low : w0.heap.size ≤ B
  size : B ≤ w.heap.size
  bld : Bld B b acc w
theorem Wr.quiet {w0 w w' : World} {B b : Nat} {acc : Bs} (h : Wr w0 B b acc w) (f : Fr (fun _ => False) w w') : Wr w0 B b acc w' := ⟨h.fr.same f, h.low, Nat.le_trans h.size f.size, h.bld.keepN f⟩
theorem Wr.next {w0 w w' : World} {B b : Nat} {acc acc' : Bs} (h : Wr w0 B b acc w) (g : Fr (BS B b w) w w') (hb : Bat B b (.pointer (some ⟨b, 0, none⟩)) acc' w') : Wr w0 B b acc' w' :=
  ⟨bs_over h.fr g h.low h.bld.low, h.low, Nat.le_trans h.size g.size, Or.inr hb⟩
/-- Behind a call that wrote. -/
def Wrote (w0 : World) (B b : Nat) (acc : Bs) (w : World) (w' : World) : Prop := Wr w0 B b acc w' ∧ Fr (BS B b w) w w'
end Go.Proofs.YtpkaekokkhecmaaGreatDoor

namespace Go.Proofs.YtpkaekokkhecmaaGreatDoor
open Go.RowKit Te
set_option linter.unusedSimpArgs false
set_option linter.unusedVariables false

abbrev bp (b : Nat) : Value := .pointer (some ⟨b, 0, none⟩)
theorem wr_str (w0 : World) (B b : Nat) (acc s : Bs) (w : World) (h : Wr w0 B b acc w) (hl : (acc ++ s).length ≤ 140737488355328) :
    Calls Tryz.prog 72 #[bp b, ct s] w fun e w' => e = .returned (.tuple #[.int .i64 (s.length : Int), .nilIface]) ∧ Wrote w0 B b (acc ++ s) w w' :=
  (wstr_any B b acc s w h.bld (by rw [List.length_append] at hl; omega) h.size).mono fun e w' ⟨h1, h2, h3⟩ => ⟨h1, h.next h3 h2, h3⟩
theorem wr_byte (w0 : World) (B b : Nat) (acc : Bs) (c : UInt8) (n : Int) (hn : (c.toNat : Int) = n) (w : World) (h : Wr w0 B b acc w) (hl : (acc ++ [c]).length ≤ 140737488355328) :
    Calls Tryz.prog 42 #[bp b, .int .u8 n] w fun e w' => e = .returned .nilIface ∧ Wrote w0 B b (acc ++ [c]) w w' := by
  subst hn
  exact (wbyte_any B b acc c w h.bld (by simpa using hl) h.size).mono fun e w' ⟨h1, h2, h3⟩ => ⟨h1, h.next h3 h2, h3⟩

/-- What a right expression has. -/
def ShE (h : EH) (n : Nat) : Prop :=
  (h.kind = 1 ∧ (h.vt = 1 → h.vb < 9223372036854775808) ∧ n = 0) ∨ (h.kind = 2 ∧ n = 0) ∨ (h.kind = 3 ∧ n = 0) ∨ h.kind = 4 ∨ h.kind = 5 ∨ (h.kind = 6 ∧ 1 ≤ h.op ∧ h.op ≤ 4 ∧ n = 1) ∨ (h.kind = 7 ∧ 1 ≤ h.op ∧ h.op ≤ 13 ∧ n = 2) ∨ (h.kind = 8 ∧ n = 0)
def ShL : Exs → Prop
  | .nil => True
  | .cons h k r => ShE h k.len ∧ ShL k ∧ ShL r
/-- The contract of writing at a level. -/
def WX (h : EH) (k : Exs) : Prop := ∀ (least : Int) (acc : Bs) (w0 w : World) (B b : Nat) (ao : Option Addr) (cap : Nat), OkE h → OkX k → ShE h k.len → ShL k → ExL w0 ao cap k → F.Tab w0 → Wr w0 B b acc w →
  (acc ++ txA txS h k least).length ≤ 140737488355328 →
  Calls Tryz.prog 22 #[bp b, exV h (.slice ao k.len cap), ci least] w fun e w' => e = .returned (.tuple #[]) ∧ Wrote w0 B b (acc ++ txA txS h k least) w w'
theorem ne_bld {w : World} {B b : Nat} {bs : Bs} (h : Bld B b bs w) : w.heap.size ≠ b := by have := h.lt; omega

set_option maxRecDepth 20000 in
set_option maxHeartbeats 4000000 in
theorem kid_w (h : EH) (n : Nat) (h' : EH) (k' r' : Exs) (ih : WX h' k') (i : Nat) (hi : i < n) (acc : Bs) (w0 w : World) (B b : Nat) (ao : Option Addr) (cap : Nat) (hn : n ≤ cap) (hcap : cap ≤ 9223372036854775807) (ho : OkE h') (hx : OkX k') (hs : ShE h' k'.len) (hsl : ShL k')
    (hr : ExR w0 ao i (.cons h' k' r')) (ht : F.Tab w0) (hw : Wr w0 B b acc w) (hl : (acc ++ txA txS h' k' (kidL h (decide (i = 0)))).length ≤ 140737488355328) :
    Calls Tryz.prog 77 #[bp b, exV h (.slice ao n cap), ci (i : Int)] w fun e w' => e = .returned (.tuple #[]) ∧ Wrote w0 B b (acc ++ txA txS h' k' (kidL h (decide (i = 0)))) w w' := by
  obtain ⟨q, off, ao', cap', rfl, hL, hrow2, d0, d1, d2, d3, d4, d5, d6⟩ := hr.next
  have f0 := Fr.alloc (fun _ => False) w (.cells #[ci h.kind, ci h.op, ct h.mod, ct h.name, ci h.vt, .int .u64 h.vb, .slice (some ⟨q, off, none⟩) n cap] 27)
  have hbx : Hidden ((w.alloc (.cells #[ci h.kind, ci h.op, ct h.mod, ct h.name, ci h.vt, .int .u64 h.vb, .slice (some ⟨q, off, none⟩) n cap] 27)).heap[w.heap.size]? = some (.cells #[ci h.kind, ci h.op, ct h.mod, ct h.name, ci h.vt, .int .u64 h.vb, .slice (some ⟨q, off, none⟩) n cap] 27 (0, 0))) := alloc_new _ _
  have kk := fun w => kp_any h (.slice (some ⟨q, off, none⟩) n cap) ⟨_, _, _, rfl⟩ i _ _ rfl rfl w
  unfold WX at ih
  go_enter Tryz.func77, Tryz.ntmps77
  go_wp2_with fail
  go_at_call 37
  refine (kk _).mono ?_
  rintro e w1 ⟨rfl, f1⟩
  obtain ⟨c0, c1, c2, c3, c4, c5, c6⟩ := ex_box (f1.heap hbx (fun f => f))
  have g1 := f0.same f1
  have hw1 := hw.quiet g1
  have d0 := hw1.fr.cellN d0
  have d1 := hw1.fr.cellN d1
  have d2 := hw1.fr.cellN d2
  have d3 := hw1.fr.cellN d3
  have d4 := hw1.fr.cellN d4
  have d5 := hw1.fr.cellN d5
  have d6 := hw1.fr.cellN d6
  go_wp2_with fail
  go_at_call 22
  refine (ih _ acc w0 _ B b ao' cap' ho hx hs hsl hL ht hw1 hl).mono ?_
  rintro e w2 ⟨rfl, h2, f2⟩
  go_wp2_with fail
  go_end0
  exact ⟨rfl, h2, bs_then g1 f2⟩
end Go.Proofs.YtpkaekokkhecmaaGreatDoor

namespace Go.Proofs.YtpkaekokkhecmaaGreatDoor
open Go.RowKit Te
set_option linter.unusedSimpArgs false
set_option linter.unusedVariables false

theorem txK_cons (h h' : EH) (f : Bool) (k' r' : Exs) : txK txS h f (.cons h' k' r') = (if f then [] else sep h) ++ txA txS h' k' (kidL h f) ++ txK txS h false r' := rfl
abbrev exB (h : EH) (ao : Option Addr) (n cap : Nat) : Obj := .cells #[ci h.kind, ci h.op, ct h.mod, ct h.name, ci h.vt, .int .u64 h.vb, .slice ao n cap] 27 (0, 0)
set_option maxRecDepth 20000 in
set_option maxHeartbeats 4000000 in
theorem call_w (h : EH) (k : Exs) (hk7 : h.kind ≠ 7) (nm : Bs) (ih : ∀ h' k', k'.size < k.size → WX h' k') (acc T : Bs) (w0 w : World) (B b : Nat) (ao : Option Addr) (cap : Nat) (hx : OkX k) (hsl : ShL k)
    (hk : ExL w0 ao cap k) (ht : F.Tab w0) (hw : Wr w0 B b acc w) (hT : Hidden (acc ++ nm ++ [40] ++ txK txS h true k ++ [41] = T)) (hl : T.length ≤ 140737488355328) :
    Calls Tryz.prog 75 #[bp b, ct nm, exV h (.slice ao k.len cap)] w fun e w' => e = .returned (.tuple #[]) ∧ Wrote w0 B b T w w' := by
  have hmax : cap ≤ 9223372036854775807 := by have := hk.2.1; unfold maxLen at this; omega
  have hcap := hk.1
  have f0 := Fr.alloc (fun _ => False) w (exB h ao k.len cap)
  have hbx : Hidden ((w.alloc (exB h ao k.len cap)).heap[w.heap.size]? = some (exB h ao k.len cap)) := alloc_new _ _
  have hne := ne_bld hw.bld
  have hl1 : (acc ++ nm ++ [40]).length + (txK txS h true k ++ [41]).length ≤ 140737488355328 := by
    rw [← List.length_append]
    rw [← (show _ = T from hT)] at hl
    simpa using hl
  have hsep : sep h = [44, 32] := by simp [sep, hk7]
  go_enter Tryz.func75, Tryz.ntmps75
  go_wp2_with fail
  go_at_call 72
  refine (wr_str w0 B b acc nm _ (hw.quiet f0) (by simp only [List.length_append] at hl1 ⊢; omega)).mono ?_
  rintro e w1 ⟨rfl, h1, f1⟩
  go_wp2_with fail
  go_at_call 42
  refine (wr_byte w0 B b _ 40 40 rfl _ h1 (by simp only [List.length_append] at hl1 ⊢; omega)).mono ?_
  rintro e w2 ⟨rfl, h2, f2⟩
  have x2 : w2.heap[w.heap.size]? = some (exB h ao k.len cap) := bs_keep f2 (bs_keep f1 hbx hne (by decide)) hne (by decide)
  have g2 : Fr (BS B b w) w w2 := bs_then f0 (bs_trans f1 f2)
  obtain ⟨c0, c1, c2, c3, c4, c5, c6⟩ := ex_box x2
  go_wp2_with fail
  clear c0 c1 c2 c3 c4 c5 c6
  go_loopg [15] k.len (fun g iv wr => ∃ (i : Nat) (r : Exs) (ac : Bs), iv = ci (i : Int) ∧ i + r.len = k.len ∧ r.size ≤ k.size ∧ OkX r ∧ ShL r ∧ ExR w0 ao i r ∧ ac ++ txK txS h (decide (i = 0)) r ++ [41] = T ∧ g = r.len ∧ Wr w0 B b ac wr ∧ Fr (BS B b w) w wr ∧ wr.heap[w.heap.size]? = some (exB h ao k.len cap))
  case atStart => exact ⟨0, k, _, rfl, by omega, Nat.le_refl _, hx, hsl, hk.rest, hT, rfl, h2, g2, x2⟩
  case round =>
    obtain ⟨i, r, ac, rfl, hlen2, hsize, hok, hsh, hrow, hdk, hgk, hwr, hfr, hbw⟩ := hrel
    have hgkH : Hidden (gk = r.len) := hgk
    have hdkH : Hidden (ac ++ txK txS h (decide (i = 0)) r ++ [41] = T) := hdk
    have hlenH : Hidden (i + r.len = k.len) := hlen2
    clear hgk hdk hlen2 hT
    cases r with
    | nil =>
      have hi : i = k.len := hlenH
      subst hi
      have hT2 : ac ++ [41] = T := by have : ac ++ [] ++ [41] = T := hdkH; simpa using this
      go_wp2_with fail
      go_at_call 42
      refine (wr_byte w0 B b ac 41 41 rfl _ hwr (by rw [hT2]; exact hl)).mono ?_
      rw [hT2]
      rintro e w3 ⟨rfl, h3, f3⟩
      go_wp2_with fail
      go_end0
      exact ⟨rfl, h3, bs_trans hfr f3⟩
    | cons h' k' r' =>
      have hil : i < k.len := by have : i + (r'.len + 1) = k.len := hlenH; omega
      obtain ⟨ok1, ok2, ok3⟩ := hok
      obtain ⟨sh1, sh2, sh3⟩ := hsh
      simp only [Exs.size] at hsize
      have hrow2 : ExR w0 ao (i + 1) r' := by obtain ⟨_, _, _, _, _, _, hh, _⟩ := hrow.next; exact hh
      obtain ⟨c0, c1, c2, c3, c4, c5, c6⟩ := ex_box hbw
      by_cases h0 : i = 0
      · subst h0
        have hT2 : Hidden (ac ++ txA txS h' k' (kidL h true) ++ (txK txS h false r' ++ [41]) = T) := by
          have : ac ++ ([] ++ txA txS h' k' (kidL h true) ++ txK txS h false r') ++ [41] = T := hdkH
          show _ = T
          rw [← this]
          simp
        have hlk : (ac ++ txA txS h' k' (kidL h true)).length ≤ 140737488355328 := by
          rw [← (show _ = T from hT2), List.length_append] at hl
          omega
        have kk := kid_w h k.len h' k' r' (ih h' k' (by omega)) 0 (by omega) ac w0 wr B b ao cap hcap hmax ok1 ok2 sh1 sh2 hrow ht hwr hlk
        clear hdkH
        go_wp2_with fail
        go_at_call 77
        refine kk.mono ?_
        rintro e w3 ⟨rfl, h3, f3⟩
        go_wp2_with fail
        go_roundg r'.len
        case measure =>
          have : gk = r'.len + 1 := hgkH
          omega
        case rel =>
          refine ⟨1, r', _, by go_num, ?_, by omega, ok3, sh3, hrow2, ?_, rfl, h3, bs_trans hfr f3, bs_keep f3 hbw hne (by decide)⟩
          · have : 0 + (r'.len + 1) = k.len := hlenH
            omega
          · rw [← (show _ = T from hT2)]
            simp
      · have hpos : 0 < i := by omega
        have hT2 : Hidden (ac ++ [44, 32] ++ txA txS h' k' (kidL h false) ++ (txK txS h false r' ++ [41]) = T) := by
          have e1 : decide (i = 0) = false := by simp [h0]
          have e2 := (show ac ++ txK txS h (decide (i = 0)) (.cons h' k' r') ++ [41] = T from hdkH)
          rw [e1, txK_cons, hsep] at e2
          show _ = T
          rw [← e2]
          simp
        have hlk : (ac ++ [44, 32] ++ txA txS h' k' (kidL h false)).length ≤ 140737488355328 := by
          rw [← (show _ = T from hT2), List.length_append] at hl
          omega
        have hlk2 : (ac ++ [44, 32]).length ≤ 140737488355328 := by rw [List.length_append] at hlk; omega
        have e1 : decide (i = 0) = false := by simp [h0]
        have kk := fun (w1 : World) (h1 : Wr w0 B b (ac ++ [44, 32]) w1) => kid_w h k.len h' k' r' (ih h' k' (by omega)) i hil (ac ++ [44, 32]) w0 w1 B b ao cap hcap hmax ok1 ok2 sh1 sh2 hrow ht h1 (by rw [e1]; exact hlk)
        rw [e1] at kk
        clear hdkH h0 e1
        go_wp2_with fail
        go_at_call 72
        refine (wr_str w0 B b ac [44, 32] _ hwr hlk2).mono ?_
        rintro e w2' ⟨rfl, h2', f2'⟩
        have hbw2 := bs_keep f2' hbw hne (by decide)
        obtain ⟨c0, c1, c2, c3, c4, c5, c6⟩ := ex_box hbw2
        go_wp2_with fail
        go_at_call 77
        refine (kk _ h2').mono ?_
        rintro e w3 ⟨rfl, h3, f3⟩
        go_wp2_with fail
        go_roundg r'.len
        case measure =>
          have : gk = r'.len + 1 := hgkH
          omega
        case rel =>
          refine ⟨i + 1, r', _, by go_num, ?_, by omega, ok3, sh3, hrow2, ?_, rfl, h3, bs_trans hfr (bs_trans f2' f3), bs_keep f3 hbw2 hne (by decide)⟩
          · have : i + (r'.len + 1) = k.len := hlenH
            omega
          · rw [← (show _ = T from hT2), show decide (i + 1 = 0) = false by simp]
            simp
end Go.Proofs.YtpkaekokkhecmaaGreatDoor

namespace Go.Proofs.YtpkaekokkhecmaaGreatDoor
open Go.RowKit Te
set_option linter.unusedSimpArgs false
set_option linter.unusedVariables false

theorem len_nil {k : Exs} (h : k.len = 0) : k = .nil := by
  cases k with
  | nil => rfl
  | cons h' k' r' => simp [Exs.len] at h
theorem bare_eq (h : EH) (k : Exs) : bare txS h k = pre txS h ++ txK txS h true k ++ post h := rfl
theorem txK_nil (h : EH) (f : Bool) : txK txS h f .nil = [] := rfl
theorem app_le {a b T : Bs} (h : a ++ b = T) (hl : T.length ≤ 140737488355328) : a.length ≤ 140737488355328 := by
  rw [← h, List.length_append] at hl
  omega
set_option maxRecDepth 20000 in
set_option maxHeartbeats 4000000 in
theorem one_1 (vt vb : Int) (mod name : Bs) (k : Exs) (ih : ∀ h' k', k'.size < k.size → WX h' k') (acc T : Bs) (w0 w : World) (B b : Nat) (ao : Option Addr) (cap : Nat) (hx : OkX k) (hsl : ShL k) (h1 : k.len = 1)
    (hk : ExL w0 ao cap k) (ht : F.Tab w0) (hw : Wr w0 B b acc w) (hT : Hidden (acc ++ bare txS ⟨6, 1, mod, name, vt, vb⟩ k = T)) (hl : T.length ≤ 140737488355328) :
    Calls Tryz.prog 76 #[bp b, exV ⟨6, 1, mod, name, vt, vb⟩ (.slice ao k.len cap)] w fun e w' => e = .returned (.tuple #[]) ∧ Wrote w0 B b T w w' := by
  have hmax : cap ≤ 9223372036854775807 := by have := hk.2.1; unfold maxLen at this; omega
  have hcap := hk.1
  have f0 := Fr.alloc (fun _ => False) w (exB ⟨6, 1, mod, name, vt, vb⟩ ao k.len cap)
  have hbx : Hidden ((w.alloc (exB ⟨6, 1, mod, name, vt, vb⟩ ao k.len cap)).heap[w.heap.size]? = some (exB ⟨6, 1, mod, name, vt, vb⟩ ao k.len cap)) := alloc_new _ _
  have hne := ne_bld hw.bld
  have hw1 := hw.quiet f0
  cases k with
  | nil => simp [Exs.len] at h1
  | cons h' k' r' =>
    obtain rfl : r' = .nil := len_nil (by simp only [Exs.len] at h1; omega)
    obtain ⟨ok1, ok2, ok3⟩ := hx
    obtain ⟨sh1, sh2, sh3⟩ := hsl
    have hT2 : Hidden (acc ++ [45] ++ txA txS h' k' 6 = T) := by
      show _ = T
      rw [← (show _ = T from hT)]
      rw [bare_eq, txK_cons, txK_nil]
      simp [pre, post, kidL]
    have hlk := app_le (show _ = T from hT2) hl
    have kk := fun (w1 : World) (h1 : Wr w0 B b (acc ++ [45]) w1) => kid_w ⟨6, 1, mod, name, vt, vb⟩ 1 h' k' .nil (ih h' k' (by simp [Exs.size])) 0 (by omega) (acc ++ [45]) w0 w1 B b ao cap (by simpa [Exs.len] using hcap) hmax ok1 ok2 sh1 sh2 hk.rest ht h1 (by rw [show kidL _ (decide (0 = 0)) = 6 by simp [kidL], show _ = T from hT2]; exact hl)
    rw [show kidL _ (decide (0 = 0)) = 6 by simp [kidL], show _ = T from hT2] at kk
    clear hT hT2
    simp only [Exs.len, Nat.zero_add] at hbx f0 hw1 hcap ⊢
    go_enter Tryz.func76, Tryz.ntmps76
    go_wp2_with fail
    go_at_call 42
    refine (wr_byte w0 B b acc 45 45 rfl _ hw1 hlk).mono ?_
    rintro e w2 ⟨rfl, h2, f2⟩
    obtain ⟨c0, c1, c2, c3, c4, c5, c6⟩ := ex_box (bs_keep f2 hbx hne (by decide))
    go_wp2_with fail
    go_at_call 77
    refine (kk _ h2).mono ?_
    rintro e w3 ⟨rfl, h3, f3⟩
    go_wp2_with fail
    go_end0
    exact ⟨rfl, h3, bs_then f0 (bs_trans f2 f3)⟩
set_option maxRecDepth 20000 in
set_option maxHeartbeats 4000000 in
theorem one_2 (vt vb : Int) (mod name : Bs) (k : Exs) (ih : ∀ h' k', k'.size < k.size → WX h' k') (acc T : Bs) (w0 w : World) (B b : Nat) (ao : Option Addr) (cap : Nat) (hx : OkX k) (hsl : ShL k) (h1 : k.len = 1)
    (hk : ExL w0 ao cap k) (ht : F.Tab w0) (hw : Wr w0 B b acc w) (hT : Hidden (acc ++ bare txS ⟨6, 2, mod, name, vt, vb⟩ k = T)) (hl : T.length ≤ 140737488355328) :
    Calls Tryz.prog 76 #[bp b, exV ⟨6, 2, mod, name, vt, vb⟩ (.slice ao k.len cap)] w fun e w' => e = .returned (.tuple #[]) ∧ Wrote w0 B b T w w' := by
  have hmax : cap ≤ 9223372036854775807 := by have := hk.2.1; unfold maxLen at this; omega
  have hcap := hk.1
  have f0 := Fr.alloc (fun _ => False) w (exB ⟨6, 2, mod, name, vt, vb⟩ ao k.len cap)
  have hbx : Hidden ((w.alloc (exB ⟨6, 2, mod, name, vt, vb⟩ ao k.len cap)).heap[w.heap.size]? = some (exB ⟨6, 2, mod, name, vt, vb⟩ ao k.len cap)) := alloc_new _ _
  have hne := ne_bld hw.bld
  have hw1 := hw.quiet f0
  cases k with
  | nil => simp [Exs.len] at h1
  | cons h' k' r' =>
    obtain rfl : r' = .nil := len_nil (by simp only [Exs.len] at h1; omega)
    obtain ⟨ok1, ok2, ok3⟩ := hx
    obtain ⟨sh1, sh2, sh3⟩ := hsl
    have hT2 : Hidden (acc ++ [33] ++ txA txS h' k' 6 = T) := by
      show _ = T
      rw [← (show _ = T from hT)]
      rw [bare_eq, txK_cons, txK_nil]
      simp [pre, post, kidL]
    have hlk := app_le (show _ = T from hT2) hl
    have kk := fun (w1 : World) (h1 : Wr w0 B b (acc ++ [33]) w1) => kid_w ⟨6, 2, mod, name, vt, vb⟩ 1 h' k' .nil (ih h' k' (by simp [Exs.size])) 0 (by omega) (acc ++ [33]) w0 w1 B b ao cap (by simpa [Exs.len] using hcap) hmax ok1 ok2 sh1 sh2 hk.rest ht h1 (by rw [show kidL _ (decide (0 = 0)) = 6 by simp [kidL], show _ = T from hT2]; exact hl)
    rw [show kidL _ (decide (0 = 0)) = 6 by simp [kidL], show _ = T from hT2] at kk
    clear hT hT2
    simp only [Exs.len, Nat.zero_add] at hbx f0 hw1 hcap ⊢
    go_enter Tryz.func76, Tryz.ntmps76
    go_wp2_with fail
    go_at_call 42
    refine (wr_byte w0 B b acc 33 33 rfl _ hw1 hlk).mono ?_
    rintro e w2 ⟨rfl, h2, f2⟩
    obtain ⟨c0, c1, c2, c3, c4, c5, c6⟩ := ex_box (bs_keep f2 hbx hne (by decide))
    go_wp2_with fail
    go_at_call 77
    refine (kk _ h2).mono ?_
    rintro e w3 ⟨rfl, h3, f3⟩
    go_wp2_with fail
    go_end0
    exact ⟨rfl, h3, bs_then f0 (bs_trans f2 f3)⟩
set_option maxRecDepth 20000 in
set_option maxHeartbeats 4000000 in
theorem one_3 (vt vb : Int) (mod name : Bs) (k : Exs) (ih : ∀ h' k', k'.size < k.size → WX h' k') (acc T : Bs) (w0 w : World) (B b : Nat) (ao : Option Addr) (cap : Nat) (hx : OkX k) (hsl : ShL k)
    (hk : ExL w0 ao cap k) (ht : F.Tab w0) (hw : Wr w0 B b acc w) (hT : Hidden (acc ++ bare txS ⟨6, 3, mod, name, vt, vb⟩ k = T)) (hl : T.length ≤ 140737488355328) :
    Calls Tryz.prog 76 #[bp b, exV ⟨6, 3, mod, name, vt, vb⟩ (.slice ao k.len cap)] w fun e w' => e = .returned (.tuple #[]) ∧ Wrote w0 B b T w w' := by
  have hmax : cap ≤ 9223372036854775807 := by have := hk.2.1; unfold maxLen at this; omega
  have hcap := hk.1
  have f0 := Fr.alloc (fun _ => False) w (exB ⟨6, 3, mod, name, vt, vb⟩ ao k.len cap)
  have hbx : Hidden ((w.alloc (exB ⟨6, 3, mod, name, vt, vb⟩ ao k.len cap)).heap[w.heap.size]? = some (exB ⟨6, 3, mod, name, vt, vb⟩ ao k.len cap)) := alloc_new _ _
  have hne := ne_bld hw.bld
  have hw1 := hw.quiet f0
  have hT2 : Hidden (acc ++ [105, 110, 116] ++ [40] ++ txK txS ⟨6, 3, mod, name, vt, vb⟩ true k ++ [41] = T) := by
    show _ = T
    rw [← (show _ = T from hT)]
    simp [bare_eq, pre, post]
  have kc := call_w ⟨6, 3, mod, name, vt, vb⟩ k (by simp) [105, 110, 116] ih acc T w0 _ B b ao cap hx hsl hk ht hw1 hT2 hl
  clear hT hT2
  go_enter Tryz.func76, Tryz.ntmps76
  go_wp2_with fail
  go_at_call 75
  refine kc.mono ?_
  rintro e w3 ⟨rfl, h3, f3⟩
  go_wp2_with fail
  go_end0
  exact ⟨rfl, h3, bs_then f0 f3⟩
set_option maxRecDepth 20000 in
set_option maxHeartbeats 4000000 in
theorem one_4 (vt vb : Int) (mod name : Bs) (k : Exs) (ih : ∀ h' k', k'.size < k.size → WX h' k') (acc T : Bs) (w0 w : World) (B b : Nat) (ao : Option Addr) (cap : Nat) (hx : OkX k) (hsl : ShL k)
    (hk : ExL w0 ao cap k) (ht : F.Tab w0) (hw : Wr w0 B b acc w) (hT : Hidden (acc ++ bare txS ⟨6, 4, mod, name, vt, vb⟩ k = T)) (hl : T.length ≤ 140737488355328) :
    Calls Tryz.prog 76 #[bp b, exV ⟨6, 4, mod, name, vt, vb⟩ (.slice ao k.len cap)] w fun e w' => e = .returned (.tuple #[]) ∧ Wrote w0 B b T w w' := by
  have hmax : cap ≤ 9223372036854775807 := by have := hk.2.1; unfold maxLen at this; omega
  have hcap := hk.1
  have f0 := Fr.alloc (fun _ => False) w (exB ⟨6, 4, mod, name, vt, vb⟩ ao k.len cap)
  have hbx : Hidden ((w.alloc (exB ⟨6, 4, mod, name, vt, vb⟩ ao k.len cap)).heap[w.heap.size]? = some (exB ⟨6, 4, mod, name, vt, vb⟩ ao k.len cap)) := alloc_new _ _
  have hne := ne_bld hw.bld
  have hw1 := hw.quiet f0
  have hT2 : Hidden (acc ++ [102, 108, 111, 97, 116] ++ [40] ++ txK txS ⟨6, 4, mod, name, vt, vb⟩ true k ++ [41] = T) := by
    show _ = T
    rw [← (show _ = T from hT)]
    simp [bare_eq, pre, post]
  have kc := call_w ⟨6, 4, mod, name, vt, vb⟩ k (by simp) [102, 108, 111, 97, 116] ih acc T w0 _ B b ao cap hx hsl hk ht hw1 hT2 hl
  clear hT hT2
  go_enter Tryz.func76, Tryz.ntmps76
  go_wp2_with fail
  go_at_call 75
  refine kc.mono ?_
  rintro e w3 ⟨rfl, h3, f3⟩
  go_wp2_with fail
  go_end0
  exact ⟨rfl, h3, bs_then f0 f3⟩
set_option maxRecDepth 20000 in
set_option maxHeartbeats 4000000 in
theorem bare_1 (op vt vb : Int) (mod name : Bs) (k : Exs) (ih : ∀ h' k', k'.size < k.size → WX h' k') (acc T : Bs) (w0 w : World) (B b : Nat) (ao : Option Addr) (cap : Nat) (hx : OkX k) (hsl : ShL k) (hb0 : 0 ≤ vb) (hb1 : vb < 18446744073709551616) (h1 : vt = 1 → vb < 9223372036854775808) (h0 : k.len = 0)
    (hk : ExL w0 ao cap k) (ht : F.Tab w0) (hw : Wr w0 B b acc w) (hT : Hidden (acc ++ bare txS ⟨1, op, mod, name, vt, vb⟩ k = T)) (hl : T.length ≤ 140737488355328) :
    Calls Tryz.prog 41 #[bp b, exV ⟨1, op, mod, name, vt, vb⟩ (.slice ao k.len cap)] w fun e w' => e = .returned (.tuple #[]) ∧ Wrote w0 B b T w w' := by
  have hmax : cap ≤ 9223372036854775807 := by have := hk.2.1; unfold maxLen at this; omega
  have hcap := hk.1
  have f0 := Fr.alloc (fun _ => False) w (exB ⟨1, op, mod, name, vt, vb⟩ ao k.len cap)
  have hbx : Hidden ((w.alloc (exB ⟨1, op, mod, name, vt, vb⟩ ao k.len cap)).heap[w.heap.size]? = some (exB ⟨1, op, mod, name, vt, vb⟩ ao k.len cap)) := alloc_new _ _
  have hne := ne_bld hw.bld
  have hw1 := hw.quiet f0
  obtain rfl : k = .nil := len_nil h0
  have kt := lit_text vt vb hb0 hb1 h1 _ (tab_fr ht hw1.fr)
  have hT2 : acc ++ txS vt vb = T := by
    rw [← (show _ = T from hT)]
    simp [bare_eq, pre, post, txK_nil]
  clear hT
  go_enter Tryz.func41, Tryz.ntmps41
  go_wp2_with fail
  go_at_call 73
  refine kt.mono ?_
  rintro e w1 ⟨rfl, f1⟩
  go_wp2_with fail
  go_at_call 72
  refine (wr_str w0 B b acc _ _ (hw1.quiet f1) (by rw [hT2]; exact hl)).mono ?_
  rw [hT2]
  rintro e w2 ⟨rfl, h2, f2⟩
  go_wp2_with fail
  go_end0
  exact ⟨rfl, h2, bs_then (f0.same f1) f2⟩
set_option maxRecDepth 20000 in
set_option maxHeartbeats 4000000 in
theorem bare_2 (op vt vb : Int) (mod name : Bs) (k : Exs) (ih : ∀ h' k', k'.size < k.size → WX h' k') (acc T : Bs) (w0 w : World) (B b : Nat) (ao : Option Addr) (cap : Nat) (hx : OkX k) (hsl : ShL k) (h0 : k.len = 0)
    (hk : ExL w0 ao cap k) (ht : F.Tab w0) (hw : Wr w0 B b acc w) (hT : Hidden (acc ++ bare txS ⟨2, op, mod, name, vt, vb⟩ k = T)) (hl : T.length ≤ 140737488355328) :
    Calls Tryz.prog 41 #[bp b, exV ⟨2, op, mod, name, vt, vb⟩ (.slice ao k.len cap)] w fun e w' => e = .returned (.tuple #[]) ∧ Wrote w0 B b T w w' := by
  have hmax : cap ≤ 9223372036854775807 := by have := hk.2.1; unfold maxLen at this; omega
  have hcap := hk.1
  have f0 := Fr.alloc (fun _ => False) w (exB ⟨2, op, mod, name, vt, vb⟩ ao k.len cap)
  have hbx : Hidden ((w.alloc (exB ⟨2, op, mod, name, vt, vb⟩ ao k.len cap)).heap[w.heap.size]? = some (exB ⟨2, op, mod, name, vt, vb⟩ ao k.len cap)) := alloc_new _ _
  have hne := ne_bld hw.bld
  have hw1 := hw.quiet f0
  obtain rfl : k = .nil := len_nil h0
  have hT2 : acc ++ name = T := by
    rw [← (show _ = T from hT)]
    simp [bare_eq, pre, post, txK_nil]
  clear hT
  go_enter Tryz.func41, Tryz.ntmps41
  go_wp2_with fail
  go_at_call 72
  refine (wr_str w0 B b acc name _ hw1 (by rw [hT2]; exact hl)).mono ?_
  rw [hT2]
  rintro e w2 ⟨rfl, h2, f2⟩
  go_wp2_with fail
  go_end0
  exact ⟨rfl, h2, bs_then f0 f2⟩
set_option maxRecDepth 20000 in
set_option maxHeartbeats 4000000 in
theorem bare_8 (op vt vb : Int) (mod name : Bs) (k : Exs) (ih : ∀ h' k', k'.size < k.size → WX h' k') (acc T : Bs) (w0 w : World) (B b : Nat) (ao : Option Addr) (cap : Nat) (hx : OkX k) (hsl : ShL k) (h0 : k.len = 0)
    (hk : ExL w0 ao cap k) (ht : F.Tab w0) (hw : Wr w0 B b acc w) (hT : Hidden (acc ++ bare txS ⟨8, op, mod, name, vt, vb⟩ k = T)) (hl : T.length ≤ 140737488355328) :
    Calls Tryz.prog 41 #[bp b, exV ⟨8, op, mod, name, vt, vb⟩ (.slice ao k.len cap)] w fun e w' => e = .returned (.tuple #[]) ∧ Wrote w0 B b T w w' := by
  have hmax : cap ≤ 9223372036854775807 := by have := hk.2.1; unfold maxLen at this; omega
  have hcap := hk.1
  have f0 := Fr.alloc (fun _ => False) w (exB ⟨8, op, mod, name, vt, vb⟩ ao k.len cap)
  have hbx : Hidden ((w.alloc (exB ⟨8, op, mod, name, vt, vb⟩ ao k.len cap)).heap[w.heap.size]? = some (exB ⟨8, op, mod, name, vt, vb⟩ ao k.len cap)) := alloc_new _ _
  have hne := ne_bld hw.bld
  have hw1 := hw.quiet f0
  obtain rfl : k = .nil := len_nil h0
  have hT2 : acc ++ [105, 110, 112, 117, 116] = T := by
    rw [← (show _ = T from hT)]
    simp [bare_eq, pre, post, txK_nil]
  clear hT
  go_enter Tryz.func41, Tryz.ntmps41
  go_wp2_with fail
  go_at_call 72
  refine (wr_str w0 B b acc [105, 110, 112, 117, 116] _ hw1 (by rw [hT2]; exact hl)).mono ?_
  rw [hT2]
  rintro e w2 ⟨rfl, h2, f2⟩
  go_wp2_with fail
  go_end0
  exact ⟨rfl, h2, bs_then f0 f2⟩
set_option maxRecDepth 20000 in
set_option maxHeartbeats 4000000 in
theorem bare_3 (op vt vb : Int) (mod name : Bs) (k : Exs) (ih : ∀ h' k', k'.size < k.size → WX h' k') (acc T : Bs) (w0 w : World) (B b : Nat) (ao : Option Addr) (cap : Nat) (hx : OkX k) (hsl : ShL k) (h0 : k.len = 0)
    (hk : ExL w0 ao cap k) (ht : F.Tab w0) (hw : Wr w0 B b acc w) (hT : Hidden (acc ++ bare txS ⟨3, op, mod, name, vt, vb⟩ k = T)) (hl : T.length ≤ 140737488355328) :
    Calls Tryz.prog 41 #[bp b, exV ⟨3, op, mod, name, vt, vb⟩ (.slice ao k.len cap)] w fun e w' => e = .returned (.tuple #[]) ∧ Wrote w0 B b T w w' := by
  have hmax : cap ≤ 9223372036854775807 := by have := hk.2.1; unfold maxLen at this; omega
  have hcap := hk.1
  have f0 := Fr.alloc (fun _ => False) w (exB ⟨3, op, mod, name, vt, vb⟩ ao k.len cap)
  have hbx : Hidden ((w.alloc (exB ⟨3, op, mod, name, vt, vb⟩ ao k.len cap)).heap[w.heap.size]? = some (exB ⟨3, op, mod, name, vt, vb⟩ ao k.len cap)) := alloc_new _ _
  have hne := ne_bld hw.bld
  have hw1 := hw.quiet f0
  have hfar : mod.length + name.length + 1 ≤ 9223372036854775807 := by
    rw [← (show _ = T from hT)] at hl
    simp only [bare_eq, pre, List.length_append] at hl
    simp at hl
    omega
  have kfar := fun w => N.far_any mod name hfar w
  obtain rfl : k = .nil := len_nil h0
  have hT2 : acc ++ (mod ++ 46 :: name) = T := by
    rw [← (show _ = T from hT)]
    simp [bare_eq, pre, post, txK_nil]
  clear hT
  go_enter Tryz.func41, Tryz.ntmps41
  go_wp2_with fail
  go_at_call 74
  refine (kfar _).mono ?_
  rintro e w1 ⟨rfl, rfl⟩
  go_wp2_with fail
  go_at_call 72
  refine (wr_str w0 B b acc (mod ++ 46 :: name) _ hw1 (by rw [hT2]; exact hl)).mono ?_
  rw [hT2]
  rintro e w2 ⟨rfl, h2, f2⟩
  go_wp2_with fail
  go_end0
  exact ⟨rfl, h2, bs_then f0 f2⟩
set_option maxRecDepth 20000 in
set_option maxHeartbeats 4000000 in
theorem bare_4 (op vt vb : Int) (mod name : Bs) (k : Exs) (ih : ∀ h' k', k'.size < k.size → WX h' k') (acc T : Bs) (w0 w : World) (B b : Nat) (ao : Option Addr) (cap : Nat) (hx : OkX k) (hsl : ShL k)
    (hk : ExL w0 ao cap k) (ht : F.Tab w0) (hw : Wr w0 B b acc w) (hT : Hidden (acc ++ bare txS ⟨4, op, mod, name, vt, vb⟩ k = T)) (hl : T.length ≤ 140737488355328) :
    Calls Tryz.prog 41 #[bp b, exV ⟨4, op, mod, name, vt, vb⟩ (.slice ao k.len cap)] w fun e w' => e = .returned (.tuple #[]) ∧ Wrote w0 B b T w w' := by
  have hmax : cap ≤ 9223372036854775807 := by have := hk.2.1; unfold maxLen at this; omega
  have hcap := hk.1
  have f0 := Fr.alloc (fun _ => False) w (exB ⟨4, op, mod, name, vt, vb⟩ ao k.len cap)
  have hbx : Hidden ((w.alloc (exB ⟨4, op, mod, name, vt, vb⟩ ao k.len cap)).heap[w.heap.size]? = some (exB ⟨4, op, mod, name, vt, vb⟩ ao k.len cap)) := alloc_new _ _
  have hne := ne_bld hw.bld
  have hw1 := hw.quiet f0
  have hT2 : Hidden (acc ++ name ++ [40] ++ txK txS ⟨4, op, mod, name, vt, vb⟩ true k ++ [41] = T) := by
    show _ = T
    rw [← (show _ = T from hT)]
    simp [bare_eq, pre, post]
  have kc := call_w ⟨4, op, mod, name, vt, vb⟩ k (by simp) name ih acc T w0 _ B b ao cap hx hsl hk ht hw1 hT2 hl
  clear hT hT2
  go_enter Tryz.func41, Tryz.ntmps41
  go_wp2_with fail
  go_at_call 75
  refine kc.mono ?_
  rintro e w3 ⟨rfl, h3, f3⟩
  go_wp2_with fail
  go_end0
  exact ⟨rfl, h3, bs_then f0 f3⟩
set_option maxRecDepth 20000 in
set_option maxHeartbeats 4000000 in
theorem bare_5 (op vt vb : Int) (mod name : Bs) (k : Exs) (ih : ∀ h' k', k'.size < k.size → WX h' k') (acc T : Bs) (w0 w : World) (B b : Nat) (ao : Option Addr) (cap : Nat) (hx : OkX k) (hsl : ShL k)
    (hk : ExL w0 ao cap k) (ht : F.Tab w0) (hw : Wr w0 B b acc w) (hT : Hidden (acc ++ bare txS ⟨5, op, mod, name, vt, vb⟩ k = T)) (hl : T.length ≤ 140737488355328) :
    Calls Tryz.prog 41 #[bp b, exV ⟨5, op, mod, name, vt, vb⟩ (.slice ao k.len cap)] w fun e w' => e = .returned (.tuple #[]) ∧ Wrote w0 B b T w w' := by
  have hmax : cap ≤ 9223372036854775807 := by have := hk.2.1; unfold maxLen at this; omega
  have hcap := hk.1
  have f0 := Fr.alloc (fun _ => False) w (exB ⟨5, op, mod, name, vt, vb⟩ ao k.len cap)
  have hbx : Hidden ((w.alloc (exB ⟨5, op, mod, name, vt, vb⟩ ao k.len cap)).heap[w.heap.size]? = some (exB ⟨5, op, mod, name, vt, vb⟩ ao k.len cap)) := alloc_new _ _
  have hne := ne_bld hw.bld
  have hw1 := hw.quiet f0
  have hfar : mod.length + name.length + 1 ≤ 9223372036854775807 := by
    rw [← (show _ = T from hT)] at hl
    simp only [bare_eq, pre, List.length_append] at hl
    simp at hl
    omega
  have kfar := fun w => N.far_any mod name hfar w
  have hT2 : Hidden (acc ++ (mod ++ 46 :: name) ++ [40] ++ txK txS ⟨5, op, mod, name, vt, vb⟩ true k ++ [41] = T) := by
    show _ = T
    rw [← (show _ = T from hT)]
    simp [bare_eq, pre, post]
  have kc := fun (w1 : World) (h1 : Wr w0 B b acc w1) => call_w ⟨5, op, mod, name, vt, vb⟩ k (by simp) (mod ++ 46 :: name) ih acc T w0 w1 B b ao cap hx hsl hk ht h1 hT2 hl
  clear hT hT2
  go_enter Tryz.func41, Tryz.ntmps41
  go_wp2_with fail
  go_region_held3 (fun w' => w'.cell? ⟨w.heap.size, 0, none⟩ = some (ci 5) ∧ w'.cell? ⟨w.heap.size, 1, none⟩ = some (ci op) ∧ w'.cell? ⟨w.heap.size, 2, none⟩ = some (ct mod) ∧ w'.cell? ⟨w.heap.size, 3, none⟩ = some (ct name) ∧ w'.cell? ⟨w.heap.size, 4, none⟩ = some (ci vt) ∧ w'.cell? ⟨w.heap.size, 5, none⟩ = some (.int .u64 vb) ∧ w'.cell? ⟨w.heap.size, 6, none⟩ = some (.slice ao k.len cap)) (go_keep) (first
    | (go_at_call 74; refine (kfar _).mono ?_; rintro e w1 ⟨rfl, rfl⟩)
    | (go_at_call 75; refine (kc _ (hw1.quiet (Fr.drew _ _))).mono ?_; rintro e w3 ⟨rfl, h3, f3⟩; obtain ⟨x0, x1, x2, x3, x4, x5, x6⟩ := ex_box (bs_keep f3 ((Fr.drew (fun _ => False) _).heap hbx (fun f => f)) hne (by decide))))
  all_goals
    go_wp2_with fail
    go_end0
    exact ⟨rfl, h3, bs_then (f0.same (Fr.drew _ _)) f3⟩
set_option maxRecDepth 20000 in
set_option maxHeartbeats 4000000 in
theorem bare_6 (op vt vb : Int) (mod name : Bs) (k : Exs) (ih : ∀ h' k', k'.size < k.size → WX h' k') (acc T : Bs) (w0 w : World) (B b : Nat) (ao : Option Addr) (cap : Nat) (hx : OkX k) (hsl : ShL k) (o1 : 1 ≤ op) (o2 : op ≤ 4) (h1 : k.len = 1)
    (hk : ExL w0 ao cap k) (ht : F.Tab w0) (hw : Wr w0 B b acc w) (hT : Hidden (acc ++ bare txS ⟨6, op, mod, name, vt, vb⟩ k = T)) (hl : T.length ≤ 140737488355328) :
    Calls Tryz.prog 41 #[bp b, exV ⟨6, op, mod, name, vt, vb⟩ (.slice ao k.len cap)] w fun e w' => e = .returned (.tuple #[]) ∧ Wrote w0 B b T w w' := by
  have hmax : cap ≤ 9223372036854775807 := by have := hk.2.1; unfold maxLen at this; omega
  have hcap := hk.1
  have f0 := Fr.alloc (fun _ => False) w (exB ⟨6, op, mod, name, vt, vb⟩ ao k.len cap)
  have hbx : Hidden ((w.alloc (exB ⟨6, op, mod, name, vt, vb⟩ ao k.len cap)).heap[w.heap.size]? = some (exB ⟨6, op, mod, name, vt, vb⟩ ao k.len cap)) := alloc_new _ _
  have hne := ne_bld hw.bld
  have hw1 := hw.quiet f0
  have kc : Calls Tryz.prog 76 #[bp b, exV ⟨6, op, mod, name, vt, vb⟩ (.slice ao k.len cap)] (w.alloc (exB ⟨6, op, mod, name, vt, vb⟩ ao k.len cap)) fun e w' => e = .returned (.tuple #[]) ∧ Wrote w0 B b T (w.alloc (exB ⟨6, op, mod, name, vt, vb⟩ ao k.len cap)) w' := by
    obtain rfl | rfl | rfl | rfl : op = 1 ∨ op = 2 ∨ op = 3 ∨ op = 4 := by omega
    · exact one_1 vt vb mod name k ih acc T w0 _ B b ao cap hx hsl h1 hk ht hw1 hT hl
    · exact one_2 vt vb mod name k ih acc T w0 _ B b ao cap hx hsl h1 hk ht hw1 hT hl
    · exact one_3 vt vb mod name k ih acc T w0 _ B b ao cap hx hsl hk ht hw1 hT hl
    · exact one_4 vt vb mod name k ih acc T w0 _ B b ao cap hx hsl hk ht hw1 hT hl
  clear hT h1 o1 o2 ih
  go_enter Tryz.func41, Tryz.ntmps41
  go_wp2_with fail
  go_at_call 76
  refine kc.mono ?_
  rintro e w3 ⟨rfl, h3, f3⟩
  go_wp2_with fail
  go_end0
  exact ⟨rfl, h3, bs_then f0 f3⟩
set_option maxRecDepth 20000 in
set_option maxHeartbeats 4000000 in
theorem bare_7 (op vt vb : Int) (mod name : Bs) (k : Exs) (ih : ∀ h' k', k'.size < k.size → WX h' k') (acc T : Bs) (w0 w : World) (B b : Nat) (ao : Option Addr) (cap : Nat) (hx : OkX k) (hsl : ShL k) (h2 : k.len = 2)
    (hk : ExL w0 ao cap k) (ht : F.Tab w0) (hw : Wr w0 B b acc w) (hT : Hidden (acc ++ bare txS ⟨7, op, mod, name, vt, vb⟩ k = T)) (hl : T.length ≤ 140737488355328) :
    Calls Tryz.prog 41 #[bp b, exV ⟨7, op, mod, name, vt, vb⟩ (.slice ao k.len cap)] w fun e w' => e = .returned (.tuple #[]) ∧ Wrote w0 B b T w w' := by
  have hmax : cap ≤ 9223372036854775807 := by have := hk.2.1; unfold maxLen at this; omega
  have hcap := hk.1
  have f0 := Fr.alloc (fun _ => False) w (exB ⟨7, op, mod, name, vt, vb⟩ ao k.len cap)
  have hbx : Hidden ((w.alloc (exB ⟨7, op, mod, name, vt, vb⟩ ao k.len cap)).heap[w.heap.size]? = some (exB ⟨7, op, mod, name, vt, vb⟩ ao k.len cap)) := alloc_new _ _
  have hne := ne_bld hw.bld
  have hw1 := hw.quiet f0
  cases k with
  | nil => simp [Exs.len] at h2
  | cons h' k' r' =>
    cases r' with
    | nil => simp [Exs.len] at h2
    | cons h'' k'' r'' =>
      obtain rfl : r'' = .nil := len_nil (by simp only [Exs.len] at h2; omega)
      obtain ⟨ok1, ok2, ok3, ok4, ok5⟩ := hx
      obtain ⟨sh1, sh2, sh3, sh4, sh5⟩ := hsl
      have hT2 : Hidden (acc ++ txA txS h' k' (kidL ⟨7, op, mod, name, vt, vb⟩ true) ++ Te.mark op ++ txA txS h'' k'' (kidL ⟨7, op, mod, name, vt, vb⟩ false) = T) := by
        show _ = T
        rw [← (show _ = T from hT)]
        rw [bare_eq, txK_cons, txK_cons, txK_nil]
        simp [pre, post, sep]
      have hl2 := app_le (show _ = T from hT2) hl
      have hl1 : (acc ++ txA txS h' k' (kidL ⟨7, op, mod, name, vt, vb⟩ true)).length ≤ 140737488355328 := by rw [List.length_append] at hl2; omega
      have k1 := kid_w ⟨7, op, mod, name, vt, vb⟩ 2 h' k' (.cons h'' k'' .nil) (ih h' k' (by simp only [Exs.size]; omega)) 0 (by omega) acc w0 _ B b ao cap (by simpa [Exs.len] using hcap) hmax ok1 ok2 sh1 sh2 hk.rest ht hw1 hl1
      have hrow2 : ExR w0 ao (0 + 1) (.cons h'' k'' .nil) := by obtain ⟨_, _, _, _, _, _, hh, _⟩ := hk.rest.next; exact hh
      have k2 := fun (w1 : World) (h1 : Wr w0 B b (acc ++ txA txS h' k' (kidL ⟨7, op, mod, name, vt, vb⟩ true) ++ Te.mark op) w1) => kid_w ⟨7, op, mod, name, vt, vb⟩ 2 h'' k'' .nil (ih h'' k'' (by simp only [Exs.size]; omega)) 1 (by omega) _ w0 w1 B b ao cap (by simpa [Exs.len] using hcap) hmax ok3 ok4 sh3 sh4 hrow2 ht h1 (by rw [show decide (1 = 0) = false by simp, show _ = T from hT2]; exact hl)
      rw [show decide (1 = 0) = false by simp, show _ = T from hT2] at k2
      have km := fun w => mark_text op _ rfl w
      clear hT hT2
      simp only [Exs.len, Nat.zero_add] at hbx f0 hw1 hcap k1 ⊢
      go_enter Tryz.func41, Tryz.ntmps41
      go_wp2_with fail
      go_at_call 77
      refine k1.mono ?_
      rintro e w1 ⟨rfl, h1, f1⟩
      have x1 := bs_keep f1 hbx hne (by decide)
      obtain ⟨c0, c1, c2, c3, c4, c5, c6⟩ := ex_box x1
      go_wp2_with fail
      go_at_call 78
      refine (km _).mono ?_
      rintro e wz ⟨rfl, rfl⟩
      go_wp2_with fail
      go_at_call 72
      refine (wr_str w0 B b _ (Te.mark op) _ h1 hl2).mono ?_
      rintro e w2 ⟨rfl, h2, f2⟩
      obtain ⟨c0, c1, c2, c3, c4, c5, c6⟩ := ex_box (bs_keep f2 x1 hne (by decide))
      go_wp2_with fail
      go_at_call 77
      refine (k2 _ h2).mono ?_
      rintro e w3 ⟨rfl, h3, f3⟩
      go_wp2_with fail
      go_end0
      exact ⟨rfl, h3, bs_then f0 (bs_trans f1 (bs_trans f2 f3))⟩
theorem bare_w (h : EH) (k : Exs) (ih : ∀ h' k', k'.size < k.size → WX h' k') (acc T : Bs) (w0 w : World) (B b : Nat) (ao : Option Addr) (cap : Nat) (ho : OkE h) (hx : OkX k) (hs : ShE h k.len) (hsl : ShL k)
    (hk : ExL w0 ao cap k) (ht : F.Tab w0) (hw : Wr w0 B b acc w) (hT : acc ++ bare txS h k = T) (hl : T.length ≤ 140737488355328) :
    Calls Tryz.prog 41 #[bp b, exV h (.slice ao k.len cap)] w fun e w' => e = .returned (.tuple #[]) ∧ Wrote w0 B b T w w' := by
  obtain ⟨kind, op, mod, name, vt, vb⟩ := h
  rcases hs with ⟨h0, h1, h2⟩ | ⟨h0, h1⟩ | ⟨h0, h1⟩ | h0 | h0 | ⟨h0, h1, h2, h3⟩ | ⟨h0, h1, h2, h3⟩ | ⟨h0, h1⟩ <;> simp only at h0 <;> subst h0
  · exact bare_1 op vt vb mod name k ih acc T w0 w B b ao cap hx hsl ho.vb0 ho.vb1 h1 h2 hk ht hw hT hl
  · exact bare_2 op vt vb mod name k ih acc T w0 w B b ao cap hx hsl h1 hk ht hw hT hl
  · exact bare_3 op vt vb mod name k ih acc T w0 w B b ao cap hx hsl h1 hk ht hw hT hl
  · exact bare_4 op vt vb mod name k ih acc T w0 w B b ao cap hx hsl hk ht hw hT hl
  · exact bare_5 op vt vb mod name k ih acc T w0 w B b ao cap hx hsl hk ht hw hT hl
  · exact bare_6 op vt vb mod name k ih acc T w0 w B b ao cap hx hsl h1 h2 h3 hk ht hw hT hl
  · exact bare_7 op vt vb mod name k ih acc T w0 w B b ao cap hx hsl h3 hk ht hw hT hl
  · exact bare_8 op vt vb mod name k ih acc T w0 w B b ao cap hx hsl h1 hk ht hw hT hl
set_option maxRecDepth 20000 in
set_option maxHeartbeats 4000000 in
theorem wx_step (h : EH) (k : Exs) (ih : ∀ h' k', k'.size < k.size → WX h' k') : WX h k := by
  intro least acc w0 w B b ao cap ho hx hs hsl hk ht hw hl
  have f0 := Fr.alloc (fun _ => False) w (exB h ao k.len cap)
  have hbx : Hidden ((w.alloc (exB h ao k.len cap)).heap[w.heap.size]? = some (exB h ao k.len cap)) := alloc_new _ _
  have hne := ne_bld hw.bld
  have klev := fun w => level_any h (.slice ao k.len cap) ⟨_, _, _, rfl⟩ _ rfl w
  by_cases hlv : level h < least
  · have e1 : txA txS h k least = 40 :: (bare txS h k ++ [41]) := by simp [txA, par, hlv]
    rw [e1] at hl ⊢
    have hT : acc ++ [40] ++ bare txS h k ++ [41] = acc ++ 40 :: (bare txS h k ++ [41]) := by simp
    have hl3 := app_le hT hl
    have hl2 := app_le (rfl : (acc ++ [40]) ++ bare txS h k = _) hl3
    have kb := fun (w1 : World) (h1 : Wr w0 B b (acc ++ [40]) w1) => bare_w h k ih (acc ++ [40]) _ w0 w1 B b ao cap ho hx hs hsl hk ht h1 rfl hl3
    have hng : ¬ least ≤ level h := by omega
    clear e1
    go_enter Tryz.func22, Tryz.ntmps22
    go_wp2_with fail
    go_at_call 36
    refine (klev _).mono ?_
    rintro e w1 ⟨rfl, f1⟩
    have x1 := f1.heap hbx (fun f => f)
    have g1 := f0.same f1
    go_wp2_with fail
    go_at_call 42
    refine (wr_byte w0 B b acc 40 40 rfl _ (hw.quiet g1) hl2).mono ?_
    rintro e w2 ⟨rfl, h2, f2⟩
    obtain ⟨c0, c1, c2, c3, c4, c5, c6⟩ := ex_box (bs_keep f2 x1 hne (by decide))
    go_wp2_with fail
    go_at_call 41
    refine (kb _ h2).mono ?_
    rintro e w3 ⟨rfl, h3, f3⟩
    go_wp2_with fail
    go_at_call 42
    refine (wr_byte w0 B b _ 41 41 rfl _ h3 (by rw [hT]; exact hl)).mono ?_
    rw [hT]
    rintro e w4 ⟨rfl, h4, f4⟩
    go_wp2_with fail
    go_end0
    exact ⟨rfl, h4, bs_then g1 (bs_trans f2 (bs_trans f3 f4))⟩
  · have e1 : txA txS h k least = bare txS h k := by simp [txA, par, hlv]
    rw [e1] at hl ⊢
    have kb := fun (w1 : World) (h1 : Wr w0 B b acc w1) => bare_w h k ih acc _ w0 w1 B b ao cap ho hx hs hsl hk ht h1 rfl hl
    have hng : least ≤ level h := by omega
    clear e1
    go_enter Tryz.func22, Tryz.ntmps22
    go_wp2_with fail
    go_at_call 36
    refine (klev _).mono ?_
    rintro e w1 ⟨rfl, f1⟩
    obtain ⟨c0, c1, c2, c3, c4, c5, c6⟩ := ex_box (f1.heap hbx (fun f => f))
    have g1 := f0.same f1
    go_wp2_with fail
    go_at_call 41
    refine (kb _ (hw.quiet g1)).mono ?_
    rintro e w3 ⟨rfl, h3, f3⟩
    go_wp2_with fail
    refine bodyPost_ret (results_none rfl _ _ _) rfl ?_
    exact ⟨rfl, h3, bs_then g1 f3⟩
theorem wx_any (h : EH) (k : Exs) : WX h k := by
  have : ∀ (n : Nat) (h : EH) (k : Exs), k.size < n → WX h k := by
    intro n
    induction n with
    | zero => intro h k hk; omega
    | succ n ih => intro h k hk; exact wx_step h k (fun h' k' hk' => ih h' k' (by omega))
  exact this (k.size + 1) h k (by omega)
set_option maxRecDepth 20000 in
theorem exprText_any (h : EH) (k : Exs) (v : Value) (w : World) (ho : OkE h) (hx : OkX k) (hs : ShE h k.len) (hsl : ShL k) (hv : ExI w h k v) (ht : F.Tab w) (hl : (txA txS h k 1).length ≤ 140737488355328) :
    Calls Tryz.prog 10 #[v] w fun e w' => e = .returned (ct (txA txS h k 1)) ∧ Fr (fun _ => False) w w' := by
  obtain ⟨ao, cap, rfl, hk⟩ := hv
  have f0 := Fr.alloc (fun _ => False) w (exB h ao k.len cap)
  have hq : Hidden ((w.alloc (exB h ao k.len cap)).heap[w.heap.size]? = some (exB h ao k.len cap)) := alloc_new _ _
  generalize hW : w.alloc (exB h ao k.len cap) = W1 at f0 hq
  have hWs : W1.heap.size = w.heap.size + 1 := by rw [← hW]; simp
  have f1 := Fr.alloc (fun _ => False) W1 (.cells #[.pointer none, .slice none 0 0] 68 (0, 0))
  have hb0 : Hidden (Bld W1.heap.size W1.heap.size [] (W1.alloc (.cells #[.pointer none, .slice none 0 0] 68 (0, 0)))) :=
    Or.inl ⟨Nat.le_refl _, _, alloc_new _ _, World.ownsRow_nil _ _ _ _, by simp [Value.ownBlock]⟩
  have kw := wx_any h k 1 [] W1 (W1.alloc (.cells #[.pointer none, .slice none 0 0] 68 (0, 0))) W1.heap.size W1.heap.size ao cap ho hx hs hsl (hk.keep f0) (tab_fr ht f0) ⟨f1, Nat.le_refl _, by simp, hb0⟩ (by simpa using hl)
  rw [List.nil_append] at kw
  obtain ⟨c0, c1, c2, c3, c4, c5, c6⟩ := ex_box (f1.heap hq (fun f => f))
  subst hW
  clear hb0 hq
  rw [hWs] at kw
  go_enter Tryz.func10, Tryz.ntmps10
  go_wp2_with fail
  go_at_call 22
  refine kw.mono ?_
  rintro e w2 ⟨rfl, h2, f2⟩
  have ks := Tryz.Builder_String_any (w.heap.size + 1) (w.heap.size + 1) (txA txS h k 1) w2 h2.bld h2.size
  go_wp2_with fail
  go_at_call 23
  refine ks.mono ?_
  rintro e w3 ⟨rfl, hb2⟩
  go_wp2_with fail
  go_ret
  exact ⟨rfl, (f0.same h2.fr).over (fr_below (S := fun k => w.heap.size + 1 ≤ k) hb2 (fun k h => h)) (fun k h => by have : w.heap.size + 1 ≤ k := h; omega)⟩
end Go.Proofs.YtpkaekokkhecmaaGreatDoor

namespace Go.Proofs.YtpkaekokkhecmaaGreatDoor.P
open Go.RowKit Te
set_option linter.unusedSimpArgs false
set_option linter.unusedVariables false

theorem info_bld : (Tryz.prog.info? 68).map (·.size) = some 2 := by kernel_rfl
set_option maxHeartbeats 1000000 in
set_option maxRecDepth 100000 in
theorem cc_used (b : Nat) (w : World) (h0 : w.cell? ⟨b, 0, none⟩ = some (.pointer (some ⟨b, 0, none⟩))) :
    Calls Tryz.prog 79 #[.pointer (some ⟨b, 0, none⟩)] w fun e w' => e = .returned (.tuple #[]) ∧ w' = w := by
  obtain ⟨i, hi, _⟩ := Option.map_eq_some_iff.1 info_bld
  go_enter Tryz.func79, Tryz.ntmps79
  go_wp2
  rw [Lib.run_neq_ptr_same w _ Tryz.underlying65 hi]
  go_wp2
  go_end0
  exact ⟨rfl, rfl⟩
end Go.Proofs.YtpkaekokkhecmaaGreatDoor.P

namespace Go.Proofs.YtpkaekokkhecmaaGreatDoor
open Go.RowKit Te
set_option linter.unusedSimpArgs false
set_option linter.unusedVariables false

theorem cells_byte : Tryz.prog.cellsOf 5 = 1 := by kernel_rfl
theorem pad_succ (n : Nat) : Te.pad (n + 1) = [32, 32] ++ Te.pad n := by simp [Te.pad, List.replicate_succ]
/-- Parts of a line, in a block of their own. -/
def Prn (w : World) (q : Nat) (l : List Bs) : Prop := w.heap[q]? = some (.cells (l.map ct).toArray 9 (0, 0))
theorem Prn.cell {w : World} {q : Nat} {l : List Bs} (h : Prn w q l) {i : Nat} {x : Bs} (hi : l[i]? = some x) : w.cell? ⟨q, i, none⟩ = some (ct x) := by
  rw [cell_of_row w q i _ 9 (0, 0) h]
  simp [hi]
end Go.Proofs.YtpkaekokkhecmaaGreatDoor

namespace Go.Proofs.YtpkaekokkhecmaaGreatDoor
open Go.RowKit Te
set_option linter.unusedSimpArgs false
set_option linter.unusedVariables false

theorem sh_of_fits {h : EH} {n : Nat} (hf : fitsE cnS h n = true) : ShE h n := by
  unfold fitsE at hf
  unfold ShE
  split at hf
  · simp only [Bool.and_eq_true, decide_eq_true_eq] at hf
    refine Or.inl ⟨‹_›, fun hv => ?_, hf.2.2.2.2⟩
    have := hf.1
    simp only [litOk, hv, if_true, decide_eq_true_eq] at this
    exact this
  split at hf
  · simp only [decide_eq_true_eq] at hf; exact Or.inr (Or.inl ⟨‹_›, hf.2.2.2.2⟩)
  split at hf
  · simp only [decide_eq_true_eq] at hf; exact Or.inr (Or.inr (Or.inl ⟨‹_›, hf.2.2.2⟩))
  split at hf
  · exact Or.inr (Or.inr (Or.inr (Or.inl ‹_›)))
  split at hf
  · exact Or.inr (Or.inr (Or.inr (Or.inr (Or.inl ‹_›))))
  split at hf
  · simp only [decide_eq_true_eq] at hf; exact Or.inr (Or.inr (Or.inr (Or.inr (Or.inr (Or.inl ⟨‹_›, hf.1, hf.2.1, hf.2.2.1⟩)))))
  split at hf
  · simp only [decide_eq_true_eq] at hf; exact Or.inr (Or.inr (Or.inr (Or.inr (Or.inr (Or.inr (Or.inl ⟨‹_›, hf.1, hf.2.1, hf.2.2.1⟩))))))
  split at hf
  · simp only [decide_eq_true_eq] at hf; exact Or.inr (Or.inr (Or.inr (Or.inr (Or.inr (Or.inr (Or.inr ⟨‹_›, hf.2.2.2.2.2⟩))))))
  · cases hf
theorem sh_of_err {h : EH} {n : Nat} (he : errH rnS cnS h n = 0) : ShE h n := by
  unfold errH at he
  rw [orE_zero] at he
  apply sh_of_fits
  by_cases hf : fitsE cnS h n = true
  · exact hf
  · rw [if_neg hf] at he; omega
theorem shL_of_err : ∀ (k : Exs), errL rnS cnS k = 0 → ShL k
  | .nil, _ => trivial
  | .cons h k r, he => by
    rw [errL_cons, orE_zero, orE_zero] at he
    exact ⟨sh_of_err he.1.1, shL_of_err k he.1.2, shL_of_err r he.2⟩
theorem txA_one (h : EH) (k : Exs) : txA txS h k 1 = bare txS h k := by
  have := level_pos h
  simp [txA, par]
  omega
set_option maxRecDepth 20000 in
set_option maxHeartbeats 1000000 in
theorem text_x (h : EH) (k : Exs) (v : Value) (w : World) (ho : OkE h) (hx : OkX k) (hv : ExI w h k v) (ht : F.Tab w) (E : Int) (T : Bs) (hE : Hidden (errX rnS cnS h k = E)) (hT : Hidden (bare txS h k = T)) (hl : E = 0 → T.length ≤ 140737488355328) :
    Calls Tryz.prog 4 #[v] w fun e w' => e = .returned (.tuple #[ct (if E = 0 then T else []), ci E]) ∧ Fr (fun _ => False) w w' := by
  obtain ⟨ao, cap, rfl, hk⟩ := hv
  have f0 := Fr.alloc (fun _ => False) w (exB h ao k.len cap)
  have hbx : Hidden ((w.alloc (exB h ao k.len cap)).heap[w.heap.size]? = some (exB h ao k.len cap)) := alloc_new _ _
  have kr := rightX_any h k _ _ ho hx (⟨ao, cap, rfl, hk.keep f0⟩ : ExI (w.alloc (exB h ao k.len cap)) h k (exV h (.slice ao k.len cap)))
  rw [show errX rnS cnS h k = E from hE] at kr
  by_cases h0 : E = 0
  · subst h0
    have hs : errX rnS cnS h k = 0 := hE
    unfold errX at hs
    rw [orE_zero, orE_zero] at hs
    have kt := fun (w1 : World) (f1 : Fr (fun _ => False) w w1) => exprText_any h k (exV h (.slice ao k.len cap)) w1 ho hx (sh_of_err hs.2.1) (shL_of_err k hs.2.2) ⟨ao, cap, rfl, hk.keep f1⟩ (tab_fr ht f1) (by rw [txA_one, show _ = T from hT]; exact hl rfl)
    rw [txA_one, show _ = T from hT] at kt
    clear hs hT hE
    go_enter Tryz.func4, Tryz.ntmps4
    go_wp2_with fail
    go_at_call 9
    refine kr.mono ?_
    rintro e w1 ⟨rfl, f1⟩
    obtain ⟨c0, c1, c2, c3, c4, c5, c6⟩ := ex_box (f1.heap hbx (fun f => f))
    go_wp2_with fail
    go_at_call 10
    refine (kt _ (f0.same f1)).mono ?_
    rintro e w2 ⟨rfl, f2⟩
    go_wp2_with fail
    go_ret2
    exact ⟨rfl, (f0.same f1).same f2⟩
  · have hb : (E != 0) = true := by simp [h0]
    rw [if_neg h0]
    clear hE hT
    go_enter Tryz.func4, Tryz.ntmps4
    go_wp2_with fail
    go_at_call 9
    refine kr.mono ?_
    rintro e w1 ⟨rfl, f1⟩
    go_wp2_with fail
    go_ret2
    exact ⟨rfl, f0.same f1⟩

abbrev impT (x : Bs) : Bs := [105, 109, 112, 111, 114, 116, 32] ++ x ++ [59, 10]
end Go.Proofs.YtpkaekokkhecmaaGreatDoor
