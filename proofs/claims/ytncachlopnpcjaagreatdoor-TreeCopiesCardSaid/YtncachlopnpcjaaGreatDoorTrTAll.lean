/- Texts of ours, in one. -/
import Derived.Test.YtncachlopnpcjaaGreatDoorTrD2
import Derived.Test.YtncachlopnpcjaaGreatDoorNyA
import Derived.Test.YtncachlopnpcjaaGreatDoorIyA
import Derived.Test.YtncachlopnpcjaaGreatDoorLxAll
import Derived.Deep.RegionHeld3
import Derived.Lib.Builder
import Derived.Shelf.Strings.Builder1
import Derived.Lib.UnsafeStr
import Derived.Test.YtncachlopnpcjaaGreatDoorTrLAll
namespace Go.Proofs.YtncachlopnpcjaaGreatDoor
open Go.RowKit Te
set_option linter.unusedSimpArgs false
set_option linter.unusedVariables false

/-- The text of a literal. -/
def txS (vt vb : Int) : Bs := if vt = 1 then Lib.itoa vb else if vt = 2 then F.textS vb else if vb = 0 then [102, 97, 108, 115, 101] else [116, 114, 117, 101]
theorem kb_fr {w w' : World} (h : F.Kb w w') : Fr (fun _ => False) w w' := fr_of_kept h.1 h.2
theorem kb_frD {w w' : World} (h : D.Kb w w') : Fr (fun _ => False) w w' := fr_of_kept h.1 h.2
set_option maxRecDepth 20000 in
set_option maxHeartbeats 1000000 in
theorem lit_text (vt vb : Int) (hb0 : 0 ≤ vb) (hb1 : vb < 18446744073709551616) (h1 : vt = 1 → vb < 9223372036854775808) (w : World) (ht : F.Tab w) :
    Calls Tryz.prog 68 #[.agg #[ci vt, .int .u64 vb]] w fun e w' => e = .returned (ct (txS vt vb)) ∧ Fr (fun _ => False) w w' := by
  have f0 := Fr.alloc (fun _ => False) w (.cells #[ci vt, .int .u64 vb] 36)
  by_cases e1 : vt = 1
  · subst e1
    have hlt := h1 rfl
    have kd := D.dec_any vb ⟨by omega, by omega⟩ _ (tab_fr ht f0)
    clear h1
    go_enter Tryz.func68, Tryz.ntmps68
    go_wp2_with fail
    go_at_call 94
    refine kd.mono ?_
    rintro e w1 ⟨rfl, f1⟩
    go_wp2_with fail
    go_ret
    exact ⟨rfl, f0.same (kb_frD f1)⟩
  · have n1 : (vt == 1) = false := by simp [e1]
    by_cases e2 : vt = 2
    · subst e2
      have kd := F.text_any vb ⟨by omega, by omega⟩ _ (tab_fr ht f0)
      clear h1
      go_enter Tryz.func68, Tryz.ntmps68
      go_wp2_with fail
      go_at_call 95
      refine kd.mono ?_
      rintro e w1 ⟨rfl, f1⟩
      go_wp2_with fail
      go_ret
      exact ⟨rfl, f0.same (kb_fr f1)⟩
    · have n2 : (vt == 2) = false := by simp [e2]
      clear h1
      by_cases e3 : vb = 0
      · subst e3
        go_enter Tryz.func68, Tryz.ntmps68
        go_wp2_with fail
        go_ret
        exact ⟨by simp [txS, e1, e2], f0⟩
      · have n3 : (vb == 0) = false := by simp [e3]
        go_enter Tryz.func68, Tryz.ntmps68
        go_wp2_with fail
        go_ret
        exact ⟨by simp [txS, e1, e2, e3], f0⟩
theorem mark_text (op : Int) (r : Bs) (hr : Hidden (Te.mark op = r)) (w : World) : Calls Tryz.prog 73 #[ci op] w fun e w' => e = .returned (ct r) ∧ w' = w := by
  go_enter Tryz.func73, Tryz.ntmps73
  go_wp2
  all_goals (go_ret; refine ⟨?_, rfl⟩; rw [← (show Te.mark op = r from hr)]; clear hr)
  all_goals (simp only [beq_iff_eq, beq_eq_false_iff_ne, ne_eq] at *; simp [Te.mark, *])

/-- A builder's call behind another one. -/
theorem bs_trans {B b : Nat} {w w1 w2 : World} (h : Fr (BS B b w) w w1) (g : Fr (BS B b w1) w1 w2) : Fr (BS B b w) w w2 := by
  refine h.trans g (fun k hk hb => ?_)
  rcases hb with hb | ⟨h1, cur, fr, h2⟩
  · exact Or.inl hb
  · by_cases hS : BS B b w k
    · exact hS
    · exact Or.inr ⟨h1, cur, fr, by rw [← h.block k hk hS]; exact h2⟩
theorem bs_quiet {B b : Nat} {w w1 : World} (h : Fr (fun _ => False) w w1) : Fr (BS B b w) w w1 := h.mono (fun _ _ f => f.elim)
theorem bs_then {B b : Nat} {w w1 w2 : World} (h : Fr (fun _ => False) w w1) (g : Fr (BS B b w1) w1 w2) : Fr (BS B b w) w w2 := bs_trans (bs_quiet h) g
/-- What is no row of bytes and not the builder stays. -/
theorem bs_keep {B b : Nat} {w w1 : World} (h : Fr (BS B b w) w w1) {k : Nat} {cs : Array Value} {t : TypeId} {fr : Nat × Nat} (hk : w.heap[k]? = some (.cells cs t fr)) (hb : k ≠ b) (ht : t ≠ 5) : w1.heap[k]? = some (.cells cs t fr) := by
  refine h.heap hk (fun hS => ?_)
  rcases hS with hS | ⟨_, cur, fr', h2⟩
  · exact hb hS
  · rw [hk] at h2
    simp only [Option.some.injEq, Obj.cells.injEq] at h2
    exact ht h2.2.1
theorem Bld.keepN {B b : Nat} {bs : List UInt8} {w w' : World} (h : Bld B b bs w) (hf : Fr (fun _ => False) w w') : Bld B b bs w' := by
  have key : ∀ {p : Value}, Bat B b p bs w → Bat B b p bs w' := by
    rintro p ⟨h1, v, hb, ho, hn⟩
    refine ⟨h1, v, hf.heap hb (fun f => f), ?_, hn⟩
    obtain ⟨g1, g2⟩ := ho
    refine ⟨g1, ?_⟩
    rcases g2 with h0 | ⟨g, cap, cur, rfl, hb', hg, hr⟩
    · exact Or.inl h0
    · exact Or.inr ⟨g, cap, cur, rfl, hb', hf.heap hg (fun f => f), hr⟩
  rcases h with h | h
  · exact Or.inl (key h)
  · exact Or.inr (key h)
/-- Where an expression is written: the tree lies ahead of the builder. -/
structure Wr (w0 : World) (B b : Nat) (acc : Bs) (w : World) : Prop where
  fr : Fr (fun _ => False) w0 w
  low : w0.heap.size ≤ B
  size : B ≤ w.heap.size
  bld : Bld B b acc w
theorem Wr.quiet {w0 w w' : World} {B b : Nat} {acc : Bs} (h : Wr w0 B b acc w) (f : Fr (fun _ => False) w w') : Wr w0 B b acc w' := ⟨h.fr.same f, h.low, Nat.le_trans h.size f.size, h.bld.keepN f⟩
theorem Wr.next {w0 w w' : World} {B b : Nat} {acc acc' : Bs} (h : Wr w0 B b acc w) (g : Fr (BS B b w) w w') (hb : Bat B b (.pointer (some ⟨b, 0, none⟩)) acc' w') : Wr w0 B b acc' w' :=
  ⟨bs_over h.fr g h.low h.bld.low, h.low, Nat.le_trans h.size g.size, Or.inr hb⟩
/-- Behind a call that wrote. -/
def Wrote (w0 : World) (B b : Nat) (acc : Bs) (w : World) (w' : World) : Prop := Wr w0 B b acc w' ∧ Fr (BS B b w) w w'
end Go.Proofs.YtncachlopnpcjaaGreatDoor

namespace Go.Proofs.YtncachlopnpcjaaGreatDoor
open Go.RowKit Te
set_option linter.unusedSimpArgs false
set_option linter.unusedVariables false

abbrev bp (b : Nat) : Value := .pointer (some ⟨b, 0, none⟩)
theorem wr_str (w0 : World) (B b : Nat) (acc s : Bs) (w : World) (h : Wr w0 B b acc w) (hl : (acc ++ s).length ≤ 140737488355328) :
    Calls Tryz.prog 55 #[bp b, ct s] w fun e w' => e = .returned (.tuple #[.int .i64 (s.length : Int), .nilIface]) ∧ Wrote w0 B b (acc ++ s) w w' :=
  (wstr_any B b acc s w h.bld (by rw [List.length_append] at hl; omega) h.size).mono fun e w' ⟨h1, h2, h3⟩ => ⟨h1, h.next h3 h2, h3⟩
theorem wr_byte (w0 : World) (B b : Nat) (acc : Bs) (c : UInt8) (n : Int) (hn : (c.toNat : Int) = n) (w : World) (h : Wr w0 B b acc w) (hl : (acc ++ [c]).length ≤ 140737488355328) :
    Calls Tryz.prog 53 #[bp b, .int .u8 n] w fun e w' => e = .returned .nilIface ∧ Wrote w0 B b (acc ++ [c]) w w' := by
  subst hn
  exact (wbyte_any B b acc c w h.bld (by simpa using hl) h.size).mono fun e w' ⟨h1, h2, h3⟩ => ⟨h1, h.next h3 h2, h3⟩

/-- What a right expression has. -/
def ShE (h : EH) (n : Nat) : Prop :=
  (h.kind = 1 ∧ (h.vt = 1 → h.vb < 9223372036854775808) ∧ n = 0) ∨ (h.kind = 2 ∧ n = 0) ∨ (h.kind = 3 ∧ n = 0) ∨ h.kind = 4 ∨ h.kind = 5 ∨ (h.kind = 6 ∧ 1 ≤ h.op ∧ h.op ≤ 4 ∧ n = 1) ∨ (h.kind = 7 ∧ 1 ≤ h.op ∧ h.op ≤ 13 ∧ n = 2) ∨ (h.kind = 8 ∧ n = 0)
def ShL : Exs → Prop
  | .nil => True
  | .cons h k r => ShE h k.len ∧ ShL k ∧ ShL r
/-- The contract of writing at a level. -/
def WX (h : EH) (k : Exs) : Prop := ∀ (least : Int) (acc : Bs) (w0 w : World) (B b : Nat) (ao : Option Addr) (cap : Nat), OkE h → OkX k → ShE h k.len → ShL k → ExL w0 ao cap k → F.Tab w0 → Wr w0 B b acc w →
  (acc ++ txA txS h k least).length ≤ 140737488355328 →
  Calls Tryz.prog 38 #[bp b, exV h (.slice ao k.len cap), ci least] w fun e w' => e = .returned (.tuple #[]) ∧ Wrote w0 B b (acc ++ txA txS h k least) w w'
theorem ne_bld {w : World} {B b : Nat} {bs : Bs} (h : Bld B b bs w) : w.heap.size ≠ b := by have := h.lt; omega

set_option maxRecDepth 20000 in
set_option maxHeartbeats 4000000 in
theorem kid_w (h : EH) (n : Nat) (h' : EH) (k' r' : Exs) (ih : WX h' k') (i : Nat) (hi : i < n) (acc : Bs) (w0 w : World) (B b : Nat) (ao : Option Addr) (cap : Nat) (hn : n ≤ cap) (hcap : cap ≤ 9223372036854775807) (ho : OkE h') (hx : OkX k') (hs : ShE h' k'.len) (hsl : ShL k')
    (hr : ExR w0 ao i (.cons h' k' r')) (ht : F.Tab w0) (hw : Wr w0 B b acc w) (hl : (acc ++ txA txS h' k' (kidL h (decide (i = 0)))).length ≤ 140737488355328) :
    Calls Tryz.prog 72 #[bp b, exV h (.slice ao n cap), ci (i : Int)] w fun e w' => e = .returned (.tuple #[]) ∧ Wrote w0 B b (acc ++ txA txS h' k' (kidL h (decide (i = 0)))) w w' := by
  obtain ⟨q, off, ao', cap', rfl, hL, hrow2, d0, d1, d2, d3, d4, d5, d6⟩ := hr.next
  have f0 := Fr.alloc (fun _ => False) w (.cells #[ci h.kind, ci h.op, ct h.mod, ct h.name, ci h.vt, .int .u64 h.vb, .slice (some ⟨q, off, none⟩) n cap] 39)
  have hbx : Hidden ((w.alloc (.cells #[ci h.kind, ci h.op, ct h.mod, ct h.name, ci h.vt, .int .u64 h.vb, .slice (some ⟨q, off, none⟩) n cap] 39)).heap[w.heap.size]? = some (.cells #[ci h.kind, ci h.op, ct h.mod, ct h.name, ci h.vt, .int .u64 h.vb, .slice (some ⟨q, off, none⟩) n cap] 39 (0, 0))) := alloc_new _ _
  have kk := fun w => kp_any h (.slice (some ⟨q, off, none⟩) n cap) ⟨_, _, _, rfl⟩ i _ _ rfl rfl w
  unfold WX at ih
  go_enter Tryz.func72, Tryz.ntmps72
  go_wp2_with fail
  go_at_call 48
  refine (kk _).mono ?_
  rintro e w1 ⟨rfl, f1⟩
  obtain ⟨c0, c1, c2, c3, c4, c5, c6⟩ := ex_box (f1.heap hbx (fun f => f))
  have g1 := f0.same f1
  have hw1 := hw.quiet g1
  have d0 := hw1.fr.cellN d0
  have d1 := hw1.fr.cellN d1
  have d2 := hw1.fr.cellN d2
  have d3 := hw1.fr.cellN d3
  have d4 := hw1.fr.cellN d4
  have d5 := hw1.fr.cellN d5
  have d6 := hw1.fr.cellN d6
  go_wp2_with fail
  go_at_call 38
  refine (ih _ acc w0 _ B b ao' cap' ho hx hs hsl hL ht hw1 hl).mono ?_
  rintro e w2 ⟨rfl, h2, f2⟩
  go_wp2_with fail
  go_end0
  exact ⟨rfl, h2, bs_then g1 f2⟩
end Go.Proofs.YtncachlopnpcjaaGreatDoor

namespace Go.Proofs.YtncachlopnpcjaaGreatDoor
open Go.RowKit Te
set_option linter.unusedSimpArgs false
set_option linter.unusedVariables false

theorem txK_cons (h h' : EH) (f : Bool) (k' r' : Exs) : txK txS h f (.cons h' k' r') = (if f then [] else sep h) ++ txA txS h' k' (kidL h f) ++ txK txS h false r' := rfl
abbrev exB (h : EH) (ao : Option Addr) (n cap : Nat) : Obj := .cells #[ci h.kind, ci h.op, ct h.mod, ct h.name, ci h.vt, .int .u64 h.vb, .slice ao n cap] 39 (0, 0)
set_option maxRecDepth 20000 in
set_option maxHeartbeats 4000000 in
theorem call_w (h : EH) (k : Exs) (hk7 : h.kind ≠ 7) (nm : Bs) (ih : ∀ h' k', k'.size < k.size → WX h' k') (acc T : Bs) (w0 w : World) (B b : Nat) (ao : Option Addr) (cap : Nat) (hx : OkX k) (hsl : ShL k)
    (hk : ExL w0 ao cap k) (ht : F.Tab w0) (hw : Wr w0 B b acc w) (hT : Hidden (acc ++ nm ++ [40] ++ txK txS h true k ++ [41] = T)) (hl : T.length ≤ 140737488355328) :
    Calls Tryz.prog 70 #[bp b, ct nm, exV h (.slice ao k.len cap)] w fun e w' => e = .returned (.tuple #[]) ∧ Wrote w0 B b T w w' := by
  have hmax : cap ≤ 9223372036854775807 := by have := hk.2.1; unfold maxLen at this; omega
  have hcap := hk.1
  have f0 := Fr.alloc (fun _ => False) w (exB h ao k.len cap)
  have hbx : Hidden ((w.alloc (exB h ao k.len cap)).heap[w.heap.size]? = some (exB h ao k.len cap)) := alloc_new _ _
  have hne := ne_bld hw.bld
  have hl1 : (acc ++ nm ++ [40]).length + (txK txS h true k ++ [41]).length ≤ 140737488355328 := by
    rw [← List.length_append]
    rw [← (show _ = T from hT)] at hl
    simpa using hl
  have hsep : sep h = [44, 32] := by simp [sep, hk7]
  go_enter Tryz.func70, Tryz.ntmps70
  go_wp2_with fail
  go_at_call 55
  refine (wr_str w0 B b acc nm _ (hw.quiet f0) (by simp only [List.length_append] at hl1 ⊢; omega)).mono ?_
  rintro e w1 ⟨rfl, h1, f1⟩
  go_wp2_with fail
  go_at_call 53
  refine (wr_byte w0 B b _ 40 40 rfl _ h1 (by simp only [List.length_append] at hl1 ⊢; omega)).mono ?_
  rintro e w2 ⟨rfl, h2, f2⟩
  have x2 : w2.heap[w.heap.size]? = some (exB h ao k.len cap) := bs_keep f2 (bs_keep f1 hbx hne (by decide)) hne (by decide)
  have g2 : Fr (BS B b w) w w2 := bs_then f0 (bs_trans f1 f2)
  obtain ⟨c0, c1, c2, c3, c4, c5, c6⟩ := ex_box x2
  go_wp2_with fail
  clear c0 c1 c2 c3 c4 c5 c6
  go_loopg [15] k.len (fun g iv wr => ∃ (i : Nat) (r : Exs) (ac : Bs), iv = ci (i : Int) ∧ i + r.len = k.len ∧ r.size ≤ k.size ∧ OkX r ∧ ShL r ∧ ExR w0 ao i r ∧ ac ++ txK txS h (decide (i = 0)) r ++ [41] = T ∧ g = r.len ∧ Wr w0 B b ac wr ∧ Fr (BS B b w) w wr ∧ wr.heap[w.heap.size]? = some (exB h ao k.len cap))
  case atStart => exact ⟨0, k, _, rfl, by omega, Nat.le_refl _, hx, hsl, hk.rest, hT, rfl, h2, g2, x2⟩
  case round =>
    obtain ⟨i, r, ac, rfl, hlen2, hsize, hok, hsh, hrow, hdk, hgk, hwr, hfr, hbw⟩ := hrel
    have hgkH : Hidden (gk = r.len) := hgk
    have hdkH : Hidden (ac ++ txK txS h (decide (i = 0)) r ++ [41] = T) := hdk
    have hlenH : Hidden (i + r.len = k.len) := hlen2
    clear hgk hdk hlen2 hT
    cases r with
    | nil =>
      have hi : i = k.len := hlenH
      subst hi
      have hT2 : ac ++ [41] = T := by have : ac ++ [] ++ [41] = T := hdkH; simpa using this
      go_wp2_with fail
      go_at_call 53
      refine (wr_byte w0 B b ac 41 41 rfl _ hwr (by rw [hT2]; exact hl)).mono ?_
      rw [hT2]
      rintro e w3 ⟨rfl, h3, f3⟩
      go_wp2_with fail
      go_end0
      exact ⟨rfl, h3, bs_trans hfr f3⟩
    | cons h' k' r' =>
      have hil : i < k.len := by have : i + (r'.len + 1) = k.len := hlenH; omega
      obtain ⟨ok1, ok2, ok3⟩ := hok
      obtain ⟨sh1, sh2, sh3⟩ := hsh
      simp only [Exs.size] at hsize
      have hrow2 : ExR w0 ao (i + 1) r' := by obtain ⟨_, _, _, _, _, _, hh, _⟩ := hrow.next; exact hh
      obtain ⟨c0, c1, c2, c3, c4, c5, c6⟩ := ex_box hbw
      by_cases h0 : i = 0
      · subst h0
        have hT2 : Hidden (ac ++ txA txS h' k' (kidL h true) ++ (txK txS h false r' ++ [41]) = T) := by
          have : ac ++ ([] ++ txA txS h' k' (kidL h true) ++ txK txS h false r') ++ [41] = T := hdkH
          show _ = T
          rw [← this]
          simp
        have hlk : (ac ++ txA txS h' k' (kidL h true)).length ≤ 140737488355328 := by
          rw [← (show _ = T from hT2), List.length_append] at hl
          omega
        have kk := kid_w h k.len h' k' r' (ih h' k' (by omega)) 0 (by omega) ac w0 wr B b ao cap hcap hmax ok1 ok2 sh1 sh2 hrow ht hwr hlk
        clear hdkH
        go_wp2_with fail
        go_at_call 72
        refine kk.mono ?_
        rintro e w3 ⟨rfl, h3, f3⟩
        go_wp2_with fail
        go_roundg r'.len
        case measure =>
          have : gk = r'.len + 1 := hgkH
          omega
        case rel =>
          refine ⟨1, r', _, by go_num, ?_, by omega, ok3, sh3, hrow2, ?_, rfl, h3, bs_trans hfr f3, bs_keep f3 hbw hne (by decide)⟩
          · have : 0 + (r'.len + 1) = k.len := hlenH
            omega
          · rw [← (show _ = T from hT2)]
            simp
      · have hpos : 0 < i := by omega
        have hT2 : Hidden (ac ++ [44, 32] ++ txA txS h' k' (kidL h false) ++ (txK txS h false r' ++ [41]) = T) := by
          have e1 : decide (i = 0) = false := by simp [h0]
          have e2 := (show ac ++ txK txS h (decide (i = 0)) (.cons h' k' r') ++ [41] = T from hdkH)
          rw [e1, txK_cons, hsep] at e2
          show _ = T
          rw [← e2]
          simp
        have hlk : (ac ++ [44, 32] ++ txA txS h' k' (kidL h false)).length ≤ 140737488355328 := by
          rw [← (show _ = T from hT2), List.length_append] at hl
          omega
        have hlk2 : (ac ++ [44, 32]).length ≤ 140737488355328 := by rw [List.length_append] at hlk; omega
        have e1 : decide (i = 0) = false := by simp [h0]
        have kk := fun (w1 : World) (h1 : Wr w0 B b (ac ++ [44, 32]) w1) => kid_w h k.len h' k' r' (ih h' k' (by omega)) i hil (ac ++ [44, 32]) w0 w1 B b ao cap hcap hmax ok1 ok2 sh1 sh2 hrow ht h1 (by rw [e1]; exact hlk)
        rw [e1] at kk
        clear hdkH h0 e1
        go_wp2_with fail
        go_at_call 55
        refine (wr_str w0 B b ac [44, 32] _ hwr hlk2).mono ?_
        rintro e w2' ⟨rfl, h2', f2'⟩
        have hbw2 := bs_keep f2' hbw hne (by decide)
        obtain ⟨c0, c1, c2, c3, c4, c5, c6⟩ := ex_box hbw2
        go_wp2_with fail
        go_at_call 72
        refine (kk _ h2').mono ?_
        rintro e w3 ⟨rfl, h3, f3⟩
        go_wp2_with fail
        go_roundg r'.len
        case measure =>
          have : gk = r'.len + 1 := hgkH
          omega
        case rel =>
          refine ⟨i + 1, r', _, by go_num, ?_, by omega, ok3, sh3, hrow2, ?_, rfl, h3, bs_trans hfr (bs_trans f2' f3), bs_keep f3 hbw2 hne (by decide)⟩
          · have : i + (r'.len + 1) = k.len := hlenH
            omega
          · rw [← (show _ = T from hT2), show decide (i + 1 = 0) = false by simp]
            simp
end Go.Proofs.YtncachlopnpcjaaGreatDoor

namespace Go.Proofs.YtncachlopnpcjaaGreatDoor
open Go.RowKit Te
set_option linter.unusedSimpArgs false
set_option linter.unusedVariables false

theorem len_nil {k : Exs} (h : k.len = 0) : k = .nil := by
  cases k with
  | nil => rfl
  | cons h' k' r' => simp [Exs.len] at h
theorem bare_eq (h : EH) (k : Exs) : bare txS h k = pre txS h ++ txK txS h true k ++ post h := rfl
theorem txK_nil (h : EH) (f : Bool) : txK txS h f .nil = [] := rfl
theorem app_le {a b T : Bs} (h : a ++ b = T) (hl : T.length ≤ 140737488355328) : a.length ≤ 140737488355328 := by
  rw [← h, List.length_append] at hl
  omega
set_option maxRecDepth 20000 in
set_option maxHeartbeats 4000000 in
theorem one_1 (vt vb : Int) (mod name : Bs) (k : Exs) (ih : ∀ h' k', k'.size < k.size → WX h' k') (acc T : Bs) (w0 w : World) (B b : Nat) (ao : Option Addr) (cap : Nat) (hx : OkX k) (hsl : ShL k) (h1 : k.len = 1)
    (hk : ExL w0 ao cap k) (ht : F.Tab w0) (hw : Wr w0 B b acc w) (hT : Hidden (acc ++ bare txS ⟨6, 1, mod, name, vt, vb⟩ k = T)) (hl : T.length ≤ 140737488355328) :
    Calls Tryz.prog 71 #[bp b, exV ⟨6, 1, mod, name, vt, vb⟩ (.slice ao k.len cap)] w fun e w' => e = .returned (.tuple #[]) ∧ Wrote w0 B b T w w' := by
  have hmax : cap ≤ 9223372036854775807 := by have := hk.2.1; unfold maxLen at this; omega
  have hcap := hk.1
  have f0 := Fr.alloc (fun _ => False) w (exB ⟨6, 1, mod, name, vt, vb⟩ ao k.len cap)
  have hbx : Hidden ((w.alloc (exB ⟨6, 1, mod, name, vt, vb⟩ ao k.len cap)).heap[w.heap.size]? = some (exB ⟨6, 1, mod, name, vt, vb⟩ ao k.len cap)) := alloc_new _ _
  have hne := ne_bld hw.bld
  have hw1 := hw.quiet f0
  cases k with
  | nil => simp [Exs.len] at h1
  | cons h' k' r' =>
    obtain rfl : r' = .nil := len_nil (by simp only [Exs.len] at h1; omega)
    obtain ⟨ok1, ok2, ok3⟩ := hx
    obtain ⟨sh1, sh2, sh3⟩ := hsl
    have hT2 : Hidden (acc ++ [45] ++ txA txS h' k' 6 = T) := by
      show _ = T
      rw [← (show _ = T from hT)]
      rw [bare_eq, txK_cons, txK_nil]
      simp [pre, post, kidL]
    have hlk := app_le (show _ = T from hT2) hl
    have kk := fun (w1 : World) (h1 : Wr w0 B b (acc ++ [45]) w1) => kid_w ⟨6, 1, mod, name, vt, vb⟩ 1 h' k' .nil (ih h' k' (by simp [Exs.size])) 0 (by omega) (acc ++ [45]) w0 w1 B b ao cap (by simpa [Exs.len] using hcap) hmax ok1 ok2 sh1 sh2 hk.rest ht h1 (by rw [show kidL _ (decide (0 = 0)) = 6 by simp [kidL], show _ = T from hT2]; exact hl)
    rw [show kidL _ (decide (0 = 0)) = 6 by simp [kidL], show _ = T from hT2] at kk
    clear hT hT2
    simp only [Exs.len, Nat.zero_add] at hbx f0 hw1 hcap ⊢
    go_enter Tryz.func71, Tryz.ntmps71
    go_wp2_with fail
    go_at_call 53
    refine (wr_byte w0 B b acc 45 45 rfl _ hw1 hlk).mono ?_
    rintro e w2 ⟨rfl, h2, f2⟩
    obtain ⟨c0, c1, c2, c3, c4, c5, c6⟩ := ex_box (bs_keep f2 hbx hne (by decide))
    go_wp2_with fail
    go_at_call 72
    refine (kk _ h2).mono ?_
    rintro e w3 ⟨rfl, h3, f3⟩
    go_wp2_with fail
    go_end0
    exact ⟨rfl, h3, bs_then f0 (bs_trans f2 f3)⟩
set_option maxRecDepth 20000 in
set_option maxHeartbeats 4000000 in
theorem one_2 (vt vb : Int) (mod name : Bs) (k : Exs) (ih : ∀ h' k', k'.size < k.size → WX h' k') (acc T : Bs) (w0 w : World) (B b : Nat) (ao : Option Addr) (cap : Nat) (hx : OkX k) (hsl : ShL k) (h1 : k.len = 1)
    (hk : ExL w0 ao cap k) (ht : F.Tab w0) (hw : Wr w0 B b acc w) (hT : Hidden (acc ++ bare txS ⟨6, 2, mod, name, vt, vb⟩ k = T)) (hl : T.length ≤ 140737488355328) :
    Calls Tryz.prog 71 #[bp b, exV ⟨6, 2, mod, name, vt, vb⟩ (.slice ao k.len cap)] w fun e w' => e = .returned (.tuple #[]) ∧ Wrote w0 B b T w w' := by
  have hmax : cap ≤ 9223372036854775807 := by have := hk.2.1; unfold maxLen at this; omega
  have hcap := hk.1
  have f0 := Fr.alloc (fun _ => False) w (exB ⟨6, 2, mod, name, vt, vb⟩ ao k.len cap)
  have hbx : Hidden ((w.alloc (exB ⟨6, 2, mod, name, vt, vb⟩ ao k.len cap)).heap[w.heap.size]? = some (exB ⟨6, 2, mod, name, vt, vb⟩ ao k.len cap)) := alloc_new _ _
  have hne := ne_bld hw.bld
  have hw1 := hw.quiet f0
  cases k with
  | nil => simp [Exs.len] at h1
  | cons h' k' r' =>
    obtain rfl : r' = .nil := len_nil (by simp only [Exs.len] at h1; omega)
    obtain ⟨ok1, ok2, ok3⟩ := hx
    obtain ⟨sh1, sh2, sh3⟩ := hsl
    have hT2 : Hidden (acc ++ [33] ++ txA txS h' k' 6 = T) := by
      show _ = T
      rw [← (show _ = T from hT)]
      rw [bare_eq, txK_cons, txK_nil]
      simp [pre, post, kidL]
    have hlk := app_le (show _ = T from hT2) hl
    have kk := fun (w1 : World) (h1 : Wr w0 B b (acc ++ [33]) w1) => kid_w ⟨6, 2, mod, name, vt, vb⟩ 1 h' k' .nil (ih h' k' (by simp [Exs.size])) 0 (by omega) (acc ++ [33]) w0 w1 B b ao cap (by simpa [Exs.len] using hcap) hmax ok1 ok2 sh1 sh2 hk.rest ht h1 (by rw [show kidL _ (decide (0 = 0)) = 6 by simp [kidL], show _ = T from hT2]; exact hl)
    rw [show kidL _ (decide (0 = 0)) = 6 by simp [kidL], show _ = T from hT2] at kk
    clear hT hT2
    simp only [Exs.len, Nat.zero_add] at hbx f0 hw1 hcap ⊢
    go_enter Tryz.func71, Tryz.ntmps71
    go_wp2_with fail
    go_at_call 53
    refine (wr_byte w0 B b acc 33 33 rfl _ hw1 hlk).mono ?_
    rintro e w2 ⟨rfl, h2, f2⟩
    obtain ⟨c0, c1, c2, c3, c4, c5, c6⟩ := ex_box (bs_keep f2 hbx hne (by decide))
    go_wp2_with fail
    go_at_call 72
    refine (kk _ h2).mono ?_
    rintro e w3 ⟨rfl, h3, f3⟩
    go_wp2_with fail
    go_end0
    exact ⟨rfl, h3, bs_then f0 (bs_trans f2 f3)⟩
set_option maxRecDepth 20000 in
set_option maxHeartbeats 4000000 in
theorem one_3 (vt vb : Int) (mod name : Bs) (k : Exs) (ih : ∀ h' k', k'.size < k.size → WX h' k') (acc T : Bs) (w0 w : World) (B b : Nat) (ao : Option Addr) (cap : Nat) (hx : OkX k) (hsl : ShL k)
    (hk : ExL w0 ao cap k) (ht : F.Tab w0) (hw : Wr w0 B b acc w) (hT : Hidden (acc ++ bare txS ⟨6, 3, mod, name, vt, vb⟩ k = T)) (hl : T.length ≤ 140737488355328) :
    Calls Tryz.prog 71 #[bp b, exV ⟨6, 3, mod, name, vt, vb⟩ (.slice ao k.len cap)] w fun e w' => e = .returned (.tuple #[]) ∧ Wrote w0 B b T w w' := by
  have hmax : cap ≤ 9223372036854775807 := by have := hk.2.1; unfold maxLen at this; omega
  have hcap := hk.1
  have f0 := Fr.alloc (fun _ => False) w (exB ⟨6, 3, mod, name, vt, vb⟩ ao k.len cap)
  have hbx : Hidden ((w.alloc (exB ⟨6, 3, mod, name, vt, vb⟩ ao k.len cap)).heap[w.heap.size]? = some (exB ⟨6, 3, mod, name, vt, vb⟩ ao k.len cap)) := alloc_new _ _
  have hne := ne_bld hw.bld
  have hw1 := hw.quiet f0
  have hT2 : Hidden (acc ++ [105, 110, 116] ++ [40] ++ txK txS ⟨6, 3, mod, name, vt, vb⟩ true k ++ [41] = T) := by
    show _ = T
    rw [← (show _ = T from hT)]
    simp [bare_eq, pre, post]
  have kc := call_w ⟨6, 3, mod, name, vt, vb⟩ k (by simp) [105, 110, 116] ih acc T w0 _ B b ao cap hx hsl hk ht hw1 hT2 hl
  clear hT hT2
  go_enter Tryz.func71, Tryz.ntmps71
  go_wp2_with fail
  go_at_call 70
  refine kc.mono ?_
  rintro e w3 ⟨rfl, h3, f3⟩
  go_wp2_with fail
  go_end0
  exact ⟨rfl, h3, bs_then f0 f3⟩
set_option maxRecDepth 20000 in
set_option maxHeartbeats 4000000 in
theorem one_4 (vt vb : Int) (mod name : Bs) (k : Exs) (ih : ∀ h' k', k'.size < k.size → WX h' k') (acc T : Bs) (w0 w : World) (B b : Nat) (ao : Option Addr) (cap : Nat) (hx : OkX k) (hsl : ShL k)
    (hk : ExL w0 ao cap k) (ht : F.Tab w0) (hw : Wr w0 B b acc w) (hT : Hidden (acc ++ bare txS ⟨6, 4, mod, name, vt, vb⟩ k = T)) (hl : T.length ≤ 140737488355328) :
    Calls Tryz.prog 71 #[bp b, exV ⟨6, 4, mod, name, vt, vb⟩ (.slice ao k.len cap)] w fun e w' => e = .returned (.tuple #[]) ∧ Wrote w0 B b T w w' := by
  have hmax : cap ≤ 9223372036854775807 := by have := hk.2.1; unfold maxLen at this; omega
  have hcap := hk.1
  have f0 := Fr.alloc (fun _ => False) w (exB ⟨6, 4, mod, name, vt, vb⟩ ao k.len cap)
  have hbx : Hidden ((w.alloc (exB ⟨6, 4, mod, name, vt, vb⟩ ao k.len cap)).heap[w.heap.size]? = some (exB ⟨6, 4, mod, name, vt, vb⟩ ao k.len cap)) := alloc_new _ _
  have hne := ne_bld hw.bld
  have hw1 := hw.quiet f0
  have hT2 : Hidden (acc ++ [102, 108, 111, 97, 116] ++ [40] ++ txK txS ⟨6, 4, mod, name, vt, vb⟩ true k ++ [41] = T) := by
    show _ = T
    rw [← (show _ = T from hT)]
    simp [bare_eq, pre, post]
  have kc := call_w ⟨6, 4, mod, name, vt, vb⟩ k (by simp) [102, 108, 111, 97, 116] ih acc T w0 _ B b ao cap hx hsl hk ht hw1 hT2 hl
  clear hT hT2
  go_enter Tryz.func71, Tryz.ntmps71
  go_wp2_with fail
  go_at_call 70
  refine kc.mono ?_
  rintro e w3 ⟨rfl, h3, f3⟩
  go_wp2_with fail
  go_end0
  exact ⟨rfl, h3, bs_then f0 f3⟩
set_option maxRecDepth 20000 in
set_option maxHeartbeats 4000000 in
theorem bare_1 (op vt vb : Int) (mod name : Bs) (k : Exs) (ih : ∀ h' k', k'.size < k.size → WX h' k') (acc T : Bs) (w0 w : World) (B b : Nat) (ao : Option Addr) (cap : Nat) (hx : OkX k) (hsl : ShL k) (hb0 : 0 ≤ vb) (hb1 : vb < 18446744073709551616) (h1 : vt = 1 → vb < 9223372036854775808) (h0 : k.len = 0)
    (hk : ExL w0 ao cap k) (ht : F.Tab w0) (hw : Wr w0 B b acc w) (hT : Hidden (acc ++ bare txS ⟨1, op, mod, name, vt, vb⟩ k = T)) (hl : T.length ≤ 140737488355328) :
    Calls Tryz.prog 52 #[bp b, exV ⟨1, op, mod, name, vt, vb⟩ (.slice ao k.len cap)] w fun e w' => e = .returned (.tuple #[]) ∧ Wrote w0 B b T w w' := by
  have hmax : cap ≤ 9223372036854775807 := by have := hk.2.1; unfold maxLen at this; omega
  have hcap := hk.1
  have f0 := Fr.alloc (fun _ => False) w (exB ⟨1, op, mod, name, vt, vb⟩ ao k.len cap)
  have hbx : Hidden ((w.alloc (exB ⟨1, op, mod, name, vt, vb⟩ ao k.len cap)).heap[w.heap.size]? = some (exB ⟨1, op, mod, name, vt, vb⟩ ao k.len cap)) := alloc_new _ _
  have hne := ne_bld hw.bld
  have hw1 := hw.quiet f0
  obtain rfl : k = .nil := len_nil h0
  have kt := lit_text vt vb hb0 hb1 h1 _ (tab_fr ht hw1.fr)
  have hT2 : acc ++ txS vt vb = T := by
    rw [← (show _ = T from hT)]
    simp [bare_eq, pre, post, txK_nil]
  clear hT
  go_enter Tryz.func52, Tryz.ntmps52
  go_wp2_with fail
  go_at_call 68
  refine kt.mono ?_
  rintro e w1 ⟨rfl, f1⟩
  go_wp2_with fail
  go_at_call 55
  refine (wr_str w0 B b acc _ _ (hw1.quiet f1) (by rw [hT2]; exact hl)).mono ?_
  rw [hT2]
  rintro e w2 ⟨rfl, h2, f2⟩
  go_wp2_with fail
  go_end0
  exact ⟨rfl, h2, bs_then (f0.same f1) f2⟩
set_option maxRecDepth 20000 in
set_option maxHeartbeats 4000000 in
theorem bare_2 (op vt vb : Int) (mod name : Bs) (k : Exs) (ih : ∀ h' k', k'.size < k.size → WX h' k') (acc T : Bs) (w0 w : World) (B b : Nat) (ao : Option Addr) (cap : Nat) (hx : OkX k) (hsl : ShL k) (h0 : k.len = 0)
    (hk : ExL w0 ao cap k) (ht : F.Tab w0) (hw : Wr w0 B b acc w) (hT : Hidden (acc ++ bare txS ⟨2, op, mod, name, vt, vb⟩ k = T)) (hl : T.length ≤ 140737488355328) :
    Calls Tryz.prog 52 #[bp b, exV ⟨2, op, mod, name, vt, vb⟩ (.slice ao k.len cap)] w fun e w' => e = .returned (.tuple #[]) ∧ Wrote w0 B b T w w' := by
  have hmax : cap ≤ 9223372036854775807 := by have := hk.2.1; unfold maxLen at this; omega
  have hcap := hk.1
  have f0 := Fr.alloc (fun _ => False) w (exB ⟨2, op, mod, name, vt, vb⟩ ao k.len cap)
  have hbx : Hidden ((w.alloc (exB ⟨2, op, mod, name, vt, vb⟩ ao k.len cap)).heap[w.heap.size]? = some (exB ⟨2, op, mod, name, vt, vb⟩ ao k.len cap)) := alloc_new _ _
  have hne := ne_bld hw.bld
  have hw1 := hw.quiet f0
  obtain rfl : k = .nil := len_nil h0
  have hT2 : acc ++ name = T := by
    rw [← (show _ = T from hT)]
    simp [bare_eq, pre, post, txK_nil]
  clear hT
  go_enter Tryz.func52, Tryz.ntmps52
  go_wp2_with fail
  go_at_call 55
  refine (wr_str w0 B b acc name _ hw1 (by rw [hT2]; exact hl)).mono ?_
  rw [hT2]
  rintro e w2 ⟨rfl, h2, f2⟩
  go_wp2_with fail
  go_end0
  exact ⟨rfl, h2, bs_then f0 f2⟩
set_option maxRecDepth 20000 in
set_option maxHeartbeats 4000000 in
theorem bare_8 (op vt vb : Int) (mod name : Bs) (k : Exs) (ih : ∀ h' k', k'.size < k.size → WX h' k') (acc T : Bs) (w0 w : World) (B b : Nat) (ao : Option Addr) (cap : Nat) (hx : OkX k) (hsl : ShL k) (h0 : k.len = 0)
    (hk : ExL w0 ao cap k) (ht : F.Tab w0) (hw : Wr w0 B b acc w) (hT : Hidden (acc ++ bare txS ⟨8, op, mod, name, vt, vb⟩ k = T)) (hl : T.length ≤ 140737488355328) :
    Calls Tryz.prog 52 #[bp b, exV ⟨8, op, mod, name, vt, vb⟩ (.slice ao k.len cap)] w fun e w' => e = .returned (.tuple #[]) ∧ Wrote w0 B b T w w' := by
  have hmax : cap ≤ 9223372036854775807 := by have := hk.2.1; unfold maxLen at this; omega
  have hcap := hk.1
  have f0 := Fr.alloc (fun _ => False) w (exB ⟨8, op, mod, name, vt, vb⟩ ao k.len cap)
  have hbx : Hidden ((w.alloc (exB ⟨8, op, mod, name, vt, vb⟩ ao k.len cap)).heap[w.heap.size]? = some (exB ⟨8, op, mod, name, vt, vb⟩ ao k.len cap)) := alloc_new _ _
  have hne := ne_bld hw.bld
  have hw1 := hw.quiet f0
  obtain rfl : k = .nil := len_nil h0
  have hT2 : acc ++ [105, 110, 112, 117, 116] = T := by
    rw [← (show _ = T from hT)]
    simp [bare_eq, pre, post, txK_nil]
  clear hT
  go_enter Tryz.func52, Tryz.ntmps52
  go_wp2_with fail
  go_at_call 55
  refine (wr_str w0 B b acc [105, 110, 112, 117, 116] _ hw1 (by rw [hT2]; exact hl)).mono ?_
  rw [hT2]
  rintro e w2 ⟨rfl, h2, f2⟩
  go_wp2_with fail
  go_end0
  exact ⟨rfl, h2, bs_then f0 f2⟩
set_option maxRecDepth 20000 in
set_option maxHeartbeats 4000000 in
theorem bare_3 (op vt vb : Int) (mod name : Bs) (k : Exs) (ih : ∀ h' k', k'.size < k.size → WX h' k') (acc T : Bs) (w0 w : World) (B b : Nat) (ao : Option Addr) (cap : Nat) (hx : OkX k) (hsl : ShL k) (h0 : k.len = 0)
    (hk : ExL w0 ao cap k) (ht : F.Tab w0) (hw : Wr w0 B b acc w) (hT : Hidden (acc ++ bare txS ⟨3, op, mod, name, vt, vb⟩ k = T)) (hl : T.length ≤ 140737488355328) :
    Calls Tryz.prog 52 #[bp b, exV ⟨3, op, mod, name, vt, vb⟩ (.slice ao k.len cap)] w fun e w' => e = .returned (.tuple #[]) ∧ Wrote w0 B b T w w' := by
  have hmax : cap ≤ 9223372036854775807 := by have := hk.2.1; unfold maxLen at this; omega
  have hcap := hk.1
  have f0 := Fr.alloc (fun _ => False) w (exB ⟨3, op, mod, name, vt, vb⟩ ao k.len cap)
  have hbx : Hidden ((w.alloc (exB ⟨3, op, mod, name, vt, vb⟩ ao k.len cap)).heap[w.heap.size]? = some (exB ⟨3, op, mod, name, vt, vb⟩ ao k.len cap)) := alloc_new _ _
  have hne := ne_bld hw.bld
  have hw1 := hw.quiet f0
  have hfar : mod.length + name.length + 1 ≤ 9223372036854775807 := by
    rw [← (show _ = T from hT)] at hl
    simp only [bare_eq, pre, List.length_append] at hl
    simp at hl
    omega
  have kfar := fun w => N.far_any mod name hfar w
  obtain rfl : k = .nil := len_nil h0
  have hT2 : acc ++ (mod ++ 46 :: name) = T := by
    rw [← (show _ = T from hT)]
    simp [bare_eq, pre, post, txK_nil]
  clear hT
  go_enter Tryz.func52, Tryz.ntmps52
  go_wp2_with fail
  go_at_call 69
  refine (kfar _).mono ?_
  rintro e w1 ⟨rfl, rfl⟩
  go_wp2_with fail
  go_at_call 55
  refine (wr_str w0 B b acc (mod ++ 46 :: name) _ hw1 (by rw [hT2]; exact hl)).mono ?_
  rw [hT2]
  rintro e w2 ⟨rfl, h2, f2⟩
  go_wp2_with fail
  go_end0
  exact ⟨rfl, h2, bs_then f0 f2⟩
set_option maxRecDepth 20000 in
set_option maxHeartbeats 4000000 in
theorem bare_4 (op vt vb : Int) (mod name : Bs) (k : Exs) (ih : ∀ h' k', k'.size < k.size → WX h' k') (acc T : Bs) (w0 w : World) (B b : Nat) (ao : Option Addr) (cap : Nat) (hx : OkX k) (hsl : ShL k)
    (hk : ExL w0 ao cap k) (ht : F.Tab w0) (hw : Wr w0 B b acc w) (hT : Hidden (acc ++ bare txS ⟨4, op, mod, name, vt, vb⟩ k = T)) (hl : T.length ≤ 140737488355328) :
    Calls Tryz.prog 52 #[bp b, exV ⟨4, op, mod, name, vt, vb⟩ (.slice ao k.len cap)] w fun e w' => e = .returned (.tuple #[]) ∧ Wrote w0 B b T w w' := by
  have hmax : cap ≤ 9223372036854775807 := by have := hk.2.1; unfold maxLen at this; omega
  have hcap := hk.1
  have f0 := Fr.alloc (fun _ => False) w (exB ⟨4, op, mod, name, vt, vb⟩ ao k.len cap)
  have hbx : Hidden ((w.alloc (exB ⟨4, op, mod, name, vt, vb⟩ ao k.len cap)).heap[w.heap.size]? = some (exB ⟨4, op, mod, name, vt, vb⟩ ao k.len cap)) := alloc_new _ _
  have hne := ne_bld hw.bld
  have hw1 := hw.quiet f0
  have hT2 : Hidden (acc ++ name ++ [40] ++ txK txS ⟨4, op, mod, name, vt, vb⟩ true k ++ [41] = T) := by
    show _ = T
    rw [← (show _ = T from hT)]
    simp [bare_eq, pre, post]
  have kc := call_w ⟨4, op, mod, name, vt, vb⟩ k (by simp) name ih acc T w0 _ B b ao cap hx hsl hk ht hw1 hT2 hl
  clear hT hT2
  go_enter Tryz.func52, Tryz.ntmps52
  go_wp2_with fail
  go_at_call 70
  refine kc.mono ?_
  rintro e w3 ⟨rfl, h3, f3⟩
  go_wp2_with fail
  go_end0
  exact ⟨rfl, h3, bs_then f0 f3⟩
set_option maxRecDepth 20000 in
set_option maxHeartbeats 4000000 in
theorem bare_5 (op vt vb : Int) (mod name : Bs) (k : Exs) (ih : ∀ h' k', k'.size < k.size → WX h' k') (acc T : Bs) (w0 w : World) (B b : Nat) (ao : Option Addr) (cap : Nat) (hx : OkX k) (hsl : ShL k)
    (hk : ExL w0 ao cap k) (ht : F.Tab w0) (hw : Wr w0 B b acc w) (hT : Hidden (acc ++ bare txS ⟨5, op, mod, name, vt, vb⟩ k = T)) (hl : T.length ≤ 140737488355328) :
    Calls Tryz.prog 52 #[bp b, exV ⟨5, op, mod, name, vt, vb⟩ (.slice ao k.len cap)] w fun e w' => e = .returned (.tuple #[]) ∧ Wrote w0 B b T w w' := by
  have hmax : cap ≤ 9223372036854775807 := by have := hk.2.1; unfold maxLen at this; omega
  have hcap := hk.1
  have f0 := Fr.alloc (fun _ => False) w (exB ⟨5, op, mod, name, vt, vb⟩ ao k.len cap)
  have hbx : Hidden ((w.alloc (exB ⟨5, op, mod, name, vt, vb⟩ ao k.len cap)).heap[w.heap.size]? = some (exB ⟨5, op, mod, name, vt, vb⟩ ao k.len cap)) := alloc_new _ _
  have hne := ne_bld hw.bld
  have hw1 := hw.quiet f0
  have hfar : mod.length + name.length + 1 ≤ 9223372036854775807 := by
    rw [← (show _ = T from hT)] at hl
    simp only [bare_eq, pre, List.length_append] at hl
    simp at hl
    omega
  have kfar := fun w => N.far_any mod name hfar w
  have hT2 : Hidden (acc ++ (mod ++ 46 :: name) ++ [40] ++ txK txS ⟨5, op, mod, name, vt, vb⟩ true k ++ [41] = T) := by
    show _ = T
    rw [← (show _ = T from hT)]
    simp [bare_eq, pre, post]
  have kc := fun (w1 : World) (h1 : Wr w0 B b acc w1) => call_w ⟨5, op, mod, name, vt, vb⟩ k (by simp) (mod ++ 46 :: name) ih acc T w0 w1 B b ao cap hx hsl hk ht h1 hT2 hl
  clear hT hT2
  go_enter Tryz.func52, Tryz.ntmps52
  go_wp2_with fail
  go_region_held3 (fun w' => w'.cell? ⟨w.heap.size, 0, none⟩ = some (ci 5) ∧ w'.cell? ⟨w.heap.size, 1, none⟩ = some (ci op) ∧ w'.cell? ⟨w.heap.size, 2, none⟩ = some (ct mod) ∧ w'.cell? ⟨w.heap.size, 3, none⟩ = some (ct name) ∧ w'.cell? ⟨w.heap.size, 4, none⟩ = some (ci vt) ∧ w'.cell? ⟨w.heap.size, 5, none⟩ = some (.int .u64 vb) ∧ w'.cell? ⟨w.heap.size, 6, none⟩ = some (.slice ao k.len cap)) (go_keep) (first
    | (go_at_call 69; refine (kfar _).mono ?_; rintro e w1 ⟨rfl, rfl⟩)
    | (go_at_call 70; refine (kc _ (hw1.quiet (Fr.drew _ _))).mono ?_; rintro e w3 ⟨rfl, h3, f3⟩; obtain ⟨x0, x1, x2, x3, x4, x5, x6⟩ := ex_box (bs_keep f3 ((Fr.drew (fun _ => False) _).heap hbx (fun f => f)) hne (by decide))))
  all_goals
    go_wp2_with fail
    go_end0
    exact ⟨rfl, h3, bs_then (f0.same (Fr.drew _ _)) f3⟩
set_option maxRecDepth 20000 in
set_option maxHeartbeats 4000000 in
theorem bare_6 (op vt vb : Int) (mod name : Bs) (k : Exs) (ih : ∀ h' k', k'.size < k.size → WX h' k') (acc T : Bs) (w0 w : World) (B b : Nat) (ao : Option Addr) (cap : Nat) (hx : OkX k) (hsl : ShL k) (o1 : 1 ≤ op) (o2 : op ≤ 4) (h1 : k.len = 1)
    (hk : ExL w0 ao cap k) (ht : F.Tab w0) (hw : Wr w0 B b acc w) (hT : Hidden (acc ++ bare txS ⟨6, op, mod, name, vt, vb⟩ k = T)) (hl : T.length ≤ 140737488355328) :
    Calls Tryz.prog 52 #[bp b, exV ⟨6, op, mod, name, vt, vb⟩ (.slice ao k.len cap)] w fun e w' => e = .returned (.tuple #[]) ∧ Wrote w0 B b T w w' := by
  have hmax : cap ≤ 9223372036854775807 := by have := hk.2.1; unfold maxLen at this; omega
  have hcap := hk.1
  have f0 := Fr.alloc (fun _ => False) w (exB ⟨6, op, mod, name, vt, vb⟩ ao k.len cap)
  have hbx : Hidden ((w.alloc (exB ⟨6, op, mod, name, vt, vb⟩ ao k.len cap)).heap[w.heap.size]? = some (exB ⟨6, op, mod, name, vt, vb⟩ ao k.len cap)) := alloc_new _ _
  have hne := ne_bld hw.bld
  have hw1 := hw.quiet f0
  have kc : Calls Tryz.prog 71 #[bp b, exV ⟨6, op, mod, name, vt, vb⟩ (.slice ao k.len cap)] (w.alloc (exB ⟨6, op, mod, name, vt, vb⟩ ao k.len cap)) fun e w' => e = .returned (.tuple #[]) ∧ Wrote w0 B b T (w.alloc (exB ⟨6, op, mod, name, vt, vb⟩ ao k.len cap)) w' := by
    obtain rfl | rfl | rfl | rfl : op = 1 ∨ op = 2 ∨ op = 3 ∨ op = 4 := by omega
    · exact one_1 vt vb mod name k ih acc T w0 _ B b ao cap hx hsl h1 hk ht hw1 hT hl
    · exact one_2 vt vb mod name k ih acc T w0 _ B b ao cap hx hsl h1 hk ht hw1 hT hl
    · exact one_3 vt vb mod name k ih acc T w0 _ B b ao cap hx hsl hk ht hw1 hT hl
    · exact one_4 vt vb mod name k ih acc T w0 _ B b ao cap hx hsl hk ht hw1 hT hl
  clear hT h1 o1 o2 ih
  go_enter Tryz.func52, Tryz.ntmps52
  go_wp2_with fail
  go_at_call 71
  refine kc.mono ?_
  rintro e w3 ⟨rfl, h3, f3⟩
  go_wp2_with fail
  go_end0
  exact ⟨rfl, h3, bs_then f0 f3⟩
set_option maxRecDepth 20000 in
set_option maxHeartbeats 4000000 in
theorem bare_7 (op vt vb : Int) (mod name : Bs) (k : Exs) (ih : ∀ h' k', k'.size < k.size → WX h' k') (acc T : Bs) (w0 w : World) (B b : Nat) (ao : Option Addr) (cap : Nat) (hx : OkX k) (hsl : ShL k) (h2 : k.len = 2)
    (hk : ExL w0 ao cap k) (ht : F.Tab w0) (hw : Wr w0 B b acc w) (hT : Hidden (acc ++ bare txS ⟨7, op, mod, name, vt, vb⟩ k = T)) (hl : T.length ≤ 140737488355328) :
    Calls Tryz.prog 52 #[bp b, exV ⟨7, op, mod, name, vt, vb⟩ (.slice ao k.len cap)] w fun e w' => e = .returned (.tuple #[]) ∧ Wrote w0 B b T w w' := by
  have hmax : cap ≤ 9223372036854775807 := by have := hk.2.1; unfold maxLen at this; omega
  have hcap := hk.1
  have f0 := Fr.alloc (fun _ => False) w (exB ⟨7, op, mod, name, vt, vb⟩ ao k.len cap)
  have hbx : Hidden ((w.alloc (exB ⟨7, op, mod, name, vt, vb⟩ ao k.len cap)).heap[w.heap.size]? = some (exB ⟨7, op, mod, name, vt, vb⟩ ao k.len cap)) := alloc_new _ _
  have hne := ne_bld hw.bld
  have hw1 := hw.quiet f0
  cases k with
  | nil => simp [Exs.len] at h2
  | cons h' k' r' =>
    cases r' with
    | nil => simp [Exs.len] at h2
    | cons h'' k'' r'' =>
      obtain rfl : r'' = .nil := len_nil (by simp only [Exs.len] at h2; omega)
      obtain ⟨ok1, ok2, ok3, ok4, ok5⟩ := hx
      obtain ⟨sh1, sh2, sh3, sh4, sh5⟩ := hsl
      have hT2 : Hidden (acc ++ txA txS h' k' (kidL ⟨7, op, mod, name, vt, vb⟩ true) ++ Te.mark op ++ txA txS h'' k'' (kidL ⟨7, op, mod, name, vt, vb⟩ false) = T) := by
        show _ = T
        rw [← (show _ = T from hT)]
        rw [bare_eq, txK_cons, txK_cons, txK_nil]
        simp [pre, post, sep]
      have hl2 := app_le (show _ = T from hT2) hl
      have hl1 : (acc ++ txA txS h' k' (kidL ⟨7, op, mod, name, vt, vb⟩ true)).length ≤ 140737488355328 := by rw [List.length_append] at hl2; omega
      have k1 := kid_w ⟨7, op, mod, name, vt, vb⟩ 2 h' k' (.cons h'' k'' .nil) (ih h' k' (by simp only [Exs.size]; omega)) 0 (by omega) acc w0 _ B b ao cap (by simpa [Exs.len] using hcap) hmax ok1 ok2 sh1 sh2 hk.rest ht hw1 hl1
      have hrow2 : ExR w0 ao (0 + 1) (.cons h'' k'' .nil) := by obtain ⟨_, _, _, _, _, _, hh, _⟩ := hk.rest.next; exact hh
      have k2 := fun (w1 : World) (h1 : Wr w0 B b (acc ++ txA txS h' k' (kidL ⟨7, op, mod, name, vt, vb⟩ true) ++ Te.mark op) w1) => kid_w ⟨7, op, mod, name, vt, vb⟩ 2 h'' k'' .nil (ih h'' k'' (by simp only [Exs.size]; omega)) 1 (by omega) _ w0 w1 B b ao cap (by simpa [Exs.len] using hcap) hmax ok3 ok4 sh3 sh4 hrow2 ht h1 (by rw [show decide (1 = 0) = false by simp, show _ = T from hT2]; exact hl)
      rw [show decide (1 = 0) = false by simp, show _ = T from hT2] at k2
      have km := fun w => mark_text op _ rfl w
      clear hT hT2
      simp only [Exs.len, Nat.zero_add] at hbx f0 hw1 hcap k1 ⊢
      go_enter Tryz.func52, Tryz.ntmps52
      go_wp2_with fail
      go_at_call 72
      refine k1.mono ?_
      rintro e w1 ⟨rfl, h1, f1⟩
      have x1 := bs_keep f1 hbx hne (by decide)
      obtain ⟨c0, c1, c2, c3, c4, c5, c6⟩ := ex_box x1
      go_wp2_with fail
      go_at_call 73
      refine (km _).mono ?_
      rintro e wz ⟨rfl, rfl⟩
      go_wp2_with fail
      go_at_call 55
      refine (wr_str w0 B b _ (Te.mark op) _ h1 hl2).mono ?_
      rintro e w2 ⟨rfl, h2, f2⟩
      obtain ⟨c0, c1, c2, c3, c4, c5, c6⟩ := ex_box (bs_keep f2 x1 hne (by decide))
      go_wp2_with fail
      go_at_call 72
      refine (k2 _ h2).mono ?_
      rintro e w3 ⟨rfl, h3, f3⟩
      go_wp2_with fail
      go_end0
      exact ⟨rfl, h3, bs_then f0 (bs_trans f1 (bs_trans f2 f3))⟩
theorem bare_w (h : EH) (k : Exs) (ih : ∀ h' k', k'.size < k.size → WX h' k') (acc T : Bs) (w0 w : World) (B b : Nat) (ao : Option Addr) (cap : Nat) (ho : OkE h) (hx : OkX k) (hs : ShE h k.len) (hsl : ShL k)
    (hk : ExL w0 ao cap k) (ht : F.Tab w0) (hw : Wr w0 B b acc w) (hT : acc ++ bare txS h k = T) (hl : T.length ≤ 140737488355328) :
    Calls Tryz.prog 52 #[bp b, exV h (.slice ao k.len cap)] w fun e w' => e = .returned (.tuple #[]) ∧ Wrote w0 B b T w w' := by
  obtain ⟨kind, op, mod, name, vt, vb⟩ := h
  rcases hs with ⟨h0, h1, h2⟩ | ⟨h0, h1⟩ | ⟨h0, h1⟩ | h0 | h0 | ⟨h0, h1, h2, h3⟩ | ⟨h0, h1, h2, h3⟩ | ⟨h0, h1⟩ <;> simp only at h0 <;> subst h0
  · exact bare_1 op vt vb mod name k ih acc T w0 w B b ao cap hx hsl ho.vb0 ho.vb1 h1 h2 hk ht hw hT hl
  · exact bare_2 op vt vb mod name k ih acc T w0 w B b ao cap hx hsl h1 hk ht hw hT hl
  · exact bare_3 op vt vb mod name k ih acc T w0 w B b ao cap hx hsl h1 hk ht hw hT hl
  · exact bare_4 op vt vb mod name k ih acc T w0 w B b ao cap hx hsl hk ht hw hT hl
  · exact bare_5 op vt vb mod name k ih acc T w0 w B b ao cap hx hsl hk ht hw hT hl
  · exact bare_6 op vt vb mod name k ih acc T w0 w B b ao cap hx hsl h1 h2 h3 hk ht hw hT hl
  · exact bare_7 op vt vb mod name k ih acc T w0 w B b ao cap hx hsl h3 hk ht hw hT hl
  · exact bare_8 op vt vb mod name k ih acc T w0 w B b ao cap hx hsl h1 hk ht hw hT hl
set_option maxRecDepth 20000 in
set_option maxHeartbeats 4000000 in
theorem wx_step (h : EH) (k : Exs) (ih : ∀ h' k', k'.size < k.size → WX h' k') : WX h k := by
  intro least acc w0 w B b ao cap ho hx hs hsl hk ht hw hl
  have f0 := Fr.alloc (fun _ => False) w (exB h ao k.len cap)
  have hbx : Hidden ((w.alloc (exB h ao k.len cap)).heap[w.heap.size]? = some (exB h ao k.len cap)) := alloc_new _ _
  have hne := ne_bld hw.bld
  have klev := fun w => level_any h (.slice ao k.len cap) ⟨_, _, _, rfl⟩ _ rfl w
  by_cases hlv : level h < least
  · have e1 : txA txS h k least = 40 :: (bare txS h k ++ [41]) := by simp [txA, par, hlv]
    rw [e1] at hl ⊢
    have hT : acc ++ [40] ++ bare txS h k ++ [41] = acc ++ 40 :: (bare txS h k ++ [41]) := by simp
    have hl3 := app_le hT hl
    have hl2 := app_le (rfl : (acc ++ [40]) ++ bare txS h k = _) hl3
    have kb := fun (w1 : World) (h1 : Wr w0 B b (acc ++ [40]) w1) => bare_w h k ih (acc ++ [40]) _ w0 w1 B b ao cap ho hx hs hsl hk ht h1 rfl hl3
    have hng : ¬ least ≤ level h := by omega
    clear e1
    go_enter Tryz.func38, Tryz.ntmps38
    go_wp2_with fail
    go_at_call 47
    refine (klev _).mono ?_
    rintro e w1 ⟨rfl, f1⟩
    have x1 := f1.heap hbx (fun f => f)
    have g1 := f0.same f1
    go_wp2_with fail
    go_at_call 53
    refine (wr_byte w0 B b acc 40 40 rfl _ (hw.quiet g1) hl2).mono ?_
    rintro e w2 ⟨rfl, h2, f2⟩
    obtain ⟨c0, c1, c2, c3, c4, c5, c6⟩ := ex_box (bs_keep f2 x1 hne (by decide))
    go_wp2_with fail
    go_at_call 52
    refine (kb _ h2).mono ?_
    rintro e w3 ⟨rfl, h3, f3⟩
    go_wp2_with fail
    go_at_call 53
    refine (wr_byte w0 B b _ 41 41 rfl _ h3 (by rw [hT]; exact hl)).mono ?_
    rw [hT]
    rintro e w4 ⟨rfl, h4, f4⟩
    go_wp2_with fail
    go_end0
    exact ⟨rfl, h4, bs_then g1 (bs_trans f2 (bs_trans f3 f4))⟩
  · have e1 : txA txS h k least = bare txS h k := by simp [txA, par, hlv]
    rw [e1] at hl ⊢
    have kb := fun (w1 : World) (h1 : Wr w0 B b acc w1) => bare_w h k ih acc _ w0 w1 B b ao cap ho hx hs hsl hk ht h1 rfl hl
    have hng : least ≤ level h := by omega
    clear e1
    go_enter Tryz.func38, Tryz.ntmps38
    go_wp2_with fail
    go_at_call 47
    refine (klev _).mono ?_
    rintro e w1 ⟨rfl, f1⟩
    obtain ⟨c0, c1, c2, c3, c4, c5, c6⟩ := ex_box (f1.heap hbx (fun f => f))
    have g1 := f0.same f1
    go_wp2_with fail
    go_at_call 52
    refine (kb _ (hw.quiet g1)).mono ?_
    rintro e w3 ⟨rfl, h3, f3⟩
    go_wp2_with fail
    refine bodyPost_ret (results_none rfl _ _ _) rfl ?_
    exact ⟨rfl, h3, bs_then g1 f3⟩
theorem wx_any (h : EH) (k : Exs) : WX h k := by
  have : ∀ (n : Nat) (h : EH) (k : Exs), k.size < n → WX h k := by
    intro n
    induction n with
    | zero => intro h k hk; omega
    | succ n ih => intro h k hk; exact wx_step h k (fun h' k' hk' => ih h' k' (by omega))
  exact this (k.size + 1) h k (by omega)
set_option maxRecDepth 20000 in
theorem exprText_any (h : EH) (k : Exs) (v : Value) (w : World) (ho : OkE h) (hx : OkX k) (hs : ShE h k.len) (hsl : ShL k) (hv : ExI w h k v) (ht : F.Tab w) (hl : (txA txS h k 1).length ≤ 140737488355328) :
    Calls Tryz.prog 20 #[v] w fun e w' => e = .returned (ct (txA txS h k 1)) ∧ Fr (fun _ => False) w w' := by
  obtain ⟨ao, cap, rfl, hk⟩ := hv
  have f0 := Fr.alloc (fun _ => False) w (exB h ao k.len cap)
  have hq : Hidden ((w.alloc (exB h ao k.len cap)).heap[w.heap.size]? = some (exB h ao k.len cap)) := alloc_new _ _
  generalize hW : w.alloc (exB h ao k.len cap) = W1 at f0 hq
  have hWs : W1.heap.size = w.heap.size + 1 := by rw [← hW]; simp
  have f1 := Fr.alloc (fun _ => False) W1 (.cells #[.pointer none, .slice none 0 0] 81 (0, 0))
  have hb0 : Hidden (Bld W1.heap.size W1.heap.size [] (W1.alloc (.cells #[.pointer none, .slice none 0 0] 81 (0, 0)))) :=
    Or.inl ⟨Nat.le_refl _, _, alloc_new _ _, World.ownsRow_nil _ _ _ _, by simp [Value.ownBlock]⟩
  have kw := wx_any h k 1 [] W1 (W1.alloc (.cells #[.pointer none, .slice none 0 0] 81 (0, 0))) W1.heap.size W1.heap.size ao cap ho hx hs hsl (hk.keep f0) (tab_fr ht f0) ⟨f1, Nat.le_refl _, by simp, hb0⟩ (by simpa using hl)
  rw [List.nil_append] at kw
  obtain ⟨c0, c1, c2, c3, c4, c5, c6⟩ := ex_box (f1.heap hq (fun f => f))
  subst hW
  clear hb0 hq
  rw [hWs] at kw
  go_enter Tryz.func20, Tryz.ntmps20
  go_wp2_with fail
  go_at_call 38
  refine kw.mono ?_
  rintro e w2 ⟨rfl, h2, f2⟩
  have ks := Tryz.Builder_String_any (w.heap.size + 1) (w.heap.size + 1) (txA txS h k 1) w2 h2.bld h2.size
  go_wp2_with fail
  go_at_call 39
  refine ks.mono ?_
  rintro e w3 ⟨rfl, hb2⟩
  go_wp2_with fail
  go_ret
  exact ⟨rfl, (f0.same h2.fr).over (fr_below (S := fun k => w.heap.size + 1 ≤ k) hb2 (fun k h => h)) (fun k h => by have : w.heap.size + 1 ≤ k := h; omega)⟩
end Go.Proofs.YtncachlopnpcjaaGreatDoor

namespace Go.Proofs.YtncachlopnpcjaaGreatDoor.P
open Go.RowKit Te
set_option linter.unusedSimpArgs false
set_option linter.unusedVariables false

abbrev Bat (B b : Nat) (p : Value) (bs : Bs) (w : World) : Prop := Lib.BuilderAt 85 5 B b p (Lib.byteCells bs) w
abbrev Bld (B b : Nat) (bs : Bs) (w : World) : Prop := Lib.IsBuilder 85 5 B b (Lib.byteCells bs) w
theorem info_bld : (Tryz.prog.info? 81).map (·.size) = some 2 := by kernel_rfl
theorem lies_bld : liesAt Tryz.prog Tryz.prog.depth 85 (2 / Tryz.prog.cellsOf 85) 0 81 1 = true := by kernel_rfl

set_option maxHeartbeats 1000000 in
set_option maxRecDepth 100000 in
theorem cc_used (b : Nat) (w : World) (h0 : w.cell? ⟨b, 0, none⟩ = some (.pointer (some ⟨b, 0, none⟩))) :
    Calls Tryz.prog 74 #[.pointer (some ⟨b, 0, none⟩)] w fun e w' => e = .returned (.tuple #[]) ∧ w' = w := by
  obtain ⟨i, hi, _⟩ := Option.map_eq_some_iff.1 info_bld
  go_enter Tryz.func74, Tryz.ntmps74
  go_wp2
  rw [Lib.run_neq_ptr_same w _ Tryz.underlying78 hi]
  go_wp2
  go_end0
  exact ⟨rfl, rfl⟩
set_option maxHeartbeats 1000000 in
set_option maxRecDepth 100000 in
theorem cc_fresh (b : Nat) (w : World) (h0 : w.cell? ⟨b, 0, none⟩ = some (.pointer none)) (hsh : w.shape? b = some (85, 2)) (hfz : w.frozen? ⟨b, 0, none⟩ = false) :
    Calls Tryz.prog 74 #[.pointer (some ⟨b, 0, none⟩)] w fun e w' => e = .returned (.tuple #[]) ∧ w' = w.setCell ⟨b, 0, none⟩ (.pointer (some ⟨b, 0, none⟩)) := by
  obtain ⟨i, hi, his⟩ := Option.map_eq_some_iff.1 info_bld
  go_enter Tryz.func74, Tryz.ntmps74
  go_wp2
  rw [Lib.run_to_unsafe w ⟨b, 0, none⟩ Tryz.underlying78 Tryz.underlying141 hi (by rw [his]; decide) hsh (Nat.zero_lt_succ 1)]
  simp only [Result.andThen]
  rw [Oper.upon_value]
  go_wp2
  rw [run_callFunc_extern Tryz.func96 (by kernel_rfl) (by kernel_rfl) (by kernel_rfl) (e := Extern.AbiNoEscape.same) (by kernel_rfl)]
  rw [Lib.run_noEscape]
  simp only [Result.andThen]
  rw [Oper.upon_value]
  go_wp2
  rw [Lib.run_from_unsafe w ⟨b, 0, none⟩ Tryz.underlying141 Tryz.underlying78 hi hsh lies_bld]
  simp only [Result.andThen]
  rw [Oper.upon_value]
  go_wp2
  go_end0
  exact ⟨rfl, rfl⟩
theorem cc_any (B b : Nat) (bs : Bs) (w : World) (h : Bld B b bs w) :
    Calls Tryz.prog 74 #[.pointer (some ⟨b, 0, none⟩)] w fun e w' => e = .returned (.tuple #[]) ∧ Bat B b (.pointer (some ⟨b, 0, none⟩)) bs w' ∧ Fr (fun k => k = b) w w' := by
  rcases h with h | h
  · exact (cc_fresh b w h.cell0 h.shape h.frozen0).mono fun e w' ⟨h1, h2⟩ => ⟨h1, by rw [h2]; exact h.used _, by rw [h2]; exact Fr.setCell w ⟨b, 0, none⟩ _⟩
  · exact (cc_used b w h.cell0).mono fun e w' ⟨h1, h2⟩ => ⟨h1, by rw [h2]; exact h, by rw [h2]; exact Fr.refl _ _⟩

set_option maxHeartbeats 1000000 in
set_option maxRecDepth 100000 in
theorem wbyte_any (B b : Nat) (bs : Bs) (c : UInt8) (w : World) (h : Bld B b bs w) (hlen : bs.length + 1 ≤ 140737488355328) (hB0 : B ≤ w.heap.size) :
    Calls Tryz.prog 53 #[.pointer (some ⟨b, 0, none⟩), .int .u8 (c.toNat : Int)] w fun e w' => e = .returned .nilIface ∧ Bat B b (.pointer (some ⟨b, 0, none⟩)) (bs ++ [c]) w' ∧ Fr (BS B b w) w w' := by
  obtain ⟨i0, hi, hz⟩ := Option.map_eq_some_iff.1 info_byte
  simp only [Prod.mk.injEq] at hz
  have hbl : (Lib.byteCells bs).length = bs.length := Lib.byteCells_length bs
  have kc := cc_any B b bs w h
  go_enter Tryz.func53, Tryz.ntmps53
  go_wp2_with fail
  go_at_call 74
  refine kc.mono ?_
  rintro e w1 ⟨rfl, h1, f1⟩
  obtain ⟨hB, v, hbk, hown, hne⟩ := h1
  have c0 : w1.cell? ⟨b, 0, none⟩ = some (.pointer (some ⟨b, 0, none⟩)) := cell_of_row _ _ 0 _ _ _ hbk
  have c1 : w1.cell? ⟨b, 1, none⟩ = some v := cell_of_row _ _ 1 _ _ _ hbk
  have hsz := f1.size
  have hlt := lt_of_heap hbk
  go_wp2_with (at_builtin; refine wpList_append_own _ rfl _ _ 79 rfl B 5 i0 (.int .u8 0) 1 1 Tryz.underlying79 hi hz.1 hz.2.1 hz.2.2 rfl (by decide) _ _ _ rfl (hown.alloc _) ⟨w1.heap.size, 0, none⟩ 1 1 [.int .u8 (c.toNat : Int)] rfl rfl ?c1 ?c2 ?c3 ?c4 ?c5 ?_)
  case c1 =>
    intro j u hj
    match j, hj with
    | 0, hj => simp at hj; subst hj; simp [Addr.add]
  case c2 => intro u hu; simp at hu; subst hu; rfl
  case c3 => unfold maxLen; omega
  case c4 => omega
  case c5 => simp; omega
  intro v' w2 hown' hgrow _
  have hb2 : w2.heap[b]? = some (.cells #[.pointer (some ⟨b, 0, none⟩), v] 85 (0, 0)) := by
    rw [hgrow.block b (by simp; omega) (fun e => hne e.symm), alloc_old w1 _ b hlt]
    exact hbk
  have d0 : w2.cell? ⟨b, 0, none⟩ = some (.pointer (some ⟨b, 0, none⟩)) := cell_of_row _ _ 0 _ _ _ hb2
  have d1 : w2.cell? ⟨b, 1, none⟩ = some v := cell_of_row _ _ 1 _ _ _ hb2
  have d2 : w2.frozen? ⟨b, 1, none⟩ = false := frozen_row hb2 1
  obtain ⟨g, cap, rfl⟩ : ∃ g cap, v' = .slice (some ⟨g, 0, none⟩) (bs.length + 1) cap := by
    rcases hown'.2 with ⟨_, h0⟩ | ⟨g, cap, cur, hv, _⟩
    · omega
    · exact ⟨g, cap, hv⟩
  go_wp2
  go_ret
  refine ⟨rfl, ?_, ?_⟩
  · refine Lib.BuilderAt.put hB hb2 (bs' := Lib.byteCells (bs ++ [c])) ?_ (by decide)
    have e : Lib.byteCells (bs ++ [c]) = Lib.byteCells bs ++ [.int .u8 (c.toNat : Int)] := by simp [Lib.byteCells]
    rw [e, List.length_append, hbl]
    simpa using hown'
  · have g1 : Fr (BS B b w) w w1 := f1.mono (fun k _ hk => Or.inl hk)
    refine ((g1.same (Fr.alloc _ _ _)).trans (Fr.grown hgrow) ?_).trans (Fr.setCell _ _ _) (fun k _ hk => Or.inl hk)
    intro k hk hrow
    obtain ⟨h1, cur, fr, h2⟩ := bs_row hown k hrow.symm
    by_cases hkb : k = b
    · exact Or.inl hkb
    · exact Or.inr ⟨h1, cur, fr, by rw [← f1.block k hk hkb]; exact h2⟩
set_option maxHeartbeats 1000000 in
set_option maxRecDepth 100000 in
theorem wstr_any (B b : Nat) (bs s : Bs) (w : World) (h : Bld B b bs w) (hlen : bs.length + s.length ≤ 140737488355328) (hB0 : B ≤ w.heap.size) :
    Calls Tryz.prog 55 #[.pointer (some ⟨b, 0, none⟩), .string ⟨s.toArray⟩] w fun e w' => e = .returned (.tuple #[.int .i64 (s.length : Int), .nilIface]) ∧ Bat B b (.pointer (some ⟨b, 0, none⟩)) (bs ++ s) w' ∧ Fr (BS B b w) w w' := by
  obtain ⟨i0, hi, hz⟩ := Option.map_eq_some_iff.1 info_byte
  simp only [Prod.mk.injEq] at hz
  have hbl : Hidden ((Lib.byteCells bs).length = bs.length) := Lib.byteCells_length bs
  have hs := str_len s
  have kc := cc_any B b bs w h
  go_enter Tryz.func55, Tryz.ntmps55
  go_wp2_with fail
  go_at_call 74
  refine kc.mono ?_
  rintro e w1 ⟨rfl, h1, f1⟩
  obtain ⟨hB, v, hbk, hown, hne⟩ := h1
  have c0 : w1.cell? ⟨b, 0, none⟩ = some (.pointer (some ⟨b, 0, none⟩)) := cell_of_row _ _ 0 _ _ _ hbk
  have c1 : w1.cell? ⟨b, 1, none⟩ = some v := cell_of_row _ _ 1 _ _ _ hbk
  have hsz := f1.size
  have hlt := lt_of_heap hbk
  have hs2 : (⟨s.toArray⟩ : ByteArray).size = s.length := by simp [ByteArray.size]
  have hb0 : (Lib.byteCells bs).length = bs.length := hbl
  go_wp2_with (at_builtin; refine Lib.wpList_append_own_string _ rfl _ _ 79 9 rfl B 5 i0 Tryz.underlying79 Tryz.underlying9 hi hz.1 hz.2.1 hz.2.2 _ _ _ rfl hown ⟨s.toArray⟩ rfl ?c3 ?c4 ?c5 ?_)
  case c3 => unfold maxLen; omega
  case c4 => omega
  case c5 => omega
  intro v' w2 hown' hgrow _
  have hb2 : w2.heap[b]? = some (.cells #[.pointer (some ⟨b, 0, none⟩), v] 85 (0, 0)) := by
    rw [hgrow.block b hlt (fun e => hne e.symm)]
    exact hbk
  have d0 : w2.cell? ⟨b, 0, none⟩ = some (.pointer (some ⟨b, 0, none⟩)) := cell_of_row _ _ 0 _ _ _ hb2
  have d1 : w2.cell? ⟨b, 1, none⟩ = some v := cell_of_row _ _ 1 _ _ _ hb2
  have d2 : w2.frozen? ⟨b, 1, none⟩ = false := frozen_row hb2 1
  obtain ⟨ao, n', cap, rfl⟩ : ∃ ao n' cap, v' = .slice ao n' cap := by
    rcases hown'.2 with ⟨hv, _⟩ | ⟨g, cap, cur, hv, _⟩
    · exact ⟨_, _, _, hv⟩
    · exact ⟨_, _, _, hv⟩
  go_wp2
  go_ret2
  refine ⟨rfl, ?_, ?_⟩
  · refine Lib.BuilderAt.put hB hb2 (bs' := Lib.byteCells (bs ++ s)) ?_ (by decide)
    have e : Lib.byteCells (bs ++ s) = Lib.byteCells bs ++ Lib.strCells ⟨s.toArray⟩ := by simp [Lib.byteCells, Lib.strCells]
    rw [e, List.length_append, hb0]
    simpa [Lib.strCells, hs2] using hown'
  · have g1 : Fr (BS B b w) w w1 := f1.mono (fun k _ hk => Or.inl hk)
    refine (g1.trans (Fr.grown hgrow) ?_).trans (Fr.setCell _ _ _) (fun k _ hk => Or.inl hk)
    intro k hk hrow
    obtain ⟨h1, cur, fr, h2⟩ := bs_row hown k hrow.symm
    by_cases hkb : k = b
    · exact Or.inl hkb
    · exact Or.inr ⟨h1, cur, fr, by rw [← f1.block k hk hkb]; exact h2⟩
end Go.Proofs.YtncachlopnpcjaaGreatDoor.P

namespace Go.Proofs.YtncachlopnpcjaaGreatDoor
open Go.RowKit Te
set_option linter.unusedSimpArgs false
set_option linter.unusedVariables false

theorem cells_byte : Tryz.prog.cellsOf 5 = 1 := by kernel_rfl
set_option maxHeartbeats 1000000 in
set_option maxRecDepth 100000 in
theorem str_p (B b : Nat) (l : Bs) (w : World) (h : P.Bld B b l w) (h0 : l ≠ []) :
    Calls Tryz.prog 39 #[bp b] w fun e w' => e = .returned (ct l) ∧ Below B w w' := by
  obtain ⟨p, hB, v, hbk, hown, hne⟩ : ∃ p, P.Bat B b p l w := by
    rcases h with h | h
    · exact ⟨_, h⟩
    · exact ⟨_, h⟩
  have hl0 : l.length ≠ 0 := by simpa using h0
  have hown2 := hown
  rw [Lib.byteCells_length] at hown
  rcases hown.2 with ⟨_, hz⟩ | ⟨g, cap, cur, rfl, hbg, hg, hnc, hcm, hcs, htake⟩
  · exact absurd hz hl0
  have c1 : w.drew.cell? ⟨b, 1, none⟩ = some (.slice (some ⟨g, 0, none⟩) l.length cap) := by
    have hd : w.drew.heap[b]? = some (.cells #[p, .slice (some ⟨g, 0, none⟩) l.length cap] 85 (0, 0)) := hbk
    exact cell_of_row _ _ 1 _ _ _ hd
  have hgd : w.drew.heap[g]? = some (.cells cur 5 (0, 0)) := hg
  have hsd := Lib.run_unsafeSliceData_row (P := Tryz.prog) (w := w.drew) #[79] 104 ⟨g, 0, none⟩ l.length cap (by omega)
  have hus := Lib.run_unsafeString_row (P := Tryz.prog) w.drew 104 3 9 5 Tryz.underlying104 cells_byte g cur.size (by simp [World.shape?, hgd]) l h0 (by omega) (by unfold maxLen at hcm; omega) (fun j x hx => hown.cells (g := g) rfl j (.int .u8 x.toNat) (by simp [Lib.byteCells, hx]))
  have mixed : Tryz.prog.follows Departure.mixedOrders = true := by kernel_rfl
  clear hown hown2 htake hcs hgd
  go_enter Tryz.func39, Tryz.ntmps39
  go_wp2
  go_region_o
  all_goals (go_wp2; go_ret; exact ⟨rfl, Lib.below_freeze (Below.drew (Below.refl B w)) (p := ⟨g, 0, none⟩) hbg _⟩)

theorem P.bat_low {B b : Nat} {bs : Bs} {w : World} (h : P.Bld B b bs w) : B ≤ b := by
  rcases h with h | h
  · exact h.1
  · exact h.1
theorem P.bld_lt {B b : Nat} {bs : Bs} {w : World} (h : P.Bld B b bs w) : b < w.heap.size := by
  rcases h with ⟨_, v, hb, _⟩ | ⟨_, v, hb, _⟩
  · exact lt_of_heap hb
  · exact lt_of_heap hb
theorem P.bld_keepN {B b : Nat} {bs : List UInt8} {w w' : World} (h : P.Bld B b bs w) (hf : Fr (fun _ => False) w w') : P.Bld B b bs w' := by
  have key : ∀ {p : Value}, P.Bat B b p bs w → P.Bat B b p bs w' := by
    rintro p ⟨h1, v, hb, ho, hn⟩
    refine ⟨h1, v, hf.heap hb (fun f => f), ?_, hn⟩
    obtain ⟨g1, g2⟩ := ho
    refine ⟨g1, ?_⟩
    rcases g2 with h0 | ⟨g, cap, cur, rfl, hb', hg, hr⟩
    · exact Or.inl h0
    · exact Or.inr ⟨g, cap, cur, rfl, hb', hf.heap hg (fun f => f), hr⟩
  rcases h with h | h
  · exact Or.inl (key h)
  · exact Or.inr (key h)
/-- Where a module is written: the tree lies ahead of the printer. -/
structure PW (w0 : World) (B b : Nat) (acc : Bs) (w : World) : Prop where
  fr : Fr (fun _ => False) w0 w
  low : w0.heap.size ≤ B
  size : B ≤ w.heap.size
  bld : P.Bld B b acc w
theorem PW.quiet {w0 w w' : World} {B b : Nat} {acc : Bs} (h : PW w0 B b acc w) (f : Fr (fun _ => False) w w') : PW w0 B b acc w' := ⟨h.fr.same f, h.low, Nat.le_trans h.size f.size, P.bld_keepN h.bld f⟩
theorem PW.next {w0 w w' : World} {B b : Nat} {acc acc' : Bs} (h : PW w0 B b acc w) (g : Fr (BS B b w) w w') (hb : P.Bat B b (.pointer (some ⟨b, 0, none⟩)) acc' w') : PW w0 B b acc' w' :=
  ⟨bs_over h.fr g h.low (P.bat_low h.bld), h.low, Nat.le_trans h.size g.size, Or.inr hb⟩
def PWrote (w0 : World) (B b : Nat) (acc : Bs) (w : World) (w' : World) : Prop := PW w0 B b acc w' ∧ Fr (BS B b w) w w'
theorem pw_str (w0 : World) (B b : Nat) (acc s : Bs) (w : World) (h : PW w0 B b acc w) (hl : (acc ++ s).length ≤ 140737488355328) :
    Calls Tryz.prog 55 #[bp b, ct s] w fun e w' => e = .returned (.tuple #[.int .i64 (s.length : Int), .nilIface]) ∧ PWrote w0 B b (acc ++ s) w w' :=
  (P.wstr_any B b acc s w h.bld (by rw [List.length_append] at hl; omega) h.size).mono fun e w' ⟨h1, h2, h3⟩ => ⟨h1, h.next h3 h2, h3⟩
theorem pw_byte (w0 : World) (B b : Nat) (acc : Bs) (c : UInt8) (n : Int) (hn : (c.toNat : Int) = n) (w : World) (h : PW w0 B b acc w) (hl : (acc ++ [c]).length ≤ 140737488355328) :
    Calls Tryz.prog 53 #[bp b, .int .u8 n] w fun e w' => e = .returned .nilIface ∧ PWrote w0 B b (acc ++ [c]) w w' := by
  subst hn
  exact (P.wbyte_any B b acc c w h.bld (by simpa using hl) h.size).mono fun e w' ⟨h1, h2, h3⟩ => ⟨h1, h.next h3 h2, h3⟩
theorem pad_succ (n : Nat) : Te.pad (n + 1) = [32, 32] ++ Te.pad n := by simp [Te.pad, List.replicate_succ]
/-- Parts of a line, in a block of their own. -/
def Prn (w : World) (q : Nat) (l : List Bs) : Prop := w.heap[q]? = some (.cells (l.map ct).toArray 9 (0, 0))
theorem Prn.cell {w : World} {q : Nat} {l : List Bs} (h : Prn w q l) {i : Nat} {x : Bs} (hi : l[i]? = some x) : w.cell? ⟨q, i, none⟩ = some (ct x) := by
  rw [cell_of_row w q i _ 9 (0, 0) h]
  simp [hi]
set_option maxRecDepth 20000 in
set_option maxHeartbeats 4000000 in
theorem line_w (n : Nat) (l : List Bs) (q : Nat) (acc T : Bs) (w0 w : World) (B b : Nat) (hq : Prn w q l) (hqb : q ≠ b) (hn : n ≤ 1000000) (hl9 : l.length ≤ 1000000) (hw : PW w0 B b acc w)
    (hT : Hidden (acc ++ Te.pad n ++ l.flatten ++ [10] = T)) (hl : T.length ≤ 140737488355328) :
    Calls Tryz.prog 42 #[bp b, ci (n : Int), .slice (some ⟨q, 0, none⟩) l.length l.length] w fun e w' => e = .returned (.tuple #[]) ∧ PWrote w0 B b T w w' := by
  go_enter Tryz.func42, Tryz.ntmps42
  go_wp2_with fail
  go_loopg [9] n (fun g iv wr => ∃ (i : Nat) (ac : Bs), iv = ci (i : Int) ∧ i ≤ n ∧ ac ++ Te.pad (n - i) ++ l.flatten ++ [10] = T ∧ g = n - i ∧ PW w0 B b ac wr ∧ Fr (BS B b w) w wr ∧ Prn wr q l)
  case atStart => exact ⟨0, acc, rfl, by omega, hT, rfl, hw, Fr.refl _ _, hq⟩
  case round =>
    obtain ⟨i, ac, rfl, hi, hac, hgk, hwr, hfr, hqr⟩ := hrel
    have hgkH : Hidden (gk = n - i) := hgk
    have hacH : Hidden (ac ++ Te.pad (n - i) ++ l.flatten ++ [10] = T) := hac
    clear hgk hac hT
    by_cases hil : i < n
    · have hT2 : Hidden (ac ++ [32, 32] ++ (Te.pad (n - (i + 1)) ++ (l.flatten ++ [10])) = T) := by
        show _ = T
        rw [← (show _ = T from hacH), show n - i = (n - (i + 1)) + 1 by omega, pad_succ]
        simp
      have hlk := app_le (show _ = T from hT2) hl
      clear hacH
      go_wp2_with fail
      go_at_call 55
      refine (pw_str w0 B b ac [32, 32] _ hwr hlk).mono ?_
      rintro e w2 ⟨rfl, h2, f2⟩
      go_wp2_with fail
      go_roundg (n - (i + 1))
      case measure =>
        have : gk = n - i := hgkH
        omega
      case rel =>
        refine ⟨i + 1, _, by go_num, by omega, ?_, rfl, h2, bs_trans hfr f2, bs_keep f2 hqr hqb (by decide)⟩
        rw [← (show _ = T from hT2)]
        simp
    · obtain rfl : i = n := by omega
      have hT2 : Hidden (ac ++ l.flatten ++ [10] = T) := by
        show _ = T
        rw [← (show _ = T from hacH), Nat.sub_self]
        simp [Te.pad]
      clear hacH
      obtain ⟨V, hV⟩ : ∃ V, V = wr := ⟨wr, rfl⟩
      rw [← hV] at hwr hfr hqr ⊢
      clear hV
      go_wp2_with fail
      go_loopg [18] l.length (fun g iv wr => ∃ (i : Nat) (ac : Bs), iv = ci (i : Int) ∧ i ≤ l.length ∧ ac ++ (l.drop i).flatten ++ [10] = T ∧ g = l.length - i ∧ PW w0 B b ac wr ∧ Fr (BS B b w) w wr ∧ Prn wr q l)
      case atStart => exact ⟨0, ac, rfl, by omega, hT2, rfl, hwr, hfr, hqr⟩
      case round =>
        obtain ⟨j, ac2, rfl, hj, hac, hgk, hwr2, hfr2, hqr2⟩ := hrel
        have hgkH2 : Hidden (gk = l.length - j) := hgk
        have hacH : Hidden (ac2 ++ (l.drop j).flatten ++ [10] = T) := hac
        clear hgk hac hT2
        by_cases hjl : j < l.length
        · obtain ⟨x, hx⟩ : ∃ x, l[j]? = some x := ⟨l[j], List.getElem?_eq_getElem hjl⟩
          have d0 := hqr2.cell hx
          have hT3 : Hidden (ac2 ++ x ++ ((l.drop (j + 1)).flatten ++ [10]) = T) := by
            show _ = T
            rw [← (show _ = T from hacH), drop_at hx]
            simp
          have hlk := app_le (show _ = T from hT3) hl
          clear hacH
          go_wp2_with fail
          go_at_call 55
          refine (pw_str w0 B b ac2 x _ hwr2 hlk).mono ?_
          rintro e w2 ⟨rfl, h2, f2⟩
          go_wp2_with fail
          go_roundg (l.length - (j + 1))
          case measure =>
            have : gk = l.length - j := hgkH2
            omega
          case rel =>
            refine ⟨j + 1, _, by go_num, by omega, ?_, rfl, h2, bs_trans hfr2 f2, bs_keep f2 hqr2 hqb (by decide)⟩
            rw [← (show _ = T from hT3)]
            simp
        · obtain rfl : j = l.length := by omega
          have hT3 : ac2 ++ [10] = T := by
            rw [← (show _ = T from hacH), List.drop_length]
            simp
          go_wp2_with fail
          go_at_call 53
          refine (pw_byte w0 B b ac2 10 10 rfl _ hwr2 (by rw [hT3]; exact hl)).mono ?_
          rw [hT3]
          rintro e w3 ⟨rfl, h3, f3⟩
          go_wp2_with fail
          go_end0
          exact ⟨rfl, h3, bs_trans hfr2 f3⟩
end Go.Proofs.YtncachlopnpcjaaGreatDoor

namespace Go.Proofs.YtncachlopnpcjaaGreatDoor
open Go.RowKit Te
set_option linter.unusedSimpArgs false
set_option linter.unusedVariables false

theorem sh_of_fits {h : EH} {n : Nat} (hf : fitsE cnS h n = true) : ShE h n := by
  unfold fitsE at hf
  unfold ShE
  split at hf
  · simp only [Bool.and_eq_true, decide_eq_true_eq] at hf
    refine Or.inl ⟨‹_›, fun hv => ?_, hf.2.2.2.2⟩
    have := hf.1
    simp only [litOk, hv, if_true, decide_eq_true_eq] at this
    exact this
  split at hf
  · simp only [decide_eq_true_eq] at hf; exact Or.inr (Or.inl ⟨‹_›, hf.2.2.2.2⟩)
  split at hf
  · simp only [decide_eq_true_eq] at hf; exact Or.inr (Or.inr (Or.inl ⟨‹_›, hf.2.2.2⟩))
  split at hf
  · exact Or.inr (Or.inr (Or.inr (Or.inl ‹_›)))
  split at hf
  · exact Or.inr (Or.inr (Or.inr (Or.inr (Or.inl ‹_›))))
  split at hf
  · simp only [decide_eq_true_eq] at hf; exact Or.inr (Or.inr (Or.inr (Or.inr (Or.inr (Or.inl ⟨‹_›, hf.1, hf.2.1, hf.2.2.1⟩)))))
  split at hf
  · simp only [decide_eq_true_eq] at hf; exact Or.inr (Or.inr (Or.inr (Or.inr (Or.inr (Or.inr (Or.inl ⟨‹_›, hf.1, hf.2.1, hf.2.2.1⟩))))))
  split at hf
  · simp only [decide_eq_true_eq] at hf; exact Or.inr (Or.inr (Or.inr (Or.inr (Or.inr (Or.inr (Or.inr ⟨‹_›, hf.2.2.2.2.2⟩))))))
  · cases hf
theorem sh_of_err {h : EH} {n : Nat} (he : errH rnS cnS h n = 0) : ShE h n := by
  unfold errH at he
  rw [orE_zero] at he
  apply sh_of_fits
  by_cases hf : fitsE cnS h n = true
  · exact hf
  · rw [if_neg hf] at he; omega
theorem shL_of_err : ∀ (k : Exs), errL rnS cnS k = 0 → ShL k
  | .nil, _ => trivial
  | .cons h k r, he => by
    rw [errL_cons, orE_zero, orE_zero] at he
    exact ⟨sh_of_err he.1.1, shL_of_err k he.1.2, shL_of_err r he.2⟩
theorem txA_one (h : EH) (k : Exs) : txA txS h k 1 = bare txS h k := by
  have := level_pos h
  simp [txA, par]
  omega
set_option maxRecDepth 20000 in
set_option maxHeartbeats 1000000 in
theorem text_x (h : EH) (k : Exs) (v : Value) (w : World) (ho : OkE h) (hx : OkX k) (hv : ExI w h k v) (ht : F.Tab w) (E : Int) (T : Bs) (hE : Hidden (errX rnS cnS h k = E)) (hT : Hidden (bare txS h k = T)) (hl : E = 0 → T.length ≤ 140737488355328) :
    Calls Tryz.prog 8 #[v] w fun e w' => e = .returned (.tuple #[ct (if E = 0 then T else []), ci E]) ∧ Fr (fun _ => False) w w' := by
  obtain ⟨ao, cap, rfl, hk⟩ := hv
  have f0 := Fr.alloc (fun _ => False) w (exB h ao k.len cap)
  have hbx : Hidden ((w.alloc (exB h ao k.len cap)).heap[w.heap.size]? = some (exB h ao k.len cap)) := alloc_new _ _
  have kr := rightX_any h k _ _ ho hx (⟨ao, cap, rfl, hk.keep f0⟩ : ExI (w.alloc (exB h ao k.len cap)) h k (exV h (.slice ao k.len cap)))
  rw [show errX rnS cnS h k = E from hE] at kr
  by_cases h0 : E = 0
  · subst h0
    have hs : errX rnS cnS h k = 0 := hE
    unfold errX at hs
    rw [orE_zero, orE_zero] at hs
    have kt := fun (w1 : World) (f1 : Fr (fun _ => False) w w1) => exprText_any h k (exV h (.slice ao k.len cap)) w1 ho hx (sh_of_err hs.2.1) (shL_of_err k hs.2.2) ⟨ao, cap, rfl, hk.keep f1⟩ (tab_fr ht f1) (by rw [txA_one, show _ = T from hT]; exact hl rfl)
    rw [txA_one, show _ = T from hT] at kt
    clear hs hT hE
    go_enter Tryz.func8, Tryz.ntmps8
    go_wp2_with fail
    go_at_call 19
    refine kr.mono ?_
    rintro e w1 ⟨rfl, f1⟩
    obtain ⟨c0, c1, c2, c3, c4, c5, c6⟩ := ex_box (f1.heap hbx (fun f => f))
    go_wp2_with fail
    go_at_call 20
    refine (kt _ (f0.same f1)).mono ?_
    rintro e w2 ⟨rfl, f2⟩
    go_wp2_with fail
    go_ret2
    exact ⟨rfl, (f0.same f1).same f2⟩
  · have hb : (E != 0) = true := by simp [h0]
    rw [if_neg h0]
    clear hE hT
    go_enter Tryz.func8, Tryz.ntmps8
    go_wp2_with fail
    go_at_call 19
    refine kr.mono ?_
    rintro e w1 ⟨rfl, f1⟩
    go_wp2_with fail
    go_ret2
    exact ⟨rfl, f0.same f1⟩

/-- The contract of writing a declaration. -/
def DeclW (d : De) : Prop := ∀ (pv ev bv : Value) (w0 w : World) (B b : Nat) (acc T : Bs), DeI w0 d pv ev bv → F.Tab w0 → PW w0 B b acc w → Hidden (acc ++ deT txS d = T) → T.length ≤ 140737488355328 →
  Calls Tryz.prog 43 #[bp b, deV d pv ev bv] w fun e w' => e = .returned (.tuple #[]) ∧ PW w0 B b T w'
abbrev impT (x : Bs) : Bs := [105, 109, 112, 111, 114, 116, 32] ++ x ++ [59, 10]
theorem ne_pbld {w : World} {B b : Nat} {bs : Bs} (h : P.Bld B b bs w) : w.heap.size ≠ b := by have := P.bld_lt h; omega
set_option maxRecDepth 20000 in
set_option maxHeartbeats 4000000 in
theorem mtext_w (m : Mo) (v : Value) (w : World) (hv : MoI w m v) (ht : F.Tab w) (hd : ∀ d ∈ m.decls, DeclW d) (T : Bs) (hT : Hidden (moT txS m = T)) (hl : T.length ≤ 140737488355328) :
    Calls Tryz.prog 22 #[v] w fun e w' => e = .returned (ct T) ∧ Fr (fun _ => False) w w' := by
  obtain ⟨ao, cap, ao2, cap2, rfl, hs, hds⟩ := hv
  have m1 : cap ≤ 9223372036854775807 := by have := hs.2.1; unfold maxLen at this; omega
  have m2 : cap2 ≤ 9223372036854775807 := by have := hds.2.1; unfold maxLen at this; omega
  have l1 := hs.1
  have l2 := hds.1
  have f0 := Fr.alloc (fun _ => False) w (moO m (.slice ao m.imports.length cap) (.slice ao2 m.decls.length cap2))
  have hq0 : Hidden ((w.alloc (moO m (.slice ao m.imports.length cap) (.slice ao2 m.decls.length cap2))).heap[w.heap.size]? = some (moO m (.slice ao m.imports.length cap) (.slice ao2 m.decls.length cap2))) := alloc_new _ _
  generalize hW : w.alloc (moO m (.slice ao m.imports.length cap) (.slice ao2 m.decls.length cap2)) = W1 at f0 hq0
  have hWs : W1.heap.size = w.heap.size + 1 := by rw [← hW]; simp
  have hWH : Hidden (w.alloc (moO m (.slice ao m.imports.length cap) (.slice ao2 m.decls.length cap2)) = W1) := hW
  have pw0 : Hidden (PW W1 (w.heap.size + 1) (w.heap.size + 1) [] (W1.alloc (.cells #[.pointer none, .slice none 0 0] 85 (0, 0)))) :=
    ⟨Fr.alloc _ _ _, by omega, by simp; omega, Or.inl ⟨Nat.le_refl _, _, by rw [← hWs]; exact alloc_new _ _, World.ownsRow_nil _ _ _ _, by simp [Value.ownBlock]⟩⟩
  have hT1 : Hidden ([109, 111, 100, 117, 108, 101, 32] ++ m.name ++ [59, 10] ++ (m.imports.flatMap impT ++ m.decls.flatMap (deT txS)) = T) := by
    show _ = T
    rw [← (show _ = T from hT)]
    exact (List.append_assoc _ _ _).symm
  have hT0 := hT1
  have c012 := mo_box ((Fr.alloc (fun _ => False) W1 (.cells #[.pointer none, .slice none 0 0] 85 (0, 0))).heap hq0 (fun f => f))
  obtain ⟨c0, c1, c2⟩ := c012
  clear hT
  have step : ∀ (x pre_ : Bs) (acc : Bs) (wa : World), PW W1 (w.heap.size + 1) (w.heap.size + 1) acc wa → (acc ++ (pre_ ++ x ++ [59, 10])).length ≤ 140737488355328 →
      Calls Tryz.prog 42 #[bp (w.heap.size + 1), ci 0, .slice (some ⟨wa.heap.size, 0, none⟩) 3 3] (wa.alloc (.cells #[ct pre_, ct x, ct [59]] 9)) fun e w' => e = .returned (.tuple #[]) ∧ PW W1 (w.heap.size + 1) (w.heap.size + 1) (acc ++ (pre_ ++ x ++ [59, 10])) w' := by
    intro x pre_ acc wa hp hlen
    have hPs : Prn (wa.alloc (.cells #[ct pre_, ct x, ct [59]] 9)) wa.heap.size [pre_, x, [59]] := alloc_new _ _
    exact (line_w 0 [pre_, x, [59]] wa.heap.size acc _ W1 _ (w.heap.size + 1) (w.heap.size + 1) hPs (ne_pbld hp.bld) (by omega) (by simp) (hp.quiet (Fr.alloc _ _ _)) (by show _ = acc ++ (pre_ ++ x ++ [59, 10]); simp [Te.pad]) hlen).mono fun e w' h => ⟨h.1, h.2.1⟩
  have hl1 : ([] ++ ([109, 111, 100, 117, 108, 101, 32] ++ m.name ++ [59, 10]) : Bs).length ≤ 140737488355328 := by rw [List.nil_append]; exact app_le (show _ = T from hT1) hl
  have k1 := step m.name [109, 111, 100, 117, 108, 101, 32] [] _ pw0 hl1
  have hs2 : (W1.alloc (.cells #[.pointer none, .slice none 0 0] 85 (0, 0))).heap.size = w.heap.size + 2 := by simp; omega
  rw [hs2, List.nil_append] at k1
  rw [← (show _ = W1 from hWH)] at c0 c1 c2 k1
  clear hW hs2 hWs
  go_enter Tryz.func22, Tryz.ntmps22
  go_wp2_with fail
  go_at_call 42
  refine k1.mono ?_
  rw [show _ = W1 from hWH]
  clear c0 c1 c2 k1
  rintro e w2 ⟨rfl, p2⟩
  obtain ⟨c0, c1, c2⟩ := mo_box (p2.fr.heap hq0 (fun f => f))
  go_wp2_with fail
  clear c0 c1 c2
  go_loopg [15] m.imports.length (fun g iv wr => ∃ (i : Nat) (ac : Bs), iv = ci (i : Int) ∧ i ≤ m.imports.length ∧ ac ++ ((m.imports.drop i).flatMap impT ++ m.decls.flatMap (deT txS)) = T ∧ g = m.imports.length - i ∧ PW W1 (w.heap.size + 1) (w.heap.size + 1) ac wr)
  case atStart => exact ⟨0, _, rfl, by omega, hT1, rfl, p2⟩
  case round =>
    obtain ⟨i, ac, rfl, hi, hac, hgk, hp⟩ := hrel
    have hgkH : Hidden (gk = m.imports.length - i) := hgk
    have hacH : Hidden (ac ++ ((m.imports.drop i).flatMap impT ++ m.decls.flatMap (deT txS)) = T) := hac
    clear hgk hac hT1
    by_cases hil : i < m.imports.length
    · obtain ⟨x, hxi⟩ : ∃ x, m.imports[i]? = some x := ⟨m.imports[i], List.getElem?_eq_getElem hil⟩
      rcases hs.2.2 with h0 | ⟨b, off, rfl, hcp⟩
      · rw [h0] at hil; simp at hil
      have d0 := hp.fr.cellN (f0.cellN (hcp i x hxi))
      have hT2 : Hidden (ac ++ impT x ++ ((m.imports.drop (i + 1)).flatMap impT ++ m.decls.flatMap (deT txS)) = T) := by
        show _ = T
        rw [← (show _ = T from hacH), drop_at hxi]
        simp
      have k2 := step x [105, 109, 112, 111, 114, 116, 32] ac wr hp (app_le (show _ = T from hT2) hl)
      clear hacH
      go_wp2_with fail
      go_at_call 42
      refine k2.mono ?_
      rintro e w3 ⟨rfl, p3⟩
      go_wp2_with fail
      go_roundg (m.imports.length - (i + 1))
      case measure =>
        have : gk = m.imports.length - i := hgkH
        omega
      case rel => exact ⟨i + 1, _, by go_num, by omega, hT2, rfl, p3⟩
    · obtain rfl : i = m.imports.length := by omega
      have hT2 : Hidden (ac ++ m.decls.flatMap (deT txS) = T) := by
        show _ = T
        rw [← (show _ = T from hacH), List.drop_length]
        rfl
      clear hacH
      obtain ⟨c0, c1, c2⟩ := mo_box (hp.fr.heap hq0 (fun f => f))
      obtain ⟨V, hV⟩ : ∃ V, V = wr := ⟨wr, rfl⟩
      rw [← hV] at hp c0 c1 c2 ⊢
      clear hV
      go_wp2_with fail
      clear c0 c1 c2
      go_loopg [26] m.decls.length (fun g iv wr => ∃ (i : Nat) (ac : Bs), iv = ci (i : Int) ∧ i ≤ m.decls.length ∧ ac ++ (m.decls.drop i).flatMap (deT txS) = T ∧ g = m.decls.length - i ∧ PW W1 (w.heap.size + 1) (w.heap.size + 1) ac wr)
      case atStart => exact ⟨0, _, rfl, by omega, hT2, rfl, hp⟩
      case round =>
        obtain ⟨j, ac2, rfl, hj, hac, hgk, hp2⟩ := hrel
        have hgkH2 : Hidden (gk = m.decls.length - j) := hgk
        have hacH : Hidden (ac2 ++ (m.decls.drop j).flatMap (deT txS) = T) := hac
        clear hgk hac hT2
        by_cases hjl : j < m.decls.length
        · obtain ⟨d, hdi⟩ : ∃ d, m.decls[j]? = some d := ⟨m.decls[j], List.getElem?_eq_getElem hjl⟩
          rcases hds.2.2 with h0 | ⟨b, off, rfl, hcp⟩
          · rw [h0] at hjl; simp at hjl
          obtain ⟨pv, ev, bv, hI, hcc⟩ := hcp j d hdi
          have ff := f0.same hp2.fr
          have d0 := ff.cellN (hcc 0 _ rfl)
          have d1 := ff.cellN (hcc 1 _ rfl)
          have d2 := ff.cellN (hcc 2 _ rfl)
          have d3 := ff.cellN (hcc 3 _ rfl)
          have d4 := ff.cellN (hcc 4 _ rfl)
          have d5 := ff.cellN (hcc 5 _ rfl)
          have d6 := ff.cellN (hcc 6 _ rfl)
          simp only [Nat.add_zero] at d0
          have hT3 : Hidden (ac2 ++ deT txS d ++ (m.decls.drop (j + 1)).flatMap (deT txS) = T) := by
            show _ = T
            rw [← (show _ = T from hacH), drop_at hdi]
            simp
          have fx := Fr.alloc (fun _ => False) wr (.cells #[ci d.kind, .bool d.ex, ct d.name, ci d.type, pv, ev, bv] 47)
          have k3 := hd d (List.mem_of_getElem? hdi) pv ev bv W1 _ (w.heap.size + 1) (w.heap.size + 1) ac2 _ (hI.keep f0) (tab_fr ht f0) (hp2.quiet fx) rfl (app_le (show _ = T from hT3) hl)
          obtain ⟨_, _, _, _, _, _, rfl, rfl, rfl, _⟩ := hI
          clear hacH
          go_wp2_with fail
          go_at_call 43
          refine k3.mono ?_
          rintro e w3 ⟨rfl, p3⟩
          go_wp2_with fail
          go_roundg (m.decls.length - (j + 1))
          case measure =>
            have : gk = m.decls.length - j := hgkH2
            omega
          case rel => exact ⟨j + 1, _, by go_num, by omega, hT3, rfl, p3⟩
        · obtain rfl : j = m.decls.length := by omega
          have hT3 : ac2 = T := by
            rw [← (show _ = T from hacH), List.drop_length]
            simp
          subst hT3
          have hnn : ac2 ≠ [] := by
            intro h0
            have e : [109, 111, 100, 117, 108, 101, 32] ++ m.name ++ [59, 10] ++ (m.imports.flatMap impT ++ m.decls.flatMap (deT txS)) = ac2 := hT0
            rw [h0] at e
            simp at e
          have ks := str_p (w.heap.size + 1) (w.heap.size + 1) ac2 wr hp2.bld hnn
          go_wp2_with fail
          go_at_call 39
          refine ks.mono ?_
          rintro e w3 ⟨rfl, hb2⟩
          go_wp2_with fail
          go_ret
          exact ⟨rfl, (f0.same hp2.fr).over (fr_below (S := fun k => w.heap.size + 1 ≤ k) hb2 (fun k h => h)) (fun k h => by have : w.heap.size + 1 ≤ k := h; omega)⟩
end Go.Proofs.YtncachlopnpcjaaGreatDoor

namespace Go.Proofs.YtncachlopnpcjaaGreatDoor
open Go.RowKit Te
set_option linter.unusedSimpArgs false
set_option linter.unusedVariables false

/-- What Print answers. -/
def prS (m : Mo) : Bs × Int :=
  if errM rnS cnS m = 0 then (if (Lx.lexS wordsL valS (moT txS m)).2.2 = 3 then ([], 3) else (moT txS m, 0)) else ([], errM rnS cnS m)
set_option maxRecDepth 20000 in
set_option maxHeartbeats 1000000 in
theorem print_w (m : Mo) (v : Value) (w : World) (hok : OkM m) (hv : MoI w m v) (ht : F.Tab w) (hd : errM rnS cnS m = 0 → ∀ d ∈ m.decls, DeclW d) (hl : errM rnS cnS m = 0 → (moT txS m).length ≤ 140737488351232) :
    Calls Tryz.prog 11 #[v] w fun e w' => e = .returned (.tuple #[ct (prS m).1, ci (prS m).2]) ∧ Fr (fun _ => False) w w' := by
  have hv0 := hv
  obtain ⟨ao, cap, ao2, cap2, rfl, hs, hds⟩ := hv
  have f0 := Fr.alloc (fun _ => False) w (moO m (.slice ao m.imports.length cap) (.slice ao2 m.decls.length cap2))
  have hq0 : Hidden ((w.alloc (moO m (.slice ao m.imports.length cap) (.slice ao2 m.decls.length cap2))).heap[w.heap.size]? = some (moO m (.slice ao m.imports.length cap) (.slice ao2 m.decls.length cap2))) := alloc_new _ _
  have kr := right_any m _ _ hok (hv0.keep f0)
  by_cases h0 : errM rnS cnS m = 0
  · have hl0 := hl h0
    have kt := fun (w1 : World) (f1 : Fr (fun _ => False) w w1) => mtext_w m _ w1 (hv0.keep f1) (tab_fr ht f1) (hd h0) _ rfl (by omega)
    obtain ⟨ts, q, c, hlx⟩ : ∃ ts q c, Lx.lexS wordsL valS (moT txS m) = (ts, q, c) := ⟨_, _, _, rfl⟩
    have kx := fun (w1 : World) (f1 : Fr (fun _ => False) w w1) => lex_any (moT txS m) ts q c (by omega) hlx w1 (tab_fr ht f1)
    have hp : prS m = if c = 3 then ([], 3) else (moT txS m, 0) := by unfold prS; rw [if_pos h0, hlx]
    rw [hp]
    rw [h0] at kr
    generalize moT txS m = T at kt kx
    clear hl hd hp hlx h0 hl0
    by_cases h3 : c = 3
    · subst h3
      go_enter Tryz.func11, Tryz.ntmps11
      go_wp2_with fail
      go_at_call 21
      refine kr.mono ?_
      rintro e w1 ⟨rfl, f1⟩
      obtain ⟨c0, c1, c2⟩ := mo_box (f1.heap hq0 (fun f => f))
      go_wp2_with fail
      go_at_call 22
      refine (kt _ (f0.same f1)).mono ?_
      rintro e w2 ⟨rfl, f2⟩
      go_wp2_with fail
      go_at_call 23
      refine (kx _ ((f0.same f1).same f2)).mono ?_
      rintro e w3 ⟨v1, rfl, r1, f3⟩
      go_wp2_with fail
      go_ret2
      exact ⟨rfl, ((f0.same f1).same f2).same f3⟩
    · have n3 : (c == 3) = false := by simp [h3]
      rw [if_neg h3]
      go_enter Tryz.func11, Tryz.ntmps11
      go_wp2_with fail
      go_at_call 21
      refine kr.mono ?_
      rintro e w1 ⟨rfl, f1⟩
      obtain ⟨c0, c1, c2⟩ := mo_box (f1.heap hq0 (fun f => f))
      go_wp2_with fail
      go_at_call 22
      refine (kt _ (f0.same f1)).mono ?_
      rintro e w2 ⟨rfl, f2⟩
      go_wp2_with fail
      go_at_call 23
      refine (kx _ ((f0.same f1).same f2)).mono ?_
      rintro e w3 ⟨v1, rfl, r1, f3⟩
      go_wp2_with fail
      go_ret2
      exact ⟨rfl, ((f0.same f1).same f2).same f3⟩
  · have hp : prS m = ([], errM rnS cnS m) := by unfold prS; rw [if_neg h0]
    rw [hp]
    generalize errM rnS cnS m = E at *
    have hb : (E != 0) = true := by simp [h0]
    clear hl hd hp
    go_enter Tryz.func11, Tryz.ntmps11
    go_wp2_with fail
    go_at_call 21
    refine kr.mono ?_
    rintro e w1 ⟨rfl, f1⟩
    go_wp2_with fail
    go_ret2
    exact ⟨rfl, f0.same f1⟩

/-- A literal of an int; two joined. -/
abbrev lh (n : Int) : EH := ⟨1, 0, [], [], 1, n⟩
theorem info_exT : (Tryz.prog.info? 39).map (fun i => (i.zero, i.size, i.bytes)) = some (some (.agg #[.int .i64 0, .int .i64 0, .string ⟨#[]⟩, .string ⟨#[]⟩, .int .i64 0, .int .u64 0, .slice none 0 0]), 7, 88) := by kernel_rfl
theorem info_ex1 : (Tryz.prog.info? 39).map (·.size) = some 7 := by kernel_rfl
theorem post_cell1 {fn : Func} {R : Ending → World → Prop} {a : Act} {w : World} {p : Tmp} (h : fn.results = #[.cell p 39]) (hd : a.defers = []) (g : Nat) (x0 x1 x2 x3 x4 x5 x6 : Value)
    (hp : a.tmps.getD p undef = .pointer (some ⟨g, 0, none⟩)) (hg : w.heap[g]? = some (.cells #[x0, x1, x2, x3, x4, x5, x6] 39 (0, 0)))
    (hR : R (.returned (.agg #[x0, x1, x2, x3, x4, x5, x6])) w) : bodyPost Tryz.prog fn R .ret a w := by
  refine ⟨hd, _, ?_, hR⟩
  exact results_cell_row h a.tmps w g _ _ _ _ hp hg Tryz.underlying39 rfl info_ex1
set_option maxRecDepth 20000 in
theorem lit_any6 (n : Int) (w : World) : Calls Tryz.prog 10 #[.int .u64 n] w fun e w' => e = .returned (exV (lh n) (.slice none 0 0)) ∧ Fr (fun _ => False) w w' := by
  go_enter Tryz.func10, Tryz.ntmps10
  go_wp2_with fail
  exact post_cell1 rfl rfl w.heap.size _ _ _ _ _ _ _ rfl (alloc_new _ _) ⟨rfl, Fr.alloc _ _ _⟩
set_option maxRecDepth 20000 in
set_option maxHeartbeats 1000000 in
theorem bin_any6 (op : Int) (h1 h2 : EH) (k1 k2 : Exs) (v1 v2 : Value) (w : World) (e1 : ExI w h1 k1 v1) (e2 : ExI w h2 k2 v2) :
    Calls Tryz.prog 9 #[ci op, v1, v2] w fun e w' => (∃ v, e = .returned v ∧ ExI w' (bh op) (two2 h1 k1 h2 k2) v) ∧ Fr (fun _ => False) w w' := by
  obtain ⟨ao1, cap1, rfl, l1⟩ := e1
  obtain ⟨ao2, cap2, rfl, l2⟩ := e2
  go_enter Tryz.func9, Tryz.ntmps9
  go_wp2_with fail
  refine post_cell1 rfl rfl (w.heap.size + 1 + 1) (ci 7) (ci op) (ct []) (ct []) (ci 0) (.int .u64 0) (.slice (some ⟨w.heap.size + 1 + 1 + 1, 0, none⟩) 2 2) rfl ?hg ⟨⟨_, rfl, ?_⟩, ?_⟩
  case hg => exact (alloc_old _ _ _ (by simp)).trans ((congrArg _ (by simp)).trans (alloc_new _ _))
  · refine ⟨some ⟨w.heap.size + 1 + 1 + 1, 0, none⟩, 2, rfl, ?_⟩
    have fr : Fr (fun _ => False) w ((((w.alloc (exB h1 ao1 k1.len cap1)).alloc (exB h2 ao2 k2.len cap2)).alloc (exB (bh op) (some ⟨w.heap.size + 1 + 1 + 1, 0, none⟩) 2 2)).alloc (.cells #[ci h1.kind, ci h1.op, ct h1.mod, ct h1.name, ci h1.vt, .int .u64 h1.vb, .slice ao1 k1.len cap1, ci h2.kind, ci h2.op, ct h2.mod, ct h2.name, ci h2.vt, .int .u64 h2.vb, .slice ao2 k2.len cap2] 39)) := (((Fr.alloc _ _ _).same (Fr.alloc _ _ _)).same (Fr.alloc _ _ _)).same (Fr.alloc _ _ _)
    have m1 := l1.keep fr
    have m2 := l2.keep fr
    have hrow : ((((w.alloc (exB h1 ao1 k1.len cap1)).alloc (exB h2 ao2 k2.len cap2)).alloc (exB (bh op) (some ⟨w.heap.size + 1 + 1 + 1, 0, none⟩) 2 2)).alloc (.cells #[ci h1.kind, ci h1.op, ct h1.mod, ct h1.name, ci h1.vt, .int .u64 h1.vb, .slice ao1 k1.len cap1, ci h2.kind, ci h2.op, ct h2.mod, ct h2.name, ci h2.vt, .int .u64 h2.vb, .slice ao2 k2.len cap2] 39)).heap[w.heap.size + 1 + 1 + 1]? = some (.cells #[ci h1.kind, ci h1.op, ct h1.mod, ct h1.name, ci h1.vt, .int .u64 h1.vb, .slice ao1 k1.len cap1, ci h2.kind, ci h2.op, ct h2.mod, ct h2.name, ci h2.vt, .int .u64 h2.vb, .slice ao2 k2.len cap2] 39 (0, 0)) := (congrArg _ (by simp)).trans (alloc_new _ _)
    generalize ((((w.alloc (exB h1 ao1 k1.len cap1)).alloc (exB h2 ao2 k2.len cap2)).alloc (exB (bh op) (some ⟨w.heap.size + 1 + 1 + 1, 0, none⟩) 2 2)).alloc (.cells #[ci h1.kind, ci h1.op, ct h1.mod, ct h1.name, ci h1.vt, .int .u64 h1.vb, .slice ao1 k1.len cap1, ci h2.kind, ci h2.op, ct h2.mod, ct h2.name, ci h2.vt, .int .u64 h2.vb, .slice ao2 k2.len cap2] 39)) = W at m1 m2 hrow
    have hc : ∀ j, W.cell? ⟨w.heap.size + 1 + 1 + 1, j, none⟩ = (#[ci h1.kind, ci h1.op, ct h1.mod, ct h1.name, ci h1.vt, .int .u64 h1.vb, .slice ao1 k1.len cap1, ci h2.kind, ci h2.op, ct h2.mod, ct h2.name, ci h2.vt, .int .u64 h2.vb, .slice ao2 k2.len cap2] : Array Value)[j]? := fun j => cell_of_row W _ j _ _ _ hrow
    refine ⟨by simp [two2, Exs.len], by simp [maxLen], Or.inr ⟨_, 0, rfl, ⟨⟨ao1, cap1, ?_, m1.1, m1.2.1, m1.2.2⟩, ⟨ao2, cap2, ?_, m2.1, m2.2.1, m2.2.2⟩, trivial⟩⟩⟩
    · intro j x hx
      rw [hc]
      match j, hx with
      | 0, hx => exact hx
      | 1, hx => exact hx
      | 2, hx => exact hx
      | 3, hx => exact hx
      | 4, hx => exact hx
      | 5, hx => exact hx
      | 6, hx => exact hx
      | j + 7, hx => simp [exC] at hx
    · intro j x hx
      rw [hc]
      match j, hx with
      | 0, hx => exact hx
      | 1, hx => exact hx
      | 2, hx => exact hx
      | 3, hx => exact hx
      | 4, hx => exact hx
      | 5, hx => exact hx
      | 6, hx => exact hx
      | j + 7, hx => simp [exC] at hx
  · exact (((Fr.alloc _ _ _).same (Fr.alloc _ _ _)).same (Fr.alloc _ _ _)).same (Fr.alloc _ _ _)
end Go.Proofs.YtncachlopnpcjaaGreatDoor

namespace Go.Proofs.YtncachlopnpcjaaGreatDoor
open Go.RowKit Te
set_option linter.unusedSimpArgs false
set_option linter.unusedVariables false

abbrev l1h : EH := bh 3
abbrev l1k : Exs := two2 (bh 1) (two2 (lh 1) .nil (lh 2) .nil) (lh 3) .nil
theorem it_1 : Lib.itoa 1 = [49] := by decide +kernel
theorem it_2 : Lib.itoa 2 = [50] := by decide +kernel
theorem it_3 : Lib.itoa 3 = [51] := by decide +kernel
theorem live_err : errX rnS cnS l1h l1k = 0 := by decide +kernel
theorem live_txt : bare txS l1h l1k = [40, 49, 32, 43, 32, 50, 41, 32, 42, 32, 51] := by
  have e1 : txS 1 1 = [49] := it_1
  have e2 : txS 1 2 = [50] := it_2
  have e3 : txS 1 3 = [51] := it_3
  simp [bare, txK, pre, post, sep, par, level, lv2, kidL, side, Te.mark, e1, e2, e3]
theorem live_bad : errX rnS cnS (lh 9223372036854775808) .nil = 1 := by decide +kernel
abbrev lm : Mo := ⟨[109], [[107]], []⟩
theorem live_m : errM rnS cnS lm = 0 := by decide +kernel
theorem live_mt : moT txS lm = [109, 111, 100, 117, 108, 101, 32, 109, 59, 10, 105, 109, 112, 111, 114, 116, 32, 107, 59, 10] := rfl
theorem live_lex : (Lx.lexS wordsL valS [109, 111, 100, 117, 108, 101, 32, 109, 59, 10, 105, 109, 112, 111, 114, 116, 32, 107, 59, 10]).2.2 = 0 := by decide +kernel
theorem live_pr : prS lm = ([109, 111, 100, 117, 108, 101, 32, 109, 59, 10, 105, 109, 112, 111, 114, 116, 32, 107, 59, 10], 0) := by
  unfold prS
  rw [if_pos live_m, live_mt, live_lex]
  rfl
theorem okE_lit (n : Int) (h0 : 0 ≤ n) (h1 : n < 18446744073709551616) : OkE (lh n) := ⟨⟨by simp, by simp⟩, ⟨by simp, by simp⟩, ⟨by simp, by simp⟩, h0, h1, by simp [OkN], by simp [OkN]⟩
theorem okE_bin (op : Int) (h : 0 ≤ op ∧ op ≤ 13) : OkE (bh op) := ⟨⟨by simp, by simp⟩, ⟨by simp; omega, by simp; omega⟩, ⟨by simp, by simp⟩, by simp, by simp, by simp [OkN], by simp [OkN]⟩
theorem ExI.lit (w : World) (n : Int) : ExI w (lh n) .nil (exV (lh n) (.slice none 0 0)) := ⟨none, 0, rfl, by simp [Exs.len], by simp [maxLen], Or.inl rfl⟩
set_option maxRecDepth 20000 in
set_option maxHeartbeats 2000000 in
theorem live_any (w : World) (ht : F.Tab w) : Calls Tryz.prog 4 #[] w fun e w' => e = .returned (.bool true) ∧ Fr (fun _ => False) w w' := by
  have kl := fun n w => lit_any6 n w
  go_enter Tryz.func4, Tryz.ntmps4
  go_wp2_with fail
  go_at_call 10
  refine (kl 1 _).mono ?_
  rintro e w1 ⟨rfl, f1⟩
  go_wp2_with fail
  go_at_call 10
  refine (kl 2 _).mono ?_
  rintro e w2 ⟨rfl, f2⟩
  go_wp2_with fail
  go_at_call 9
  refine (bin_any6 1 (lh 1) (lh 2) .nil .nil _ _ _ (ExI.lit _ 1) (ExI.lit _ 2)).mono ?_
  rintro e w3 ⟨⟨v3, rfl, x3⟩, f3⟩
  go_wp2_with fail
  go_at_call 10
  refine (kl 3 _).mono ?_
  rintro e w4 ⟨rfl, f4⟩
  go_wp2_with fail
  go_at_call 9
  refine (bin_any6 3 (bh 1) (lh 3) _ .nil _ _ _ (x3.keep f4) (ExI.lit _ 3)).mono ?_
  rintro e w5 ⟨⟨v5, rfl, x5⟩, f5⟩
  have g5 := (((f1.same f2).same f3).same f4).same f5
  go_wp2_with fail
  go_at_call 8
  refine (text_x l1h l1k v5 w5 (okE_bin 3 (by omega)) ⟨okE_bin 1 (by omega), ⟨okE_lit 1 (by omega) (by omega), trivial, okE_lit 2 (by omega) (by omega), trivial, trivial⟩, okE_lit 3 (by omega) (by omega), trivial, trivial⟩ x5 (tab_fr ht g5) 0 _ live_err live_txt (by decide)).mono ?_
  rintro e w6 ⟨rfl, f6⟩
  have g6 := g5.same f6
  go_wp2_with fail
  go_at_call 10
  refine (kl _ _).mono ?_
  rintro e w7 ⟨rfl, f7⟩
  have g7 := g6.same f7
  go_wp2_with fail
  go_at_call 8
  refine (text_x (lh 9223372036854775808) .nil _ w7 (okE_lit _ (by omega) (by omega)) trivial (ExI.lit _ _) (tab_fr ht g7) 1 _ live_bad rfl (fun h => by omega)).mono ?_
  rintro e w8 ⟨rfl, f8⟩
  have g8 := g7.same f8
  have hmi : MoI (w8.alloc (.cells #[ct [107]] 9)) lm (.agg #[ct [109], .slice (some ⟨w8.heap.size, 0, none⟩) 1 1, .slice none 0 0]) :=
    ⟨some ⟨w8.heap.size, 0, none⟩, 1, none, 0, rfl, ⟨by simp, by simp [maxLen], Or.inr ⟨w8.heap.size, 0, rfl, fun i x hx => by
      match i, hx with
      | 0, hx => simp at hx; subst hx; exact cell_of_row _ _ 0 _ _ _ (alloc_new _ _)⟩⟩, by simp, by simp [maxLen], Or.inl rfl⟩
  have kp := print_w lm _ _ ⟨by simp [OkN], by simp [OkN], by simp⟩ hmi (tab_fr ht (g8.same (Fr.alloc _ _ _))) (fun _ d hd => by simp at hd) (fun _ => by rw [live_mt]; decide)
  rw [live_pr] at kp
  go_wp2_with fail
  go_at_call 11
  refine kp.mono ?_
  rintro e w9 ⟨rfl, f9⟩
  go_wp2_with fail
  go_ret
  exact ⟨rfl, (g8.same (Fr.alloc _ _ _)).same f9⟩
end Go.Proofs.YtncachlopnpcjaaGreatDoor
