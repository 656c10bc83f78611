/- The program writes calls, operators, expressions. -/
import Derived.Test.YtfkccanjdlajlabGreatDoorTrT2
namespace Go.Proofs.YtfkccanjdlajlabGreatDoor
open Go.RowKit Te
set_option linter.unusedSimpArgs false
set_option linter.unusedVariables false

theorem txK_cons (h h' : EH) (f : Bool) (k' r' : Exs) : txK txS h f (.cons h' k' r') = (if f then [] else sep h) ++ txA txS h' k' (kidL h f) ++ txK txS h false r' := rfl
abbrev exB (h : EH) (ao : Option Addr) (n cap : Nat) : Obj := .cells #[ci h.kind, ci h.op, ct h.mod, ct h.name, ci h.vt, .int .u64 h.vb, .slice ao n cap] 44 (0, 0)
set_option maxRecDepth 20000 in
set_option maxHeartbeats 4000000 in
theorem call_w (h : EH) (k : Exs) (hk7 : h.kind ≠ 7) (nm : Bs) (ih : ∀ h' k', k'.size < k.size → WX h' k') (acc T : Bs) (w0 w : World) (B b : Nat) (ao : Option Addr) (cap : Nat) (hx : OkX k) (hsl : ShL k)
    (hk : ExL w0 ao cap k) (ht : F.Tab w0) (hw : Wr w0 B b acc w) (hT : Hidden (acc ++ nm ++ [40] ++ txK txS h true k ++ [41] = T)) (hl : T.length ≤ 140737488355328) :
    Calls Tryz.prog 99 #[bp b, ct nm, exV h (.slice ao k.len cap)] w fun e w' => e = .returned (.tuple #[]) ∧ Wrote w0 B b T w w' := by
  have hmax : cap ≤ 9223372036854775807 := by have := hk.2.1; unfold maxLen at this; omega
  have hcap := hk.1
  have f0 := Fr.alloc (fun _ => False) w (exB h ao k.len cap)
  have hbx : Hidden ((w.alloc (exB h ao k.len cap)).heap[w.heap.size]? = some (exB h ao k.len cap)) := alloc_new _ _
  have hne := ne_bld hw.bld
  have hl1 : (acc ++ nm ++ [40]).length + (txK txS h true k ++ [41]).length ≤ 140737488355328 := by
    rw [← List.length_append]
    rw [← (show _ = T from hT)] at hl
    simpa using hl
  have hsep : sep h = [44, 32] := by simp [sep, hk7]
  go_enter Tryz.func99, Tryz.ntmps99
  go_wp2_with fail
  go_at_call 82
  refine (wr_str w0 B b acc nm _ (hw.quiet f0) (by simp only [List.length_append] at hl1 ⊢; omega)).mono ?_
  rintro e w1 ⟨rfl, h1, f1⟩
  go_wp2_with fail
  go_at_call 77
  refine (wr_byte w0 B b _ 40 40 rfl _ h1 (by simp only [List.length_append] at hl1 ⊢; omega)).mono ?_
  rintro e w2 ⟨rfl, h2, f2⟩
  have x2 : w2.heap[w.heap.size]? = some (exB h ao k.len cap) := bs_keep f2 (bs_keep f1 hbx hne (by decide)) hne (by decide)
  have g2 : Fr (BS B b w) w w2 := bs_then f0 (bs_trans f1 f2)
  obtain ⟨c0, c1, c2, c3, c4, c5, c6⟩ := ex_box x2
  go_wp2_with fail
  clear c0 c1 c2 c3 c4 c5 c6
  go_loopg [15] k.len (fun g iv wr => ∃ (i : Nat) (r : Exs) (ac : Bs), iv = ci (i : Int) ∧ i + r.len = k.len ∧ r.size ≤ k.size ∧ OkX r ∧ ShL r ∧ ExR w0 ao i r ∧ ac ++ txK txS h (decide (i = 0)) r ++ [41] = T ∧ g = r.len ∧ Wr w0 B b ac wr ∧ Fr (BS B b w) w wr ∧ wr.heap[w.heap.size]? = some (exB h ao k.len cap))
  case atStart => exact ⟨0, k, _, rfl, by omega, Nat.le_refl _, hx, hsl, hk.rest, hT, rfl, h2, g2, x2⟩
  case round =>
    obtain ⟨i, r, ac, rfl, hlen2, hsize, hok, hsh, hrow, hdk, hgk, hwr, hfr, hbw⟩ := hrel
    have hgkH : Hidden (gk = r.len) := hgk
    have hdkH : Hidden (ac ++ txK txS h (decide (i = 0)) r ++ [41] = T) := hdk
    have hlenH : Hidden (i + r.len = k.len) := hlen2
    clear hgk hdk hlen2 hT
    cases r with
    | nil =>
      have hi : i = k.len := hlenH
      subst hi
      have hT2 : ac ++ [41] = T := by have : ac ++ [] ++ [41] = T := hdkH; simpa using this
      go_wp2_with fail
      go_at_call 77
      refine (wr_byte w0 B b ac 41 41 rfl _ hwr (by rw [hT2]; exact hl)).mono ?_
      rw [hT2]
      rintro e w3 ⟨rfl, h3, f3⟩
      go_wp2_with fail
      go_end0
      exact ⟨rfl, h3, bs_trans hfr f3⟩
    | cons h' k' r' =>
      have hil : i < k.len := by have : i + (r'.len + 1) = k.len := hlenH; omega
      obtain ⟨ok1, ok2, ok3⟩ := hok
      obtain ⟨sh1, sh2, sh3⟩ := hsh
      simp only [Exs.size] at hsize
      have hrow2 : ExR w0 ao (i + 1) r' := by obtain ⟨_, _, _, _, _, _, hh, _⟩ := hrow.next; exact hh
      obtain ⟨c0, c1, c2, c3, c4, c5, c6⟩ := ex_box hbw
      by_cases h0 : i = 0
      · subst h0
        have hT2 : Hidden (ac ++ txA txS h' k' (kidL h true) ++ (txK txS h false r' ++ [41]) = T) := by
          have : ac ++ ([] ++ txA txS h' k' (kidL h true) ++ txK txS h false r') ++ [41] = T := hdkH
          show _ = T
          rw [← this]
          simp
        have hlk : (ac ++ txA txS h' k' (kidL h true)).length ≤ 140737488355328 := by
          rw [← (show _ = T from hT2), List.length_append] at hl
          omega
        have kk := kid_w h k.len h' k' r' (ih h' k' (by omega)) 0 (by omega) ac w0 wr B b ao cap hcap hmax ok1 ok2 sh1 sh2 hrow ht hwr hlk
        clear hdkH
        go_wp2_with fail
        go_at_call 101
        refine kk.mono ?_
        rintro e w3 ⟨rfl, h3, f3⟩
        go_wp2_with fail
        go_roundg r'.len
        case measure =>
          have : gk = r'.len + 1 := hgkH
          omega
        case rel =>
          refine ⟨1, r', _, by go_num, ?_, by omega, ok3, sh3, hrow2, ?_, rfl, h3, bs_trans hfr f3, bs_keep f3 hbw hne (by decide)⟩
          · have : 0 + (r'.len + 1) = k.len := hlenH
            omega
          · rw [← (show _ = T from hT2)]
            simp
      · have hpos : 0 < i := by omega
        have hT2 : Hidden (ac ++ [44, 32] ++ txA txS h' k' (kidL h false) ++ (txK txS h false r' ++ [41]) = T) := by
          have e1 : decide (i = 0) = false := by simp [h0]
          have e2 := (show ac ++ txK txS h (decide (i = 0)) (.cons h' k' r') ++ [41] = T from hdkH)
          rw [e1, txK_cons, hsep] at e2
          show _ = T
          rw [← e2]
          simp
        have hlk : (ac ++ [44, 32] ++ txA txS h' k' (kidL h false)).length ≤ 140737488355328 := by
          rw [← (show _ = T from hT2), List.length_append] at hl
          omega
        have hlk2 : (ac ++ [44, 32]).length ≤ 140737488355328 := by rw [List.length_append] at hlk; omega
        have e1 : decide (i = 0) = false := by simp [h0]
        have kk := fun (w1 : World) (h1 : Wr w0 B b (ac ++ [44, 32]) w1) => kid_w h k.len h' k' r' (ih h' k' (by omega)) i hil (ac ++ [44, 32]) w0 w1 B b ao cap hcap hmax ok1 ok2 sh1 sh2 hrow ht h1 (by rw [e1]; exact hlk)
        rw [e1] at kk
        clear hdkH h0 e1
        go_wp2_with fail
        go_at_call 82
        refine (wr_str w0 B b ac [44, 32] _ hwr hlk2).mono ?_
        rintro e w2' ⟨rfl, h2', f2'⟩
        have hbw2 := bs_keep f2' hbw hne (by decide)
        obtain ⟨c0, c1, c2, c3, c4, c5, c6⟩ := ex_box hbw2
        go_wp2_with fail
        go_at_call 101
        refine (kk _ h2').mono ?_
        rintro e w3 ⟨rfl, h3, f3⟩
        go_wp2_with fail
        go_roundg r'.len
        case measure =>
          have : gk = r'.len + 1 := hgkH
          omega
        case rel =>
          refine ⟨i + 1, r', _, by go_num, ?_, by omega, ok3, sh3, hrow2, ?_, rfl, h3, bs_trans hfr (bs_trans f2' f3), bs_keep f3 hbw2 hne (by decide)⟩
          · have : i + (r'.len + 1) = k.len := hlenH
            omega
          · rw [← (show _ = T from hT2), show decide (i + 1 = 0) = false by simp]
            simp
end Go.Proofs.YtfkccanjdlajlabGreatDoor
