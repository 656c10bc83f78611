/- The printer: the text of a builder within it; a line. -/
import Derived.Test.YtfkccanjdlajlabGreatDoorTrP
import Derived.Lib.UnsafeStr
namespace Go.Proofs.YtfkccanjdlajlabGreatDoor
open Go.RowKit Te
set_option linter.unusedSimpArgs false
set_option linter.unusedVariables false

theorem cells_byte : Tryz.prog.cellsOf 5 = 1 := by kernel_rfl
set_option maxHeartbeats 1000000 in
set_option maxRecDepth 100000 in
theorem str_p (B b : Nat) (l : Bs) (w : World) (h : P.Bld B b l w) (h0 : l ≠ []) :
    Calls Tryz.prog 61 #[bp b] w fun e w' => e = .returned (ct l) ∧ Below B w w' := by
  obtain ⟨p, hB, v, hbk, hown, hne⟩ : ∃ p, P.Bat B b p l w := by
    rcases h with h | h
    · exact ⟨_, h⟩
    · exact ⟨_, h⟩
  have hl0 : l.length ≠ 0 := by simpa using h0
  have hown2 := hown
  rw [Lib.byteCells_length] at hown
  rcases hown.2 with ⟨_, hz⟩ | ⟨g, cap, cur, rfl, hbg, hg, hnc, hcm, hcs, htake⟩
  · exact absurd hz hl0
  have c1 : w.drew.cell? ⟨b, 1, none⟩ = some (.slice (some ⟨g, 0, none⟩) l.length cap) := by
    have hd : w.drew.heap[b]? = some (.cells #[p, .slice (some ⟨g, 0, none⟩) l.length cap] 105 (0, 0)) := hbk
    exact cell_of_row _ _ 1 _ _ _ hd
  have hgd : w.drew.heap[g]? = some (.cells cur 5 (0, 0)) := hg
  have hsd := Lib.run_unsafeSliceData_row (P := Tryz.prog) (w := w.drew) #[95] 121 ⟨g, 0, none⟩ l.length cap (by omega)
  have hus := Lib.run_unsafeString_row (P := Tryz.prog) w.drew 121 3 9 5 Tryz.underlying121 cells_byte g cur.size (by simp [World.shape?, hgd]) l h0 (by omega) (by unfold maxLen at hcm; omega) (fun j x hx => hown.cells (g := g) rfl j (.int .u8 x.toNat) (by simp [Lib.byteCells, hx]))
  have mixed : Tryz.prog.follows Departure.mixedOrders = true := by kernel_rfl
  clear hown hown2 htake hcs hgd
  go_enter Tryz.func61, Tryz.ntmps61
  go_wp2
  go_region_o
  all_goals (go_wp2; go_ret; exact ⟨rfl, Lib.below_freeze (Below.drew (Below.refl B w)) (p := ⟨g, 0, none⟩) hbg _⟩)

theorem P.bat_low {B b : Nat} {bs : Bs} {w : World} (h : P.Bld B b bs w) : B ≤ b := by
  rcases h with h | h
  · exact h.1
  · exact h.1
theorem P.bld_lt {B b : Nat} {bs : Bs} {w : World} (h : P.Bld B b bs w) : b < w.heap.size := by
  rcases h with ⟨_, v, hb, _⟩ | ⟨_, v, hb, _⟩
  · exact lt_of_heap hb
  · exact lt_of_heap hb
theorem P.bld_keepN {B b : Nat} {bs : List UInt8} {w w' : World} (h : P.Bld B b bs w) (hf : Fr (fun _ => False) w w') : P.Bld B b bs w' := by
  have key : ∀ {p : Value}, P.Bat B b p bs w → P.Bat B b p bs w' := by
    rintro p ⟨h1, v, hb, ho, hn⟩
    refine ⟨h1, v, hf.heap hb (fun f => f), ?_, hn⟩
    obtain ⟨g1, g2⟩ := ho
    refine ⟨g1, ?_⟩
    rcases g2 with h0 | ⟨g, cap, cur, rfl, hb', hg, hr⟩
    · exact Or.inl h0
    · exact Or.inr ⟨g, cap, cur, rfl, hb', hf.heap hg (fun f => f), hr⟩
  rcases h with h | h
  · exact Or.inl (key h)
  · exact Or.inr (key h)
/-- Where a module is written: the tree lies ahead of the printer. -/
structure PW (w0 : World) (B b : Nat) (acc : Bs) (w : World) : Prop where
  fr : Fr (fun _ => False) w0 w
  low : w0.heap.size ≤ B
  size : B ≤ w.heap.size
  bld : P.Bld B b acc w
theorem PW.quiet {w0 w w' : World} {B b : Nat} {acc : Bs} (h : PW w0 B b acc w) (f : Fr (fun _ => False) w w') : PW w0 B b acc w' := ⟨h.fr.same f, h.low, Nat.le_trans h.size f.size, P.bld_keepN h.bld f⟩
theorem PW.next {w0 w w' : World} {B b : Nat} {acc acc' : Bs} (h : PW w0 B b acc w) (g : Fr (BS B b w) w w') (hb : P.Bat B b (.pointer (some ⟨b, 0, none⟩)) acc' w') : PW w0 B b acc' w' :=
  ⟨bs_over h.fr g h.low (P.bat_low h.bld), h.low, Nat.le_trans h.size g.size, Or.inr hb⟩
def PWrote (w0 : World) (B b : Nat) (acc : Bs) (w : World) (w' : World) : Prop := PW w0 B b acc w' ∧ Fr (BS B b w) w w'
theorem pw_str (w0 : World) (B b : Nat) (acc s : Bs) (w : World) (h : PW w0 B b acc w) (hl : (acc ++ s).length ≤ 140737488355328) :
    Calls Tryz.prog 82 #[bp b, ct s] w fun e w' => e = .returned (.tuple #[.int .i64 (s.length : Int), .nilIface]) ∧ PWrote w0 B b (acc ++ s) w w' :=
  (P.wstr_any B b acc s w h.bld (by rw [List.length_append] at hl; omega) h.size).mono fun e w' ⟨h1, h2, h3⟩ => ⟨h1, h.next h3 h2, h3⟩
theorem pw_byte (w0 : World) (B b : Nat) (acc : Bs) (c : UInt8) (n : Int) (hn : (c.toNat : Int) = n) (w : World) (h : PW w0 B b acc w) (hl : (acc ++ [c]).length ≤ 140737488355328) :
    Calls Tryz.prog 77 #[bp b, .int .u8 n] w fun e w' => e = .returned .nilIface ∧ PWrote w0 B b (acc ++ [c]) w w' := by
  subst hn
  exact (P.wbyte_any B b acc c w h.bld (by simpa using hl) h.size).mono fun e w' ⟨h1, h2, h3⟩ => ⟨h1, h.next h3 h2, h3⟩
theorem pad_succ (n : Nat) : Te.pad (n + 1) = [32, 32] ++ Te.pad n := by simp [Te.pad, List.replicate_succ]
/-- Parts of a line, in a block of their own. -/
def Ps (w : World) (q : Nat) (l : List Bs) : Prop := w.heap[q]? = some (.cells (l.map ct).toArray 9 (0, 0))
theorem Ps.cell {w : World} {q : Nat} {l : List Bs} (h : Ps w q l) {i : Nat} {x : Bs} (hi : l[i]? = some x) : w.cell? ⟨q, i, none⟩ = some (ct x) := by
  rw [cell_of_row w q i _ 9 (0, 0) h]
  simp [hi]
set_option maxRecDepth 20000 in
set_option maxHeartbeats 4000000 in
theorem line_w (n : Nat) (l : List Bs) (q : Nat) (acc T : Bs) (w0 w : World) (B b : Nat) (hq : Ps w q l) (hqb : q ≠ b) (hn : n ≤ 1000000) (hl9 : l.length ≤ 1000000) (hw : PW w0 B b acc w)
    (hT : Hidden (acc ++ Te.pad n ++ l.flatten ++ [10] = T)) (hl : T.length ≤ 140737488355328) :
    Calls Tryz.prog 65 #[bp b, ci (n : Int), .slice (some ⟨q, 0, none⟩) l.length l.length] w fun e w' => e = .returned (.tuple #[]) ∧ PWrote w0 B b T w w' := by
  go_enter Tryz.func65, Tryz.ntmps65
  go_wp2_with fail
  go_loopg [9] n (fun g iv wr => ∃ (i : Nat) (ac : Bs), iv = ci (i : Int) ∧ i ≤ n ∧ ac ++ Te.pad (n - i) ++ l.flatten ++ [10] = T ∧ g = n - i ∧ PW w0 B b ac wr ∧ Fr (BS B b w) w wr ∧ Ps wr q l)
  case atStart => exact ⟨0, acc, rfl, by omega, hT, rfl, hw, Fr.refl _ _, hq⟩
  case round =>
    obtain ⟨i, ac, rfl, hi, hac, hgk, hwr, hfr, hqr⟩ := hrel
    have hgkH : Hidden (gk = n - i) := hgk
    have hacH : Hidden (ac ++ Te.pad (n - i) ++ l.flatten ++ [10] = T) := hac
    clear hgk hac hT
    by_cases hil : i < n
    · have hT2 : Hidden (ac ++ [32, 32] ++ (Te.pad (n - (i + 1)) ++ (l.flatten ++ [10])) = T) := by
        show _ = T
        rw [← (show _ = T from hacH), show n - i = (n - (i + 1)) + 1 by omega, pad_succ]
        simp
      have hlk := app_le (show _ = T from hT2) hl
      clear hacH
      go_wp2_with fail
      go_at_call 82
      refine (pw_str w0 B b ac [32, 32] _ hwr hlk).mono ?_
      rintro e w2 ⟨rfl, h2, f2⟩
      go_wp2_with fail
      go_roundg (n - (i + 1))
      case measure =>
        have : gk = n - i := hgkH
        omega
      case rel =>
        refine ⟨i + 1, _, by go_num, by omega, ?_, rfl, h2, bs_trans hfr f2, bs_keep f2 hqr hqb (by decide)⟩
        rw [← (show _ = T from hT2)]
        simp
    · obtain rfl : i = n := by omega
      have hT2 : Hidden (ac ++ l.flatten ++ [10] = T) := by
        show _ = T
        rw [← (show _ = T from hacH), Nat.sub_self]
        simp [Te.pad]
      clear hacH
      obtain ⟨V, hV⟩ : ∃ V, V = wr := ⟨wr, rfl⟩
      rw [← hV] at hwr hfr hqr ⊢
      clear hV
      go_wp2_with fail
      go_loopg [18] l.length (fun g iv wr => ∃ (i : Nat) (ac : Bs), iv = ci (i : Int) ∧ i ≤ l.length ∧ ac ++ (l.drop i).flatten ++ [10] = T ∧ g = l.length - i ∧ PW w0 B b ac wr ∧ Fr (BS B b w) w wr ∧ Ps wr q l)
      case atStart => exact ⟨0, ac, rfl, by omega, hT2, rfl, hwr, hfr, hqr⟩
      case round =>
        obtain ⟨j, ac2, rfl, hj, hac, hgk, hwr2, hfr2, hqr2⟩ := hrel
        have hgkH2 : Hidden (gk = l.length - j) := hgk
        have hacH : Hidden (ac2 ++ (l.drop j).flatten ++ [10] = T) := hac
        clear hgk hac hT2
        by_cases hjl : j < l.length
        · obtain ⟨x, hx⟩ : ∃ x, l[j]? = some x := ⟨l[j], List.getElem?_eq_getElem hjl⟩
          have d0 := hqr2.cell hx
          have hT3 : Hidden (ac2 ++ x ++ ((l.drop (j + 1)).flatten ++ [10]) = T) := by
            show _ = T
            rw [← (show _ = T from hacH), drop_at hx]
            simp
          have hlk := app_le (show _ = T from hT3) hl
          clear hacH
          go_wp2_with fail
          go_at_call 82
          refine (pw_str w0 B b ac2 x _ hwr2 hlk).mono ?_
          rintro e w2 ⟨rfl, h2, f2⟩
          go_wp2_with fail
          go_roundg (l.length - (j + 1))
          case measure =>
            have : gk = l.length - j := hgkH2
            omega
          case rel =>
            refine ⟨j + 1, _, by go_num, by omega, ?_, rfl, h2, bs_trans hfr2 f2, bs_keep f2 hqr2 hqb (by decide)⟩
            rw [← (show _ = T from hT3)]
            simp
        · obtain rfl : j = l.length := by omega
          have hT3 : ac2 ++ [10] = T := by
            rw [← (show _ = T from hacH), List.drop_length]
            simp
          go_wp2_with fail
          go_at_call 77
          refine (pw_byte w0 B b ac2 10 10 rfl _ hwr2 (by rw [hT3]; exact hl)).mono ?_
          rw [hT3]
          rintro e w3 ⟨rfl, h3, f3⟩
          go_wp2_with fail
          go_end0
          exact ⟨rfl, h3, bs_trans hfr2 f3⟩
end Go.Proofs.YtfkccanjdlajlabGreatDoor
