/- WireBack walked: what was written is read. -/
import Derived.Test.YtflemhekoffpoaaWiBack
import Derived.Test.YtflemhekoffpoaaWiWrites
namespace Go.Proofs.Ytflemhekoffpoaa
open Go.RowKit
set_option linter.unusedSimpArgs false
set_option linter.unusedVariables false

theorem size_parts (o : OpD) (h : o.size ≤ 1048576) : o.s.length < 2147483648 ∧ o.l.length < 2147483648 ∧ o.t.length < 2147483648 ∧ ∀ x ∈ o.t, x.length < 2147483648 := by
  have hlen : o.t.length ≤ (o.t.map fun s => s.length + 1).sum := by
    generalize o.t = t
    induction t with
    | nil => simp
    | cons x r ih => simp only [List.map_cons, List.sum_cons, List.length_cons]; omega
  unfold OpD.size at h
  refine ⟨by omega, by omega, by omega, fun x hx => ?_⟩
  have := str_le o.t x hx
  omega

theorem back_own (W : World) (q : Nat) (o : OpD) (lv tv : Value) (more : List UInt8) (w : World) (hat : OpIs W (opv o.k o.N o.s lv tv o.mo o.lo) o lv tv) (hsz : o.size ≤ 1048576) (hf : Fr (fun _ => False) W w) (hq : W.heap.size ≤ q) (hr : Rd w q (opS o ++ more) 0) :
    Calls Try.prog 21 #[rp q, opv o.k o.N o.s lv tv o.mo o.lo] w fun e w' => e = .returned (.bool true) ∧ Rd w' q more 0 ∧ Fr (fun _ => False) W w' := by
  obtain ⟨h1, h2, h3, h4⟩ := size_parts o hsz
  refine (back_any q o _ lv tv more w (hat.later hf) hr h1 h2 h3 h4 ?_ ?_).mono ?_
  · rcases hat.2.1.old with h | h
    · exact Or.inl h
    · exact Or.inr (fun k hk e => by have := h k hk; omega)
  · rcases hat.2.2.1.old with h | h
    · exact Or.inl h
    · exact Or.inr (fun k hk e => by have := h k hk; omega)
  · rintro e w' ⟨rfl, h5, h6⟩
    exact ⟨rfl, h5, hf.over h6 (fun k hk => by rw [hk]; exact hq)⟩

set_option maxRecDepth 20000 in
set_option maxHeartbeats 1000000 in
theorem backs_any (ao0 : Option Addr) (cap len : Nat) (os : List OpD) (W : World) (hlen : Hidden (os.length = len)) (hl : len ≤ cap) (hcap : cap ≤ 9223372036854775807) (hs : Hidden ((os.map OpD.size).sum ≤ 1048576))
    (ho : Hidden (os = [] ∨ ∃ b off, ao0 = some ⟨b, off, none⟩ ∧ ∀ i o, os[i]? = some o → ∃ lv tv, OpAt W b (off + i * 7) o lv tv)) :
    Calls Try.prog 5 #[.slice ao0 len cap] W fun e w' => e = .returned (.bool true) ∧ Fr (fun _ => False) W w' := by
  have hnew : Hidden (WW W (.pointer (some ⟨W.heap.size, 0, none⟩)) (.slice none 0 0) (W.alloc (.cells #[.slice none 0 0] 26)) [] [] (((os.drop 0).map opS).flatten.length)) := by
    obtain ⟨g, h1, h2, h3⟩ := WOwn.new W (((os.drop 0).map opS).flatten.length) (by
      have h1 : (os.map OpD.size).sum ≤ 1048576 := hs
      have := all_le os
      simp only [List.drop_zero]
      omega)
    exact ⟨g, h1, Ow.nil _ _, h2, h3, fun k hk => by cases hk⟩
  go_enter Try.func5, Try.ntmps5
  go_wp2
  go_loopg [4] len (fun k iv wr => ∃ j : Nat, iv = .int .i64 (j : Int) ∧ j ≤ len ∧ k = len - j ∧ WW W (.pointer (some ⟨W.heap.size, 0, none⟩)) (.slice none 0 0) wr ((os.take j).map opS).flatten [] (((os.drop j).map opS).flatten.length))
  case atStart => exact ⟨0, rfl, by omega, rfl, hnew⟩
  case round =>
    obtain ⟨j, rfl, hj, hk, hww⟩ := hrel
    have hkH : Hidden (gk = len - j) := hk
    clear hk hnew
    by_cases hjl : j < len
    · obtain ⟨o, hx⟩ : ∃ o, os[j]? = some o := ⟨os[j]'(by rw [show os.length = len from hlen]; exact hjl), List.getElem?_eq_getElem _⟩
      rcases (show os = [] ∨ ∃ b off, ao0 = some ⟨b, off, none⟩ ∧ ∀ i o, os[i]? = some o → ∃ lv tv, OpAt W b (off + i * 7) o lv tv from ho) with h0 | ⟨b, off, rfl, ho2⟩
      · rw [h0] at hx
        simp at hx
      obtain ⟨lv, tv, hat⟩ := ho2 j o hx
      clear ho2
      rw [flat_now hx] at hww
      obtain ⟨c0, c1, c2, c3, c4, c5, c6⟩ := hat.cells (ww_fr hww)
      have kw := ww_write W _ _ o lv tv _ _ _ wr hat.2 hww
      rw [← flat_next hx] at kw
      unfold opv at kw
      clear hx hat hww hs hlen ho
      go_wp2_with (go_at_call 8; refine kw.mono ?_; rintro e w1 ⟨rfl, hw1⟩)
      go_roundg (len - (j + 1))
      case measure =>
        have : gk = len - j := hkH
        omega
      case rel => exact ⟨j + 1, by go_num, by omega, rfl, hw1⟩
    · obtain rfl : j = len := by omega
      have hlen' : os.length = j := hlen
      have hww2 : WW W (.pointer (some ⟨W.heap.size, 0, none⟩)) (.slice none 0 0) wr (os.map opS).flatten [] 0 := by
        rw [← hlen', List.take_length, List.drop_length] at hww
        exact hww
      obtain ⟨T, hT⟩ : ∃ T, (os.map opS).flatten = T := ⟨_, rfl⟩
      rw [hT] at hww2
      have hTl : T.length ≤ 140737488355328 := by
        have h1 := all_le os
        have h2 : (os.map OpD.size).sum ≤ 1048576 := hs
        rw [hT] at h1
        omega
      have kB := bytes_own W W.heap.size T 0 wr (ww_own hww2)
      have kR := fun (v : Value) (w : World) (h : Sl w v (bc T)) => read_any v T w hTl h
      obtain ⟨L, hL⟩ : ∃ L, T.length = L := ⟨_, rfl⟩
      rw [hL] at kB
      have ka := fun w => alive_any w
      have hH0 : Hidden (Fr (fun _ => False) W wr ∧ (os.map opS).flatten = T) := ⟨ww_fr hww2, hT⟩
      clear hww hww2 hT hTl hL
      go_wp2_with (first
        | (go_at_call 11; refine kB.mono ?_; rintro e w1 ⟨aob, capb, rfl, hob, hfb⟩)
        | (go_at_call 13; refine (kR _ _ hob.1).mono ?_; rintro e w2 ⟨q, rfl, hrd, hq, hf2⟩)
        | (go_at_call 12; refine (ka _).mono ?_; rintro e w3 ⟨rfl, hf3⟩))
      have hH : Hidden (Rd w3 q (((os.drop 0).map opS).flatten) 0 ∧ Fr (fun _ => False) W w3 ∧ W.heap.size ≤ q) := by
        refine ⟨?_, hH0.1.same (hfb.same (hf2.same hf3)), ?_⟩
        · rw [List.drop_zero, hH0.2]
          exact hrd.later hf3
        · have := hH0.1.size
          have := hfb.size
          omega
      clear hob hfb hrd hq hf2 hf3 kB kR ka
      go_loopg [6] j (fun k iv wx => ∃ i : Nat, iv = .int .i64 (i : Int) ∧ i ≤ j ∧ k = j - i ∧ Rd wx q (((os.drop i).map opS).flatten) 0 ∧ Fr (fun _ => False) W wx)
      case atStart => exact ⟨0, rfl, by omega, rfl, hH.1, hH.2.1⟩
      case round =>
        obtain ⟨i, rfl, hi, hk2, hrd, hfx⟩ := hrel
        have hkH2 : Hidden (gk = j - i) := hk2
        clear hk2
        by_cases hil : i < j
        · obtain ⟨o, hx⟩ : ∃ o, os[i]? = some o := ⟨os[i]'(by rw [hlen']; exact hil), List.getElem?_eq_getElem _⟩
          rcases (show os = [] ∨ ∃ b off, ao0 = some ⟨b, off, none⟩ ∧ ∀ i o, os[i]? = some o → ∃ lv tv, OpAt W b (off + i * 7) o lv tv from ho) with h0 | ⟨b, off, rfl, ho2⟩
          · rw [h0] at hx
            simp at hx
          obtain ⟨lv, tv, hat⟩ := ho2 i o hx
          clear ho2
          obtain ⟨c0, c1, c2, c3, c4, c5, c6⟩ := hat.cells hfx
          have hsz : o.size ≤ 1048576 := Nat.le_trans (size_le hx) hs
          have e1 : ((os.drop i).map opS).flatten = opS o ++ ((os.drop (i + 1)).map opS).flatten := by rw [drop_now hx]; simp
          rw [e1] at hrd
          have kb := back_own W q o lv tv _ wr hat.2 hsz hfx hH.2.2 hrd
          have ke := fun (w : World) (h : Rd w q (((os.drop (i + 1)).map opS).flatten) 0) => err_some q _ 0 w h
          unfold opv at kb
          obtain ⟨Z, hZ⟩ : ∃ Z, ((os.drop (i + 1)).map opS).flatten = Z := ⟨_, rfl⟩
          have hZH : Hidden (((os.drop (i + 1)).map opS).flatten = Z) := hZ
          rw [hZ] at kb ke
          clear hx hat hrd hfx hsz e1 hlen' hs hlen ho hZ
          go_wp2_with (first
            | (go_at_call 21; refine kb.mono ?_; rintro e w4 ⟨rfl, h4, h5⟩)
            | (go_at_call 18; refine (ke _ h4).mono ?_; rintro e w5 ⟨rfl, rfl⟩))
          go_roundg (j - (i + 1))
          case measure =>
            have : gk = j - i := hkH2
            omega
          case rel => exact ⟨i + 1, by go_num, by omega, rfl, by rw [show ((os.drop (i + 1)).map opS).flatten = Z from hZH]; exact h4, h5⟩
        · obtain rfl : i = j := by omega
          have hrd2 : Rd wr q [] 0 := by
            rw [← hlen', List.drop_length] at hrd
            exact hrd
          have kd := done_end q wr hrd2
          have kl := left_some q [] 0 wr hrd2
          have hfxH : Hidden (Fr (fun _ => False) W wr) := hfx
          clear hrd hrd2 hfx hlen' hs hlen ho
          go_wp2_with (first
            | (go_at_call 19; refine kd.mono ?_; rintro e w5 ⟨rfl, rfl⟩)
            | (go_at_call 16; refine kl.mono ?_; rintro e w6 ⟨rfl, rfl⟩))
          go_ret
          exact ⟨rfl, hfxH⟩

theorem wireBack.walk (v : Value) (os : List OpD) (W : World) (h : OpsIs W v os) (hs : (os.map OpD.size).sum ≤ 1048576) :
    Calls Try.prog 5 #[v] W fun e w' => e = .returned (.bool true) ∧ Fr (fun _ => False) W w' := by
  obtain ⟨ao, cap, rfl, h1, h2, h3⟩ := h
  exact backs_any ao cap os.length os W rfl h1 h2 hs h3
end Go.Proofs.Ytflemhekoffpoaa
