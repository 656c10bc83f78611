/- Text of an expression; the text of a module, given that of its declarations; Print. -/
import Derived.Test.YtfkccanjdlajlabGreatDoorTrP2
import Derived.Test.YtfkccanjdlajlabGreatDoorTrL6
namespace Go.Proofs.YtfkccanjdlajlabGreatDoor
open Go.RowKit Te
set_option linter.unusedSimpArgs false
set_option linter.unusedVariables false

theorem sh_of_fits {h : EH} {n : Nat} (hf : fitsE cnS h n = true) : ShE h n := by
  unfold fitsE at hf
  unfold ShE
  split at hf
  · simp only [Bool.and_eq_true, decide_eq_true_eq] at hf
    refine Or.inl ⟨‹_›, fun hv => ?_, hf.2.2.2.2⟩
    have := hf.1
    simp only [litOk, hv, if_true, decide_eq_true_eq] at this
    exact this
  split at hf
  · simp only [decide_eq_true_eq] at hf; exact Or.inr (Or.inl ⟨‹_›, hf.2.2.2.2⟩)
  split at hf
  · simp only [decide_eq_true_eq] at hf; exact Or.inr (Or.inr (Or.inl ⟨‹_›, hf.2.2.2⟩))
  split at hf
  · exact Or.inr (Or.inr (Or.inr (Or.inl ‹_›)))
  split at hf
  · exact Or.inr (Or.inr (Or.inr (Or.inr (Or.inl ‹_›))))
  split at hf
  · simp only [decide_eq_true_eq] at hf; exact Or.inr (Or.inr (Or.inr (Or.inr (Or.inr (Or.inl ⟨‹_›, hf.1, hf.2.1, hf.2.2.1⟩)))))
  split at hf
  · simp only [decide_eq_true_eq] at hf; exact Or.inr (Or.inr (Or.inr (Or.inr (Or.inr (Or.inr (Or.inl ⟨‹_›, hf.1, hf.2.1, hf.2.2.1⟩))))))
  split at hf
  · simp only [decide_eq_true_eq] at hf; exact Or.inr (Or.inr (Or.inr (Or.inr (Or.inr (Or.inr (Or.inr ⟨‹_›, hf.2.2.2.2.2⟩))))))
  · cases hf
theorem sh_of_err {h : EH} {n : Nat} (he : errH rnS cnS h n = 0) : ShE h n := by
  unfold errH at he
  rw [orE_zero] at he
  apply sh_of_fits
  by_cases hf : fitsE cnS h n = true
  · exact hf
  · rw [if_neg hf] at he; omega
theorem shL_of_err : ∀ (k : Exs), errL rnS cnS k = 0 → ShL k
  | .nil, _ => trivial
  | .cons h k r, he => by
    rw [errL_cons, orE_zero, orE_zero] at he
    exact ⟨sh_of_err he.1.1, shL_of_err k he.1.2, shL_of_err r he.2⟩
theorem txA_one (h : EH) (k : Exs) : txA txS h k 1 = bare txS h k := by
  have := level_pos h
  simp [txA, par]
  omega
set_option maxRecDepth 20000 in
set_option maxHeartbeats 1000000 in
theorem text_x (h : EH) (k : Exs) (v : Value) (w : World) (ho : OkE h) (hx : OkX k) (hv : ExI w h k v) (ht : F.Tab w) (E : Int) (T : Bs) (hE : Hidden (errX rnS cnS h k = E)) (hT : Hidden (bare txS h k = T)) (hl : E = 0 → T.length ≤ 140737488355328) :
    Calls Tryz.prog 15 #[v] w fun e w' => e = .returned (.tuple #[ct (if E = 0 then T else []), ci E]) ∧ Fr (fun _ => False) w w' := by
  obtain ⟨ao, cap, rfl, hk⟩ := hv
  have f0 := Fr.alloc (fun _ => False) w (exB h ao k.len cap)
  have hbx : Hidden ((w.alloc (exB h ao k.len cap)).heap[w.heap.size]? = some (exB h ao k.len cap)) := alloc_new _ _
  have kr := rightX_any h k _ _ ho hx (⟨ao, cap, rfl, hk.keep f0⟩ : ExI (w.alloc (exB h ao k.len cap)) h k (exV h (.slice ao k.len cap)))
  rw [show errX rnS cnS h k = E from hE] at kr
  by_cases h0 : E = 0
  · subst h0
    have hs : errX rnS cnS h k = 0 := hE
    unfold errX at hs
    rw [orE_zero, orE_zero] at hs
    have kt := fun (w1 : World) (f1 : Fr (fun _ => False) w w1) => exprText_any h k (exV h (.slice ao k.len cap)) w1 ho hx (sh_of_err hs.2.1) (shL_of_err k hs.2.2) ⟨ao, cap, rfl, hk.keep f1⟩ (tab_fr ht f1) (by rw [txA_one, show _ = T from hT]; exact hl rfl)
    rw [txA_one, show _ = T from hT] at kt
    clear hs hT hE
    go_enter Tryz.func15, Tryz.ntmps15
    go_wp2_with fail
    go_at_call 33
    refine kr.mono ?_
    rintro e w1 ⟨rfl, f1⟩
    obtain ⟨c0, c1, c2, c3, c4, c5, c6⟩ := ex_box (f1.heap hbx (fun f => f))
    go_wp2_with fail
    go_at_call 34
    refine (kt _ (f0.same f1)).mono ?_
    rintro e w2 ⟨rfl, f2⟩
    go_wp2_with fail
    go_ret2
    exact ⟨rfl, (f0.same f1).same f2⟩
  · have hb : (E != 0) = true := by simp [h0]
    rw [if_neg h0]
    clear hE hT
    go_enter Tryz.func15, Tryz.ntmps15
    go_wp2_with fail
    go_at_call 33
    refine kr.mono ?_
    rintro e w1 ⟨rfl, f1⟩
    go_wp2_with fail
    go_ret2
    exact ⟨rfl, f0.same f1⟩

/-- The contract of writing a declaration. -/
def DeclW (d : De) : Prop := ∀ (pv ev bv : Value) (w0 w : World) (B b : Nat) (acc T : Bs), DeI w0 d pv ev bv → F.Tab w0 → PW w0 B b acc w → Hidden (acc ++ deT txS d = T) → T.length ≤ 140737488355328 →
  Calls Tryz.prog 66 #[bp b, deV d pv ev bv] w fun e w' => e = .returned (.tuple #[]) ∧ PWrote w0 B b T w w'
abbrev impT (x : Bs) : Bs := [105, 109, 112, 111, 114, 116, 32] ++ x ++ [59, 10]
theorem ne_pbld {w : World} {B b : Nat} {bs : Bs} (h : P.Bld B b bs w) : w.heap.size ≠ b := by have := P.bld_lt h; omega
set_option maxRecDepth 20000 in
set_option maxHeartbeats 4000000 in
theorem mtext_w (m : Mo) (v : Value) (w : World) (hv : MoI w m v) (ht : F.Tab w) (hd : ∀ d ∈ m.decls, DeclW d) (T : Bs) (hT : Hidden (moT txS m = T)) (hl : T.length ≤ 140737488355328) :
    Calls Tryz.prog 38 #[v] w fun e w' => e = .returned (ct T) ∧ Fr (fun _ => False) w w' := by
  obtain ⟨ao, cap, ao2, cap2, rfl, hs, hds⟩ := hv
  have m1 : cap ≤ 9223372036854775807 := by have := hs.2.1; unfold maxLen at this; omega
  have m2 : cap2 ≤ 9223372036854775807 := by have := hds.2.1; unfold maxLen at this; omega
  have l1 := hs.1
  have l2 := hds.1
  have f0 := Fr.alloc (fun _ => False) w (moO m (.slice ao m.imports.length cap) (.slice ao2 m.decls.length cap2))
  have hq0 : Hidden ((w.alloc (moO m (.slice ao m.imports.length cap) (.slice ao2 m.decls.length cap2))).heap[w.heap.size]? = some (moO m (.slice ao m.imports.length cap) (.slice ao2 m.decls.length cap2))) := alloc_new _ _
  generalize hW : w.alloc (moO m (.slice ao m.imports.length cap) (.slice ao2 m.decls.length cap2)) = W1 at f0 hq0
  have hWs : W1.heap.size = w.heap.size + 1 := by rw [← hW]; simp
  have hWH : Hidden (w.alloc (moO m (.slice ao m.imports.length cap) (.slice ao2 m.decls.length cap2)) = W1) := hW
  have pw0 : Hidden (PW W1 (w.heap.size + 1) (w.heap.size + 1) [] (W1.alloc (.cells #[.pointer none, .slice none 0 0] 105 (0, 0)))) :=
    ⟨Fr.alloc _ _ _, by omega, by simp; omega, Or.inl ⟨Nat.le_refl _, _, by rw [← hWs]; exact alloc_new _ _, World.ownsRow_nil _ _ _ _, by simp [Value.ownBlock]⟩⟩
  have hT1 : Hidden ([109, 111, 100, 117, 108, 101, 32] ++ m.name ++ [59, 10] ++ (m.imports.flatMap impT ++ m.decls.flatMap (deT txS)) = T) := by
    show _ = T
    rw [← (show _ = T from hT)]
    exact (List.append_assoc _ _ _).symm
  have hT0 := hT1
  have c012 := mo_box ((Fr.alloc (fun _ => False) W1 (.cells #[.pointer none, .slice none 0 0] 105 (0, 0))).heap hq0 (fun f => f))
  obtain ⟨c0, c1, c2⟩ := c012
  clear hT
  have step : ∀ (x pre_ : Bs) (acc : Bs) (wa : World), PW W1 (w.heap.size + 1) (w.heap.size + 1) acc wa → (acc ++ (pre_ ++ x ++ [59, 10])).length ≤ 140737488355328 →
      Calls Tryz.prog 65 #[bp (w.heap.size + 1), ci 0, .slice (some ⟨wa.heap.size, 0, none⟩) 3 3] (wa.alloc (.cells #[ct pre_, ct x, ct [59]] 9)) fun e w' => e = .returned (.tuple #[]) ∧ PW W1 (w.heap.size + 1) (w.heap.size + 1) (acc ++ (pre_ ++ x ++ [59, 10])) w' := by
    intro x pre_ acc wa hp hlen
    have hPs : Ps (wa.alloc (.cells #[ct pre_, ct x, ct [59]] 9)) wa.heap.size [pre_, x, [59]] := alloc_new _ _
    exact (line_w 0 [pre_, x, [59]] wa.heap.size acc _ W1 _ (w.heap.size + 1) (w.heap.size + 1) hPs (ne_pbld hp.bld) (by omega) (by simp) (hp.quiet (Fr.alloc _ _ _)) (by show _ = acc ++ (pre_ ++ x ++ [59, 10]); simp [Te.pad]) hlen).mono fun e w' h => ⟨h.1, h.2.1⟩
  have hl1 : ([] ++ ([109, 111, 100, 117, 108, 101, 32] ++ m.name ++ [59, 10]) : Bs).length ≤ 140737488355328 := by rw [List.nil_append]; exact app_le (show _ = T from hT1) hl
  have k1 := step m.name [109, 111, 100, 117, 108, 101, 32] [] _ pw0 hl1
  have hs2 : (W1.alloc (.cells #[.pointer none, .slice none 0 0] 105 (0, 0))).heap.size = w.heap.size + 2 := by simp; omega
  rw [hs2, List.nil_append] at k1
  rw [← (show _ = W1 from hWH)] at c0 c1 c2 k1
  clear hW hs2 hWs
  go_enter Tryz.func38, Tryz.ntmps38
  go_wp2_with fail
  go_at_call 65
  refine k1.mono ?_
  rw [show _ = W1 from hWH]
  clear c0 c1 c2 k1
  rintro e w2 ⟨rfl, p2⟩
  obtain ⟨c0, c1, c2⟩ := mo_box (p2.fr.heap hq0 (fun f => f))
  go_wp2_with fail
  clear c0 c1 c2
  go_loopg [15] m.imports.length (fun g iv wr => ∃ (i : Nat) (ac : Bs), iv = ci (i : Int) ∧ i ≤ m.imports.length ∧ ac ++ ((m.imports.drop i).flatMap impT ++ m.decls.flatMap (deT txS)) = T ∧ g = m.imports.length - i ∧ PW W1 (w.heap.size + 1) (w.heap.size + 1) ac wr)
  case atStart => exact ⟨0, _, rfl, by omega, hT1, rfl, p2⟩
  case round =>
    obtain ⟨i, ac, rfl, hi, hac, hgk, hp⟩ := hrel
    have hgkH : Hidden (gk = m.imports.length - i) := hgk
    have hacH : Hidden (ac ++ ((m.imports.drop i).flatMap impT ++ m.decls.flatMap (deT txS)) = T) := hac
    clear hgk hac hT1
    by_cases hil : i < m.imports.length
    · obtain ⟨x, hxi⟩ : ∃ x, m.imports[i]? = some x := ⟨m.imports[i], List.getElem?_eq_getElem hil⟩
      rcases hs.2.2 with h0 | ⟨b, off, rfl, hcp⟩
      · rw [h0] at hil; simp at hil
      have d0 := hp.fr.cellN (f0.cellN (hcp i x hxi))
      have hT2 : Hidden (ac ++ impT x ++ ((m.imports.drop (i + 1)).flatMap impT ++ m.decls.flatMap (deT txS)) = T) := by
        show _ = T
        rw [← (show _ = T from hacH), drop_at hxi]
        simp
      have k2 := step x [105, 109, 112, 111, 114, 116, 32] ac wr hp (app_le (show _ = T from hT2) hl)
      clear hacH
      go_wp2_with fail
      go_at_call 65
      refine k2.mono ?_
      rintro e w3 ⟨rfl, p3⟩
      go_wp2_with fail
      go_roundg (m.imports.length - (i + 1))
      case measure =>
        have : gk = m.imports.length - i := hgkH
        omega
      case rel => exact ⟨i + 1, _, by go_num, by omega, hT2, rfl, p3⟩
    · obtain rfl : i = m.imports.length := by omega
      have hT2 : Hidden (ac ++ m.decls.flatMap (deT txS) = T) := by
        show _ = T
        rw [← (show _ = T from hacH), List.drop_length]
        rfl
      clear hacH
      obtain ⟨c0, c1, c2⟩ := mo_box (hp.fr.heap hq0 (fun f => f))
      obtain ⟨V, hV⟩ : ∃ V, V = wr := ⟨wr, rfl⟩
      rw [← hV] at hp c0 c1 c2 ⊢
      clear hV
      go_wp2_with fail
      clear c0 c1 c2
      go_loopg [26] m.decls.length (fun g iv wr => ∃ (i : Nat) (ac : Bs), iv = ci (i : Int) ∧ i ≤ m.decls.length ∧ ac ++ (m.decls.drop i).flatMap (deT txS) = T ∧ g = m.decls.length - i ∧ PW W1 (w.heap.size + 1) (w.heap.size + 1) ac wr)
      case atStart => exact ⟨0, _, rfl, by omega, hT2, rfl, hp⟩
      case round =>
        obtain ⟨j, ac2, rfl, hj, hac, hgk, hp2⟩ := hrel
        have hgkH2 : Hidden (gk = m.decls.length - j) := hgk
        have hacH : Hidden (ac2 ++ (m.decls.drop j).flatMap (deT txS) = T) := hac
        clear hgk hac hT2
        by_cases hjl : j < m.decls.length
        · obtain ⟨d, hdi⟩ : ∃ d, m.decls[j]? = some d := ⟨m.decls[j], List.getElem?_eq_getElem hjl⟩
          rcases hds.2.2 with h0 | ⟨b, off, rfl, hcp⟩
          · rw [h0] at hjl; simp at hjl
          obtain ⟨pv, ev, bv, hI, hcc⟩ := hcp j d hdi
          have ff := f0.same hp2.fr
          have d0 := ff.cellN (hcc 0 _ rfl)
          have d1 := ff.cellN (hcc 1 _ rfl)
          have d2 := ff.cellN (hcc 2 _ rfl)
          have d3 := ff.cellN (hcc 3 _ rfl)
          have d4 := ff.cellN (hcc 4 _ rfl)
          have d5 := ff.cellN (hcc 5 _ rfl)
          have d6 := ff.cellN (hcc 6 _ rfl)
          simp only [Nat.add_zero] at d0
          have hT3 : Hidden (ac2 ++ deT txS d ++ (m.decls.drop (j + 1)).flatMap (deT txS) = T) := by
            show _ = T
            rw [← (show _ = T from hacH), drop_at hdi]
            simp
          have fx := Fr.alloc (fun _ => False) wr (.cells #[ci d.kind, .bool d.ex, ct d.name, ci d.type, pv, ev, bv] 36)
          have k3 := hd d (List.mem_of_getElem? hdi) pv ev bv W1 _ (w.heap.size + 1) (w.heap.size + 1) ac2 _ (hI.keep f0) (tab_fr ht f0) (hp2.quiet fx) rfl (app_le (show _ = T from hT3) hl)
          obtain ⟨_, _, _, _, _, _, rfl, rfl, rfl, _⟩ := hI
          clear hacH
          go_wp2_with fail
          go_at_call 66
          refine k3.mono ?_
          rintro e w3 ⟨rfl, p3, _⟩
          go_wp2_with fail
          go_roundg (m.decls.length - (j + 1))
          case measure =>
            have : gk = m.decls.length - j := hgkH2
            omega
          case rel => exact ⟨j + 1, _, by go_num, by omega, hT3, rfl, p3⟩
        · obtain rfl : j = m.decls.length := by omega
          have hT3 : ac2 = T := by
            rw [← (show _ = T from hacH), List.drop_length]
            simp
          subst hT3
          have hnn : ac2 ≠ [] := by
            intro h0
            have e : [109, 111, 100, 117, 108, 101, 32] ++ m.name ++ [59, 10] ++ (m.imports.flatMap impT ++ m.decls.flatMap (deT txS)) = ac2 := hT0
            rw [h0] at e
            simp at e
          have ks := str_p (w.heap.size + 1) (w.heap.size + 1) ac2 wr hp2.bld hnn
          go_wp2_with fail
          go_at_call 61
          refine ks.mono ?_
          rintro e w3 ⟨rfl, hb2⟩
          go_wp2_with fail
          go_ret
          exact ⟨rfl, (f0.same hp2.fr).over (fr_below (S := fun k => w.heap.size + 1 ≤ k) hb2 (fun k h => h)) (fun k h => by have : w.heap.size + 1 ≤ k := h; omega)⟩
end Go.Proofs.YtfkccanjdlajlabGreatDoor
