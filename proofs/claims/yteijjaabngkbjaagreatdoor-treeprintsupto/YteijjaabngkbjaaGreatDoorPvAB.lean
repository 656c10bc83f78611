/- PyE PyF PvA -/
import Derived.Test.YteijjaabngkbjaaGreatDoorPyDB
import Derived.Test.YteijjaabngkbjaaGreatDoorTrX6B
import Derived.Test.YteijjaabngkbjaaGreatDoorLxAll
namespace Go.Proofs.YteijjaabngkbjaaGreatDoor
open Go.RowKit Te
set_option linter.unusedSimpArgs false
set_option linter.unusedVariables false
set_option maxRecDepth 20000 in
set_option maxHeartbeats 4000000 in
theorem stmt_8 (n : Nat) (hn : n ≤ 1000000) (name : Bs) (acc T : Bs) (w0 w : World) (B b : Nat) (ht : F.Tab w0) (hw : PW w0 B b acc w) (ao2 ao3 : Option Addr) (bo el : Sts) (cap2 cap3 : Nat) (ao1 : Option Addr) (cap1 : Nat) (hB : BlkW bo (n + 1)) (hbo : StL w0 ao2 cap2 bo) (hL : BlkW el (n + 1)) (hel : StL w0 ao3 cap3 el)
    (hT : Hidden (acc ++ (pad n ++ [116, 114, 121, 32, 123, 10] ++ stT txS bo (n + 1) ++ (pad n ++ ([125, 32, 99, 97, 116, 99, 104, 32] ++ name ++ [32, 123, 10])) ++ stT txS el (n + 1) ++ (pad n ++ [125, 10])) = T)) (hl : T.length ≤ 140737488355328) :
    Calls Tryz.prog 129 #[bp b, stV ⟨8, name⟩ (.slice ao1 0 cap1) (.slice ao2 bo.len cap2) (.slice ao3 el.len cap3), ci (n : Int)] w fun e w' => e = .returned (.tuple #[]) ∧ PWrote w0 B b T w w' := by
  have f0 := Fr.alloc (fun _ => False) w (stO 8 name (.slice ao1 0 cap1) (.slice ao2 bo.len cap2) (.slice ao3 el.len cap3))
  have hbx : Hidden ((w.alloc (stO 8 name (.slice ao1 0 cap1) (.slice ao2 bo.len cap2) (.slice ao3 el.len cap3))).heap[w.heap.size]? = some (stO 8 name (.slice ao1 0 cap1) (.slice ao2 bo.len cap2) (.slice ao3 el.len cap3))) := alloc_new _ _
  have g0 := hw.fr.same f0
  have hne := ne_pbld hw.bld
  have m2 : cap2 ≤ 9223372036854775807 := by have := hbo.2.1; unfold maxLen at this; omega
  have m2' := hbo.1
  have m3 : cap3 ≤ 9223372036854775807 := by have := hel.2.1; unfold maxLen at this; omega
  have m3' := hel.1
  obtain ⟨T1, hT1'⟩ : ∃ T1, acc ++ Te.pad n ++ [[116, 114, 121, 32, 123]].flatten ++ [10] = T1 := ⟨_, rfl⟩
  have hT1 : Hidden (acc ++ Te.pad n ++ [[116, 114, 121, 32, 123]].flatten ++ [10] = T1) := hT1'
  clear hT1'
  have rT1 : Hidden (T1 ++ (stT txS bo (n + 1) ++ ((pad n ++ ([125, 32, 99, 97, 116, 99, 104, 32] ++ name ++ [32, 123, 10])) ++ (stT txS el (n + 1) ++ (pad n ++ [125, 10])))) = T) := by
    show _ = T
    rw [← (show _ = T from hT), ← (show _ = T1 from hT1)]
    simp
  have lT1 : T1.length ≤ 140737488355328 := app_le (show _ = T from rT1) hl
  obtain ⟨T2, hT2'⟩ : ∃ T2, T1 ++ stT txS bo (n + 1) = T2 := ⟨_, rfl⟩
  have hT2 : Hidden (T1 ++ stT txS bo (n + 1) = T2) := hT2'
  clear hT2'
  have rT2 : Hidden (T2 ++ ((pad n ++ ([125, 32, 99, 97, 116, 99, 104, 32] ++ name ++ [32, 123, 10])) ++ (stT txS el (n + 1) ++ (pad n ++ [125, 10]))) = T) := by
    show _ = T
    rw [← (show _ = T from rT1), ← (show _ = T2 from hT2)]
    simp
  have lT2 : T2.length ≤ 140737488355328 := app_le (show _ = T from rT2) hl
  obtain ⟨T3, hT3'⟩ : ∃ T3, T2 ++ Te.pad n ++ [[125, 32, 99, 97, 116, 99, 104, 32], name, [32, 123]].flatten ++ [10] = T3 := ⟨_, rfl⟩
  have hT3 : Hidden (T2 ++ Te.pad n ++ [[125, 32, 99, 97, 116, 99, 104, 32], name, [32, 123]].flatten ++ [10] = T3) := hT3'
  clear hT3'
  have rT3 : Hidden (T3 ++ (stT txS el (n + 1) ++ (pad n ++ [125, 10])) = T) := by
    show _ = T
    rw [← (show _ = T from rT2), ← (show _ = T3 from hT3)]
    simp
  have lT3 : T3.length ≤ 140737488355328 := app_le (show _ = T from rT3) hl
  obtain ⟨T4, hT4'⟩ : ∃ T4, T3 ++ stT txS el (n + 1) = T4 := ⟨_, rfl⟩
  have hT4 : Hidden (T3 ++ stT txS el (n + 1) = T4) := hT4'
  clear hT4'
  have rT4 : Hidden (T4 ++ (pad n ++ [125, 10]) = T) := by
    show _ = T
    rw [← (show _ = T from rT3), ← (show _ = T4 from hT4)]
    simp
  have lT4 : T4.length ≤ 140737488355328 := app_le (show _ = T from rT4) hl
  clear hT
  have kl := line_new2 n [[116, 114, 121, 32, 123]] acc T1 w0 (w.alloc (stO 8 name (.slice ao1 0 cap1) (.slice ao2 bo.len cap2) (.slice ao3 el.len cap3))) B b (hw.quiet f0) hn (by simp) hT1 lT1
  rw [show (w.alloc (stO 8 name (.slice ao1 0 cap1) (.slice ao2 bo.len cap2) (.slice ao3 el.len cap3))).heap.size = w.heap.size + 1 by simp] at kl
  go_enter Tryz.func129, Tryz.ntmps129
  go_wp2_with fail
  go_at_call 37
  refine kl.mono ?_
  rintro e w2 ⟨rfl, p2, g2⟩
  have hb2 := bs_keep g2 hbx hne (by decide)
  obtain ⟨c0, c1, c2, c3, c4⟩ := st_box hb2
  have kbw3 := hB ((n : Int) + 1) (by omega) ao2 cap2 w0 w2 B b T1 T2 hbo ht p2 hT2 lT2
  go_wp2_with fail
  go_at_call 82
  refine kbw3.mono ?_
  rintro e w3 ⟨rfl, pw3, g3⟩
  have hb3 := bs_keep g3 hb2 hne (by decide)
  obtain ⟨c0, c1, c2, c3, c4⟩ := st_box hb3
  have ke2 := line_new2 n [[125, 32, 99, 97, 116, 99, 104, 32], name, [32, 123]] T2 T3 w0 w3 B b (pw3) hn (by simp) (hT3) lT3
  go_wp2_with fail
  go_at_call 37
  refine ke2.mono ?_
  rintro e w4 ⟨rfl, p4, g4⟩
  obtain ⟨c0, c1, c2, c3, c4⟩ := st_box (bs_keep g4 hb3 hne (by decide))
  have kbw5 := hL ((n : Int) + 1) (by omega) ao3 cap3 w0 w4 B b T3 T4 hel ht p4 hT4 lT4
  go_wp2_with fail
  go_at_call 82
  refine kbw5.mono ?_
  rintro e w5 ⟨rfl, pw5, g5⟩
  have kz := line_new2 n [[125]] T4 T w0 w5 B b (pw5) hn (by simp) (by rw [← (show _ = T from rT4)]; simp) hl
  go_wp2_with fail
  go_at_call 37
  refine kz.mono ?_
  rintro e w6 ⟨rfl, p6, g6⟩
  go_wp2_with fail
  go_end0
  exact ⟨rfl, p6, bs_then f0 (bs_trans g2 (bs_trans g3 (bs_trans g4 (bs_trans g5 g6))))⟩
set_option maxRecDepth 20000 in
set_option maxHeartbeats 4000000 in
theorem stmt_5a (n : Nat) (hn : n ≤ 1000000) (name : Bs) (acc T : Bs) (w0 w : World) (B b : Nat) (ht : F.Tab w0) (hw : PW w0 B b acc w) (ao2 ao3 : Option Addr) (bo el : Sts) (cap2 cap3 : Nat) (ao1 : Option Addr) (cap1 : Nat)
    (hT : Hidden (acc ++ (pad n ++ [114, 101, 116, 117, 114, 110, 59, 10]) = T)) (hl : T.length ≤ 140737488355328) :
    Calls Tryz.prog 129 #[bp b, stV ⟨5, name⟩ (.slice ao1 0 cap1) (.slice ao2 bo.len cap2) (.slice ao3 el.len cap3), ci (n : Int)] w fun e w' => e = .returned (.tuple #[]) ∧ PWrote w0 B b T w w' := by
  have f0 := Fr.alloc (fun _ => False) w (stO 5 name (.slice ao1 0 cap1) (.slice ao2 bo.len cap2) (.slice ao3 el.len cap3))
  have hbx : Hidden ((w.alloc (stO 5 name (.slice ao1 0 cap1) (.slice ao2 bo.len cap2) (.slice ao3 el.len cap3))).heap[w.heap.size]? = some (stO 5 name (.slice ao1 0 cap1) (.slice ao2 bo.len cap2) (.slice ao3 el.len cap3))) := alloc_new _ _
  have g0 := hw.fr.same f0
  have hne := ne_pbld hw.bld
  have kr := returns_none n hn ao1 cap1 acc T w0 (w.alloc (stO 5 name (.slice ao1 0 cap1) (.slice ao2 bo.len cap2) (.slice ao3 el.len cap3))) B b (hw.quiet f0) hT hl
  clear hT
  go_enter Tryz.func129, Tryz.ntmps129
  go_wp2_with fail
  go_at_call 171
  refine kr.mono ?_
  rintro e w2 ⟨rfl, p2, g2⟩
  go_wp2_with fail
  go_end0
  exact ⟨rfl, p2, bs_then f0 g2⟩
set_option maxRecDepth 20000 in
set_option maxHeartbeats 4000000 in
theorem stmt_5b (n : Nat) (hn : n ≤ 1000000) (name : Bs) (acc T : Bs) (w0 w : World) (B b : Nat) (ht : F.Tab w0) (hw : PW w0 B b acc w) (ao2 ao3 : Option Addr) (bo el : Sts) (cap2 cap3 : Nat) (x : EH) (kx : Exs) (b0 off cap1 : Nat) (aok : Option Addr) (capk : Nat) (ho : OkE x) (hx : OkX kx) (hs : ShE x kx.len) (hsl : ShL kx)
    (hk : ExL w0 aok capk kx) (h0 : w0.cell? ⟨b0, off, none⟩ = some (ci x.kind)) (h1 : w0.cell? ⟨b0, off + 1, none⟩ = some (ci x.op)) (h2 : w0.cell? ⟨b0, off + 2, none⟩ = some (ct x.mod)) (h3 : w0.cell? ⟨b0, off + 3, none⟩ = some (ct x.name)) (h4 : w0.cell? ⟨b0, off + 4, none⟩ = some (ci x.vt)) (h5 : w0.cell? ⟨b0, off + 5, none⟩ = some (.int .u64 x.vb)) (h6 : w0.cell? ⟨b0, off + 6, none⟩ = some (.slice aok kx.len capk))
    (hT : Hidden (acc ++ (pad n ++ ([114, 101, 116, 117, 114, 110, 32] ++ txA txS x kx 1 ++ [59, 10])) = T)) (hl : T.length ≤ 140737488355328) :
    Calls Tryz.prog 129 #[bp b, stV ⟨5, name⟩ (.slice (some ⟨b0, off, none⟩) 1 cap1) (.slice ao2 bo.len cap2) (.slice ao3 el.len cap3), ci (n : Int)] w fun e w' => e = .returned (.tuple #[]) ∧ PWrote w0 B b T w w' := by
  have f0 := Fr.alloc (fun _ => False) w (stO 5 name (.slice (some ⟨b0, off, none⟩) 1 cap1) (.slice ao2 bo.len cap2) (.slice ao3 el.len cap3))
  have hbx : Hidden ((w.alloc (stO 5 name (.slice (some ⟨b0, off, none⟩) 1 cap1) (.slice ao2 bo.len cap2) (.slice ao3 el.len cap3))).heap[w.heap.size]? = some (stO 5 name (.slice (some ⟨b0, off, none⟩) 1 cap1) (.slice ao2 bo.len cap2) (.slice ao3 el.len cap3))) := alloc_new _ _
  have g0 := hw.fr.same f0
  have hne := ne_pbld hw.bld
  have d0 := g0.cellN h0
  have d1 := g0.cellN h1
  have d2 := g0.cellN h2
  have d3 := g0.cellN h3
  have d4 := g0.cellN h4
  have d5 := g0.cellN h5
  have d6 := g0.cellN h6
  have kr := returns_one n hn x kx b0 off cap1 aok capk acc T w0 (w.alloc (stO 5 name (.slice (some ⟨b0, off, none⟩) 1 cap1) (.slice ao2 bo.len cap2) (.slice ao3 el.len cap3))) B b (tab_fr ht g0) ho hx hs hsl (hk.keep g0) d0 d1 d2 d3 d4 d5 d6 (hw.quiet f0) hT hl
  clear hT d0 d1 d2 d3 d4 d5 d6
  go_enter Tryz.func129, Tryz.ntmps129
  go_wp2_with fail
  go_at_call 171
  refine kr.mono ?_
  rintro e w2 ⟨rfl, p2, g2⟩
  go_wp2_with fail
  go_end0
  exact ⟨rfl, p2, bs_then f0 g2⟩
end Go.Proofs.YteijjaabngkbjaaGreatDoor
namespace Go.Proofs.YteijjaabngkbjaaGreatDoor
open Go.RowKit Te
set_option linter.unusedSimpArgs false
set_option linter.unusedVariables false
theorem one_ex {w0 : World} {e : Exs} {ao1 : Option Addr} {cap1 : Nat} (h : ExL w0 ao1 cap1 e) (ho : OkX e) (he : errL rnS cnS e = 0) (h1 : e.len = 1) :
    ∃ x kx b0 off aok capk, e = .cons x kx .nil ∧ ao1 = some ⟨b0, off, none⟩ ∧ OkE x ∧ OkX kx ∧ ShE x kx.len ∧ ShL kx ∧ ExL w0 aok capk kx ∧ w0.cell? ⟨b0, off, none⟩ = some (ci x.kind) ∧ w0.cell? ⟨b0, off + 1, none⟩ = some (ci x.op) ∧ w0.cell? ⟨b0, off + 2, none⟩ = some (ct x.mod) ∧ w0.cell? ⟨b0, off + 3, none⟩ = some (ct x.name) ∧
      w0.cell? ⟨b0, off + 4, none⟩ = some (ci x.vt) ∧ w0.cell? ⟨b0, off + 5, none⟩ = some (.int .u64 x.vb) ∧ w0.cell? ⟨b0, off + 6, none⟩ = some (.slice aok kx.len capk) := by
  cases e with
  | nil => simp [Exs.len] at h1
  | cons x kx r =>
    cases r with
    | cons a b c => simp [Exs.len] at h1
    | nil =>
      have hs := shL_of_err _ he
      rcases h.2.2 with h0 | ⟨b0, off, rfl, hA⟩
      · simp [Exs.len] at h0
      · obtain ⟨aok, capk, hk, _, c⟩ := ex_row hA
        exact ⟨x, kx, b0, off, aok, capk, rfl, rfl, ho.1, ho.2.1, hs.1, hs.2.1, hk, c⟩
theorem stmt_w (h : SH) (e : Exs) (bo el : Sts) (n : Nat) (hn : n ≤ 1000000) (hH : errSH rnS h e bo.len el.len = 0) (hE : errL rnS cnS e = 0) (ho : OkX e) (hB : hasBody h.kind = true → BlkW bo (n + 1)) (hL : h.kind = 8 ∨ 0 < el.len → BlkW el (n + 1))
    (ao1 ao2 ao3 : Option Addr) (cap1 cap2 cap3 : Nat) (acc T : Bs) (w0 w : World) (B b : Nat) (ht : F.Tab w0) (hw : PW w0 B b acc w) (h1 : ExL w0 ao1 cap1 e) (h2 : StL w0 ao2 cap2 bo) (h3 : StL w0 ao3 cap3 el)
    (hT : Hidden (acc ++ stT txS (.cons h e bo el .nil) n = T)) (hl : T.length ≤ 140737488355328) :
    Calls Tryz.prog 129 #[bp b, stV h (.slice ao1 e.len cap1) (.slice ao2 bo.len cap2) (.slice ao3 el.len cap3), ci (n : Int)] w fun e w' => e = .returned (.tuple #[]) ∧ PWrote w0 B b T w w' := by
  have hf := (Pz.orE_0 hH).1
  have hf : fitsS h e bo.len el.len = true := by
    by_cases hc : fitsS h e bo.len el.len = true
    · exact hc
    · rw [if_neg hc] at hf; exact absurd hf (by decide)
  clear hH
  have hT : acc ++ stT txS (.cons h e bo el .nil) n = T := hT
  obtain ⟨k, name⟩ := h
  unfold fitsS at hf
  simp only at hf hB hL
  by_cases k1 : k = 1
  · subst k1
    rw [if_pos (Or.inl rfl), decide_eq_true_eq] at hf
    obtain ⟨x, kx, b0, off, aok, capk, rfl, rfl, o1, o2, o3, o4, hk, c0, c1, c2, c3, c4, c5, c6⟩ := one_ex h1 ho hE hf.1
    exact stmt_1 n hn name acc T w0 w B b ht hw ao2 ao3 bo.len el.len cap2 cap3 x kx b0 off cap1 aok capk o1 o2 o3 o4 hk c0 c1 c2 c3 c4 c5 c6 (by show _ = T; rw [← hT]; simp [stT, txF, txA_one]) hl
  by_cases k2 : k = 2
  · subst k2
    rw [if_pos (Or.inr rfl), decide_eq_true_eq] at hf
    obtain ⟨x, kx, b0, off, aok, capk, rfl, rfl, o1, o2, o3, o4, hk, c0, c1, c2, c3, c4, c5, c6⟩ := one_ex h1 ho hE hf.1
    exact stmt_2 n hn name acc T w0 w B b ht hw ao2 ao3 bo.len el.len cap2 cap3 x kx b0 off cap1 aok capk o1 o2 o3 o4 hk c0 c1 c2 c3 c4 c5 c6 (by show _ = T; rw [← hT]; simp [stT, txF, txA_one]) hl
  rw [if_neg (by omega)] at hf
  by_cases k3 : k = 3
  · subst k3
    rw [if_pos rfl, decide_eq_true_eq] at hf
    obtain ⟨x, kx, b0, off, aok, capk, rfl, rfl, o1, o2, o3, o4, hk, c0, c1, c2, c3, c4, c5, c6⟩ := one_ex h1 ho hE hf.1
    by_cases hz : 0 < el.len
    · exact stmt_3b n hn name acc T w0 w B b ht hw ao2 ao3 bo el cap2 cap3 x kx b0 off cap1 aok capk o1 o2 o3 o4 hk c0 c1 c2 c3 c4 c5 c6 (hB rfl) h2 (hL (Or.inr hz)) h3 hz (by show _ = T; rw [← hT]; simp [stT, txF, txA_one, hz]) hl
    · exact stmt_3a n hn name acc T w0 w B b ht hw ao2 ao3 bo el cap2 cap3 x kx b0 off cap1 aok capk o1 o2 o3 o4 hk c0 c1 c2 c3 c4 c5 c6 (hB rfl) h2 (by omega) (by show _ = T; rw [← hT]; simp [stT, txF, txA_one, hz]) hl
  rw [if_neg k3] at hf
  by_cases k4 : k = 4
  · subst k4
    rw [if_pos rfl, decide_eq_true_eq] at hf
    obtain ⟨x, kx, b0, off, aok, capk, rfl, rfl, o1, o2, o3, o4, hk, c0, c1, c2, c3, c4, c5, c6⟩ := one_ex h1 ho hE hf.1
    exact stmt_4 n hn name acc T w0 w B b ht hw ao2 ao3 bo el cap2 cap3 x kx b0 off cap1 aok capk o1 o2 o3 o4 hk c0 c1 c2 c3 c4 c5 c6 (hB rfl) h2 (by show _ = T; rw [← hT]; simp [stT, txF, txA_one]) hl
  rw [if_neg k4] at hf
  by_cases k5 : k = 5
  · subst k5
    rw [if_pos rfl, decide_eq_true_eq] at hf
    by_cases hz : e.len = 0
    · have : e = .nil := by
        cases e with
        | nil => rfl
        | cons a b c => simp [Exs.len] at hz
      subst this
      exact stmt_5a n hn name acc T w0 w B b ht hw ao2 ao3 bo el cap2 cap3 ao1 cap1 (by show _ = T; rw [← hT]; simp [stT, txF, txA_one, Exs.len]) hl
    · obtain ⟨x, kx, b0, off, aok, capk, rfl, rfl, o1, o2, o3, o4, hk, c0, c1, c2, c3, c4, c5, c6⟩ := one_ex h1 ho hE (by omega)
      exact stmt_5b n hn name acc T w0 w B b ht hw ao2 ao3 bo el cap2 cap3 x kx b0 off cap1 aok capk o1 o2 o3 o4 hk c0 c1 c2 c3 c4 c5 c6 (by show _ = T; rw [← hT]; simp [stT, txF, txA_one, Exs.len]) hl
  rw [if_neg k5] at hf
  by_cases k6 : k = 6
  · subst k6
    rw [if_pos (Or.inl rfl), decide_eq_true_eq] at hf
    obtain ⟨x, kx, b0, off, aok, capk, rfl, rfl, o1, o2, o3, o4, hk, c0, c1, c2, c3, c4, c5, c6⟩ := one_ex h1 ho hE hf.1
    exact stmt_6 n hn name acc T w0 w B b ht hw ao2 ao3 bo.len el.len cap2 cap3 x kx b0 off cap1 aok capk o1 o2 o3 o4 hk c0 c1 c2 c3 c4 c5 c6 (by show _ = T; rw [← hT]; simp [stT, txF, txA_one]) hl
  by_cases k7 : k = 7
  · subst k7
    rw [if_pos (Or.inr rfl), decide_eq_true_eq] at hf
    obtain ⟨x, kx, b0, off, aok, capk, rfl, rfl, o1, o2, o3, o4, hk, c0, c1, c2, c3, c4, c5, c6⟩ := one_ex h1 ho hE hf.1
    exact stmt_7 n hn name acc T w0 w B b ht hw ao2 ao3 bo.len el.len cap2 cap3 x kx b0 off cap1 aok capk o1 o2 o3 o4 hk c0 c1 c2 c3 c4 c5 c6 (by show _ = T; rw [← hT]; simp [stT, txF, txA_one]) hl
  rw [if_neg (by omega)] at hf
  by_cases k8 : k = 8
  · subst k8
    rw [if_pos rfl, decide_eq_true_eq] at hf
    have : e = .nil := by
      cases e with
      | nil => rfl
      | cons a b c => simp [Exs.len] at hf
    subst this
    exact stmt_8 n hn name acc T w0 w B b ht hw ao2 ao3 bo el cap2 cap3 ao1 cap1 (hB rfl) h2 (hL (Or.inl rfl)) h3 (by show _ = T; rw [← hT]; simp [stT, txF, txA_one]) hl
  rw [if_neg k8] at hf
  by_cases k9 : k = 9
  · subst k9
    rw [if_pos rfl, decide_eq_true_eq] at hf
    obtain ⟨x, kx, b0, off, aok, capk, rfl, rfl, o1, o2, o3, o4, hk, c0, c1, c2, c3, c4, c5, c6⟩ := one_ex h1 ho hE hf.1
    exact stmt_9 n hn name acc T w0 w B b ht hw ao2 ao3 bo.len el.len cap2 cap3 x kx b0 off cap1 aok capk o1 o2 o3 o4 hk c0 c1 c2 c3 c4 c5 c6 (by show _ = T; rw [← hT]; simp [stT, txF, txA_one]) hl
  rw [if_neg k9] at hf
  cases hf
def BlkC (k : Sts) : Prop := ∀ (n : Nat) (a : Int), n ≤ 32 → errS rnS cnS k = 0 → OkS k → dS k (n : Int) a ≤ 32 → BlkW k n
theorem stT_one (h : SH) (e : Exs) (b l r : Sts) (n : Nat) : stT txS (.cons h e b l r) n = stT txS (.cons h e b l .nil) n ++ stT txS r n := by
  conv => lhs; rw [stT]
  conv => rhs; rw [stT]
  rw [show stT txS .nil n = [] from rfl, List.append_nil]
set_option maxRecDepth 20000 in
set_option maxHeartbeats 4000000 in
theorem blk_step (k : Sts) (ih : ∀ k' : Sts, k'.size < k.size → BlkC k') : BlkC k := by
  intro n a0 hn he0 ho0 hd0 z hz ao cap w0 w B b acc T hk ht hw hT hl
  subst hz
  have hrest := hk.rest
  obtain ⟨hcap, hmax, _⟩ := hk
  have hlen : k.len ≤ 9223372036854775807 := by unfold maxLen at hmax; omega
  go_enter Tryz.func82, Tryz.ntmps82
  go_wp2_with fail
  go_loopg [10] k.len (fun g iv wr => ∃ (i : Nat) (r : Sts) (ac : Bs) (aa : Int), iv = ci (i : Int) ∧ i + r.len = k.len ∧ r.size ≤ k.size ∧ StR w0 ao i r ∧ errS rnS cnS r = 0 ∧ OkS r ∧ dS r (n : Int) aa ≤ 32 ∧ ac ++ stT txS r n = T ∧ g = r.len ∧ PW w0 B b ac wr ∧ Fr (BS B b w) w wr)
  case atStart => exact ⟨0, k, acc, a0, rfl, by omega, Nat.le_refl _, hrest, he0, ho0, hd0, hT, rfl, hw, Fr.refl _ _⟩
  case round =>
    obtain ⟨i, r, ac, aa, rfl, hlen2, hsize, hrow, her, hor, hdr, hac, hgk, hp, hfr⟩ := hrel
    have hgkH : Hidden (gk = r.len) := hgk
    have hacH : Hidden (ac ++ stT txS r n = T) := hac
    have hlenH : Hidden (i + r.len = k.len) := hlen2
    have herH : Hidden (errS rnS cnS r = 0) := her
    clear hgk hac hlen2 hrest her he0 hT
    cases r with
    | nil =>
      have hi : i = k.len := hlenH
      subst hi
      have : ac = T := by have := (show _ = T from hacH); simpa [stT] using this
      subst this
      go_wp2_with fail
      go_end0
      exact ⟨rfl, hp, hfr⟩
    | cons h' e' b' l' r' =>
      have hil : i < k.len := by have : i + (r'.len + 1) = k.len := hlenH; omega
      obtain ⟨b0, off, ao1, cap1, ao2, cap2, ao3, cap3, rfl, hL1, hL2, hL3, hrow2, d0, d1, d2, d3, d4⟩ := hrow.next
      have d0 := hp.fr.cellN d0
      have d1 := hp.fr.cellN d1
      have d2 := hp.fr.cellN d2
      have d3 := hp.fr.cellN d3
      have d4 := hp.fr.cellN d4
      have f2 := Fr.alloc (fun _ => False) wr (.cells #[ci h'.kind, ct h'.name, .slice ao1 e'.len cap1, .slice ao2 b'.len cap2, .slice ao3 l'.len cap3] 91)
      simp only [Sts.size] at hsize
      have her2 : errS rnS cnS (.cons h' e' b' l' r') = 0 := herH
      rw [errS] at her2
      obtain ⟨a1, a2⟩ := Pz.orE_0 her2
      obtain ⟨a3, a4⟩ := Pz.orE_0 a1
      obtain ⟨a5, a6⟩ := Pz.orE_0 a4
      obtain ⟨a7, a8⟩ := Pz.orE_0 a6
      obtain ⟨_, _, s1, s2, s3, s4⟩ := hor
      obtain ⟨q1, q2, q3, aa', q4⟩ := Pz.dS_cons (by omega) (by omega) hdr
      have hB : hasBody h'.kind = true → BlkW b' (n + 1) := fun hb => by
        have := q2 (Or.inl hb)
        have := Pz.dS_acc b' ((n : Int) + 1) ((n : Int) + 1)
        exact ih b' (by omega) (n + 1) ((n : Int) + 1) (by omega) a7 s2 (by simpa using q2 (Or.inl hb))
      have hL : h'.kind = 8 ∨ 0 < l'.len → BlkW l' (n + 1) := fun hb => by
        have := q3 hb
        have := Pz.dS_acc l' ((n : Int) + 1) ((n : Int) + 1)
        exact ih l' (by omega) (n + 1) ((n : Int) + 1) (by omega) a8 s3 (by simpa using q3 hb)
      obtain ⟨T2, hT2'⟩ : ∃ T2, ac ++ stT txS (.cons h' e' b' l' .nil) n = T2 := ⟨_, rfl⟩
      have hT2 : Hidden (ac ++ stT txS (.cons h' e' b' l' .nil) n = T2) := hT2'
      have hT3 : Hidden (T2 ++ stT txS r' n = T) := by
        show _ = T
        rw [← (show _ = T from hacH), stT_one, ← hT2', List.append_assoc]
      clear hT2' hacH her2 herH a1 a4 a6
      have ke := stmt_w h' e' b' l' n (by omega) a3 a5 s1 hB hL ao1 ao2 ao3 cap1 cap2 cap3 ac T2 w0 _ B b ht (hp.quiet f2) hL1 hL2 hL3 hT2 (app_le (show _ = T from hT3) hl)
      clear hT2 a3 a5 q1 q2 q3 hdr
      go_wp2_with fail
      go_at_call 129
      refine ke.mono ?_
      rintro e W3 ⟨rfl, p3, g3⟩
      go_wp2_with fail
      go_roundg r'.len
      case measure =>
        have : gk = r'.len + 1 := hgkH
        omega
      case rel =>
        refine ⟨i + 1, r', _, aa', by go_num, ?_, by omega, hrow2, a2, s4, q4, hT3, rfl, p3, bs_trans hfr (bs_then f2 g3)⟩
        have : i + (r'.len + 1) = k.len := hlenH
        omega
theorem blk_any (k : Sts) : BlkC k := by
  have : ∀ (n : Nat) (k : Sts), k.size < n → BlkC k := by
    intro n
    induction n with
    | zero => intro k hk; omega
    | succ n ih => intro k hk; exact blk_step k (fun k' hk' => ih k' (by omega))
  exact this (k.size + 1) k (by omega)
end Go.Proofs.YteijjaabngkbjaaGreatDoor
namespace Go.Proofs.YteijjaabngkbjaaGreatDoor.V
open Go.RowKit Te
set_option linter.unusedSimpArgs false
set_option linter.unusedVariables false
def BY (B : Nat) (w : World) (k : Nat) : Prop := B ≤ k ∧ ∃ cur fr, w.heap[k]? = some (.cells cur 5 fr)
theorem by_trans {B : Nat} {w w1 w2 : World} (h : Fr (BY B w) w w1) (g : Fr (BY B w1) w1 w2) : Fr (BY B w) w w2 := by
  refine h.trans g (fun k hk hb => ?_)
  obtain ⟨h1, cur, fr, h2⟩ := hb
  by_cases hS : BY B w k
  · exact hS
  · exact ⟨h1, cur, fr, by rw [← h.block k hk hS]; exact h2⟩
theorem by_quiet {B : Nat} {w w1 : World} (h : Fr (fun _ => False) w w1) : Fr (BY B w) w w1 := h.mono (fun _ _ f => f.elim)
theorem by_then {B : Nat} {w w1 w2 : World} (h : Fr (fun _ => False) w w1) (g : Fr (BY B w1) w1 w2) : Fr (BY B w) w w2 := by_trans (by_quiet h) g
theorem by_keep {B : Nat} {w w1 : World} (h : Fr (BY B w) w w1) {k : Nat} {cs : Array Value} {t : TypeId} {fr : Nat × Nat} (hk : w.heap[k]? = some (.cells cs t fr)) (ht : t ≠ 5) : w1.heap[k]? = some (.cells cs t fr) := by
  refine h.heap hk (fun hS => ?_)
  obtain ⟨_, cur, fr', h2⟩ := hS
  rw [hk] at h2
  simp only [Option.some.injEq, Obj.cells.injEq] at h2
  exact ht h2.2.1
structure OW (w0 : World) (B : Nat) (v : Value) (acc : Bs) (w : World) : Prop where
  fr : Fr (fun _ => False) w0 w
  low : w0.heap.size ≤ B
  size : B ≤ w.heap.size
  own : w.ownsRow B 5 1 v acc.length (Lib.byteCells acc)
theorem OW.quiet {w0 w w' : World} {B : Nat} {v : Value} {acc : Bs} (h : OW w0 B v acc w) (f : Fr (fun _ => False) w w') : OW w0 B v acc w' := by
  refine ⟨h.fr.same f, h.low, Nat.le_trans h.size f.size, ?_⟩
  obtain ⟨h1, h2⟩ := h.own
  refine ⟨h1, ?_⟩
  rcases h2 with h0 | ⟨g, cap, cur, rfl, hb, hg, hr⟩
  · exact Or.inl h0
  · exact Or.inr ⟨g, cap, cur, rfl, hb, f.heap hg (fun f => f), hr⟩
theorem OW.shape {w0 w : World} {B : Nat} {v : Value} {acc : Bs} (h : OW w0 B v acc w) : ∃ ao cap, v = .slice ao acc.length cap ∧ acc.length ≤ cap ∧ cap ≤ 9223372036854775807 := by
  rcases h.own.2 with ⟨rfl, h0⟩ | ⟨g, cap, cur, rfl, hb, hg, hnc, hcm, _⟩
  · exact ⟨none, 0, by rw [h0], by omega, by decide⟩
  · exact ⟨_, cap, rfl, hnc, by unfold maxLen at hcm; omega⟩
theorem OW.nil (w : World) : OW w w.heap.size (.slice none 0 0) [] w := ⟨Fr.refl _ _, Nat.le_refl _, Nat.le_refl _, World.ownsRow_nil _ _ _ _⟩
theorem wpList_by {w : World} {ops : Array Oper} {rest : List Oper} {o : Oper} {a : Act} {Q : Exit → Act → World → Prop} (hgd : o.guard = none) (sl x : Operand)
    (ho : o.op = .call { callee := .builtin .append, args := #[sl, x], argTypes := #[46, 9] }) (w0 : World) (B : Nat) (v : Value) (acc s T : Bs) (hs : a.eval sl = v) (hx : a.eval x = .string ⟨s.toArray⟩)
    (hw : OW w0 B v acc w) (hT : Hidden (acc ++ s = T)) (hl : T.length ≤ 140737488355328)
    (h : ∀ ao cap w', T.length ≤ cap → cap ≤ 9223372036854775807 → OW w0 B (.slice ao T.length cap) T w' → Fr (BY B w) w w' → wpList Tryz.prog ops Q rest (a.put o.dst (.slice ao T.length cap)) w') : wpList Tryz.prog ops Q (o :: rest) a w := by
  obtain ⟨i0, hi, hz⟩ := Option.map_eq_some_iff.1 info_byte
  simp only [Prod.mk.injEq] at hz
  have hT' : acc ++ s = T := hT
  have hs2 : (⟨s.toArray⟩ : ByteArray).size = s.length := by simp [ByteArray.size]
  have hle : acc.length + s.length = T.length := by rw [← hT', List.length_append]
  refine Lib.wpList_append_own_string w hgd sl x 46 9 ho B 5 i0 Tryz.underlying46 Tryz.underlying9 hi hz.1 hz.2.1 hz.2.2 v acc.length (Lib.byteCells acc) hs hw.own ⟨s.toArray⟩ hx (by rw [hs2]; unfold maxLen; omega) (by rw [hs2]; omega) hw.size ?_
  intro v' w' hown hgrow _
  have e : Lib.byteCells T = Lib.byteCells acc ++ Lib.strCells ⟨s.toArray⟩ := by rw [← hT']; simp [Lib.byteCells, Lib.strCells]
  have hown2 : w'.ownsRow B 5 1 v' T.length (Lib.byteCells T) := by rw [e, ← hle]; rw [hs2] at hown; exact hown
  have hby : Fr (BY B w) w w' := (Fr.grown hgrow).mono (fun k _ hk => by
    obtain ⟨h1, cur, fr, h2⟩ := bs_row hw.own k hk.symm
    exact ⟨h1, cur, fr, h2⟩)
  have how : OW w0 B v' T w' := ⟨by
    refine hw.fr.trans hby (fun k hk hS => ?_)
    have := hS.1
    have := hw.low
    omega, hw.low, Nat.le_trans hw.size hby.size, hown2⟩
  obtain ⟨ao, cap, rfl, h1, h2⟩ := how.shape
  exact h ao cap w' h1 h2 how hby
theorem step_by {w : World} {ops : Array Oper} {o : Oper} {a : Act} {K : Act → World → Prop} {Q : Exit → Act → World → Prop} {E : Prop} (hgd : o.guard = none) (sl x : Operand)
    (ho : o.op = .call { callee := .builtin .append, args := #[sl, x], argTypes := #[46, 9] }) (w0 : World) (B : Nat) (v : Value) (acc s T : Bs) (hs : a.eval sl = v) (hx : a.eval x = .string ⟨s.toArray⟩)
    (hw : OW w0 B v acc w) (hT : Hidden (acc ++ s = T)) (hl : T.length ≤ 140737488355328)
    (h : ∀ ao cap w', T.length ≤ cap → cap ≤ 9223372036854775807 → OW w0 B (.slice ao T.length cap) T w' → Fr (BY B w) w w' → K (a.put o.dst (.slice ao T.length cap)) w') : if Region.wanted o (yielded ops a.tmps) = true then Oper.wp Tryz.prog o a w K Q else E := by
  have hwt : Region.wanted o (yielded ops a.tmps) = true := by simp [Region.wanted, hgd]
  rw [if_pos hwt]
  obtain ⟨i0, hi, hz⟩ := Option.map_eq_some_iff.1 info_byte
  simp only [Prod.mk.injEq] at hz
  have hT' : acc ++ s = T := hT
  have hs2 : (⟨s.toArray⟩ : ByteArray).size = s.length := by simp [ByteArray.size]
  have hle : acc.length + s.length = T.length := by rw [← hT', List.length_append]
  obtain ⟨v', w', hr, hown, hgrow, _⟩ := Lib.run_append_own_string (P := Tryz.prog) w B 46 9 o.type 5 i0 Tryz.underlying46 Tryz.underlying9 hi hz.1 hz.2.1 hz.2.2 v acc.length (Lib.byteCells acc) hw.own ⟨s.toArray⟩ (by rw [hs2]; unfold maxLen; omega) (by rw [hs2]; omega) hw.size
  have e : Lib.byteCells T = Lib.byteCells acc ++ Lib.strCells ⟨s.toArray⟩ := by rw [← hT']; simp [Lib.byteCells, Lib.strCells]
  have hown2 : w'.ownsRow B 5 1 v' T.length (Lib.byteCells T) := by rw [e, ← hle]; rw [hs2] at hown; exact hown
  have hby : Fr (BY B w) w w' := (Fr.grown hgrow).mono (fun k _ hk => by
    obtain ⟨h1, cur, fr, h2⟩ := bs_row hw.own k hk.symm
    exact ⟨h1, cur, fr, h2⟩)
  have how : OW w0 B v' T w' := ⟨by
    refine hw.fr.trans hby (fun k hk hS => ?_)
    have := hS.1
    have := hw.low
    omega, hw.low, Nat.le_trans hw.size hby.size, hown2⟩
  obtain ⟨ao, cap, rfl, h1, h2⟩ := how.shape
  have hk := h ao cap w' h1 h2 how hby
  unfold Oper.wp execOp
  simp only [ho, resolve, invoke, builtin, Sem.run_bind, Sem.run_pure, Result.andThen_ok, List.map_toArray, List.map_cons, List.map_nil, hs, hx, hr]
  exact hk
def Zo (T Z : Bs) : Prop := (T.length ≤ 4096 → Z = T) ∧ (4096 < T.length → 4096 < Z.length) ∧ Z.length ≤ T.length
theorem Zo.refl (T : Bs) : Zo T T := ⟨fun _ => rfl, fun h => h, Nat.le_refl _⟩
theorem Zo.app {T Z : Bs} (h : Zo T Z) (s : Bs) : Zo (T ++ s) (Z ++ s) := by
  obtain ⟨h1, h2, h3⟩ := h
  refine ⟨fun hl => ?_, fun hl => ?_, ?_⟩
  · rw [List.length_append] at hl
    rw [h1 (by omega)]
  · rw [List.length_append] at *
    by_cases hc : T.length ≤ 4096
    · rw [h1 hc]; exact hl
    · have := h2 (by omega)
      omega
  · rw [List.length_append, List.length_append]; omega
theorem Zo.stop {T Z : Bs} (h : Zo T Z) (hz : 4096 < Z.length) (s : Bs) : Zo (T ++ s) Z := by
  obtain ⟨h1, h2, h3⟩ := h
  refine ⟨fun hl => ?_, fun _ => hz, by rw [List.length_append]; omega⟩
  rw [List.length_append] at hl
  have := h1 (by omega)
  rw [this] at hz
  omega
set_option maxRecDepth 20000 in
set_option maxHeartbeats 1000000 in
theorem pad_any (n : Nat) (hn : n ≤ 1000000) (z : Int) (hz : z = (n : Int)) (w : World) : Calls Tryz.prog 44 #[ci z] w fun e w' => e = .returned (ct (Te.pad n)) ∧ w' = w := by
  subst hz
  go_enter Tryz.func44, Tryz.ntmps44
  go_wp2_with fail
  go_loopg [3, 4] n (fun g sv iv wr => ∃ (i : Nat) (P : Bs), sv = ct P ∧ iv = ci (i : Int) ∧ i ≤ n ∧ P = Te.pad i ∧ g = n - i ∧ wr = w)
  case atStart => exact ⟨0, [], rfl, rfl, by omega, rfl, rfl, rfl⟩
  case round =>
    obtain ⟨i, P, rfl, rfl, hi, hP, hgk, rfl⟩ := hrel
    have hgkH : Hidden (gk = n - i) := hgk
    have hPH : Hidden (P = Te.pad i) := hP
    clear hgk hP
    have hPl : P.length = 2 * i := by rw [(show P = Te.pad i from hPH), Pz.pad_ln]
    by_cases hil : i < n
    · have hc := fun w => X.catv P [32, 32] (P ++ [32, 32]) rfl (by simp; omega) w
      obtain ⟨P2, hP2⟩ : ∃ P2, P ++ [32, 32] = P2 := ⟨_, rfl⟩
      rw [hP2] at hc
      have hP2H : Hidden (P ++ [32, 32] = P2) := hP2
      clear hP2 hPl
      go_wp2_with fail
      go_roundg (n - (i + 1))
      case measure =>
        have : gk = n - i := hgkH
        omega
      case rel =>
        refine ⟨i + 1, P2, rfl, by go_num, by omega, ?_, rfl, rfl⟩
        rw [← (show P ++ [32, 32] = P2 from hP2H), (show P = Te.pad i from hPH)]
        unfold Te.pad
        rw [List.replicate_succ', List.flatten_append]
        rfl
    · obtain rfl : i = n := by omega
      clear hPl
      go_wp2_with fail
      go_ret
      refine ⟨?_, rfl⟩
      rw [← (show P = Te.pad i from hPH)]
      rfl
end Go.Proofs.YteijjaabngkbjaaGreatDoor.V
