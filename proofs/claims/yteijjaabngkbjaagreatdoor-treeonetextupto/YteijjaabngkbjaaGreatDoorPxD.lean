/- The law TreeOneText. -/
import Derived.Test.YteijjaabngkbjaaGreatDoorPzA
import Derived.Test.YteijjaabngkbjaaGreatDoorTrQ4
import Derived.Test.YteijjaabngkbjaaGreatDoorTrTAll
namespace Go.Proofs.YteijjaabngkbjaaGreatDoor
open Go.RowKit Lx Te
set_option linter.unusedSimpArgs false
set_option linter.unusedVariables false

section
variable (a b : Mo) (ao aod bo bod : Option Addr) (cap capd bap bapd : Nat) (w : World) (ht : F.Tab w) (hva : MoI w a (moV a ao cap aod capd)) (hvb : MoI w b (moV b bo bap bod bapd))
abbrev boxes : World := (w.alloc (moO a (.slice ao a.imports.length cap) (.slice aod a.decls.length capd))).alloc (moO b (.slice bo b.imports.length bap) (.slice bod b.decls.length bapd))
include ht in
set_option maxRecDepth 20000 in
set_option maxHeartbeats 1000000 in
theorem one_bad (E E2 : Int) (s2 : By) (hE : (E != 0) = true) (hE0 : (E == 0) = false)
    (kA : ∀ w1, Fr (fun _ => False) w w1 → Calls Tryz.prog 8 #[moV a ao cap aod capd] w1 fun e w' => e = .returned (.tuple #[ct [], ci E]) ∧ Fr (fun _ => False) w1 w')
    (kB : ∀ w1, Fr (fun _ => False) w w1 → Calls Tryz.prog 8 #[moV b bo bap bod bapd] w1 fun e w' => e = .returned (.tuple #[ct s2, ci E2]) ∧ Fr (fun _ => False) w1 w') :
    Calls Tryz.prog 4 #[moV a ao cap aod capd, moV b bo bap bod bapd] w fun e w' => e = .returned (.bool true) ∧ Fr (fun _ => False) w w' := by
  have f0 : Fr (fun _ => False) w (boxes a b ao aod bo bod cap capd bap bapd w) := (Fr.alloc _ _ _).same (Fr.alloc _ _ _)
  have hb1 : Hidden ((boxes a b ao aod bo bod cap capd bap bapd w).heap[w.heap.size]? = some (moO a (.slice ao a.imports.length cap) (.slice aod a.decls.length capd))) := (Fr.alloc (fun _ => False) _ _).heap (alloc_new _ _) (fun f => f)
  have hb2 : Hidden ((boxes a b ao aod bo bod cap capd bap bapd w).heap[w.heap.size + 1]? = some (moO b (.slice bo b.imports.length bap) (.slice bod b.decls.length bapd))) := by
    have := alloc_new (w.alloc (moO a (.slice ao a.imports.length cap) (.slice aod a.decls.length capd))) (moO b (.slice bo b.imports.length bap) (.slice bod b.decls.length bapd))
    rw [show (w.alloc (moO a (.slice ao a.imports.length cap) (.slice aod a.decls.length capd))).heap.size = w.heap.size + 1 by simp] at this
    exact this
  go_enter Tryz.func4, Tryz.ntmps4
  go_wp2_with fail
  go_at_call 10
  refine (live_any _ (tab_fr ht f0)).mono ?_
  rintro e w1 ⟨rfl, f1⟩
  have g1 := f0.same f1
  obtain ⟨c0, c1, c2⟩ := mo_box (f1.heap hb1 (fun f => f))
  go_wp2_with fail
  go_at_call 8
  refine (kA _ g1).mono ?_
  rintro e w2 ⟨rfl, f2⟩
  have g2 := g1.same f2
  obtain ⟨d0, d1, d2⟩ := mo_box (f2.heap (f1.heap hb2 (fun f => f)) (fun f => f))
  go_wp2_with fail
  go_at_call 8
  refine (kB _ g2).mono ?_
  rintro e w3 ⟨rfl, f3⟩
  have g3 := g2.same f3
  go_wp2_with fail
  go_ret
  exact ⟨rfl, g3⟩
include ht hva in
set_option maxRecDepth 20000 in
set_option maxHeartbeats 1000000 in
theorem one_half (oa : OkM a) (s1 : By) (E2 : Int) (s2 : By) (hE : (E2 != 0) = true) (he : errM rnS cnS a = 0)
    (kA : ∀ w1, Fr (fun _ => False) w w1 → Calls Tryz.prog 8 #[moV a ao cap aod capd] w1 fun e w' => e = .returned (.tuple #[ct s1, ci 0]) ∧ Fr (fun _ => False) w1 w')
    (kB : ∀ w1, Fr (fun _ => False) w w1 → Calls Tryz.prog 8 #[moV b bo bap bod bapd] w1 fun e w' => e = .returned (.tuple #[ct s2, ci E2]) ∧ Fr (fun _ => False) w1 w') :
    Calls Tryz.prog 4 #[moV a ao cap aod capd, moV b bo bap bod bapd] w fun e w' => e = .returned (.bool true) ∧ Fr (fun _ => False) w w' := by
  have f0 : Fr (fun _ => False) w (boxes a b ao aod bo bod cap capd bap bapd w) := (Fr.alloc _ _ _).same (Fr.alloc _ _ _)
  have hb1 : Hidden ((boxes a b ao aod bo bod cap capd bap bapd w).heap[w.heap.size]? = some (moO a (.slice ao a.imports.length cap) (.slice aod a.decls.length capd))) := (Fr.alloc (fun _ => False) _ _).heap (alloc_new _ _) (fun f => f)
  have hb2 : Hidden ((boxes a b ao aod bo bod cap capd bap bapd w).heap[w.heap.size + 1]? = some (moO b (.slice bo b.imports.length bap) (.slice bod b.decls.length bapd))) := by
    have := alloc_new (w.alloc (moO a (.slice ao a.imports.length cap) (.slice aod a.decls.length capd))) (moO b (.slice bo b.imports.length bap) (.slice bod b.decls.length bapd))
    rw [show (w.alloc (moO a (.slice ao a.imports.length cap) (.slice aod a.decls.length capd))).heap.size = w.heap.size + 1 by simp] at this
    exact this
  have kr := fun (w1 : World) (f : Fr (fun _ => False) w w1) => right_any a _ w1 oa (hva.keep f)
  rw [he] at kr
  clear he
  go_enter Tryz.func4, Tryz.ntmps4
  go_wp2_with fail
  go_at_call 10
  refine (live_any _ (tab_fr ht f0)).mono ?_
  rintro e w1 ⟨rfl, f1⟩
  have g1 := f0.same f1
  obtain ⟨c0, c1, c2⟩ := mo_box (f1.heap hb1 (fun f => f))
  go_wp2_with fail
  go_at_call 8
  refine (kA _ g1).mono ?_
  rintro e w2 ⟨rfl, f2⟩
  have g2 := g1.same f2
  obtain ⟨d0, d1, d2⟩ := mo_box (f2.heap (f1.heap hb2 (fun f => f)) (fun f => f))
  go_wp2_with fail
  go_at_call 8
  refine (kB _ g2).mono ?_
  rintro e w3 ⟨rfl, f3⟩
  have g3 := g2.same f3
  obtain ⟨c0, c1, c2⟩ := mo_box (f3.heap (f2.heap (f1.heap hb1 (fun f => f)) (fun f => f)) (fun f => f))
  go_wp2_with fail
  go_at_call 11
  refine (kr _ g3).mono ?_
  rintro e w4 ⟨rfl, f4⟩
  go_wp2_with fail
  go_ret
  exact ⟨rfl, g3.same f4⟩
include ht hva hvb in
set_option maxRecDepth 20000 in
set_option maxHeartbeats 1000000 in
theorem one_both (oa : OkM a) (s1 s2 : By) (he : errM rnS cnS a = 0) (hs : Hidden ((s1 == s2) = decide (a = b)))
    (kA : ∀ w1, Fr (fun _ => False) w w1 → Calls Tryz.prog 8 #[moV a ao cap aod capd] w1 fun e w' => e = .returned (.tuple #[ct s1, ci 0]) ∧ Fr (fun _ => False) w1 w')
    (kB : ∀ w1, Fr (fun _ => False) w w1 → Calls Tryz.prog 8 #[moV b bo bap bod bapd] w1 fun e w' => e = .returned (.tuple #[ct s2, ci 0]) ∧ Fr (fun _ => False) w1 w') :
    Calls Tryz.prog 4 #[moV a ao cap aod capd, moV b bo bap bod bapd] w fun e w' => e = .returned (.bool true) ∧ Fr (fun _ => False) w w' := by
  have f0 : Fr (fun _ => False) w (boxes a b ao aod bo bod cap capd bap bapd w) := (Fr.alloc _ _ _).same (Fr.alloc _ _ _)
  have hb1 : Hidden ((boxes a b ao aod bo bod cap capd bap bapd w).heap[w.heap.size]? = some (moO a (.slice ao a.imports.length cap) (.slice aod a.decls.length capd))) := (Fr.alloc (fun _ => False) _ _).heap (alloc_new _ _) (fun f => f)
  have hb2 : Hidden ((boxes a b ao aod bo bod cap capd bap bapd w).heap[w.heap.size + 1]? = some (moO b (.slice bo b.imports.length bap) (.slice bod b.decls.length bapd))) := by
    have := alloc_new (w.alloc (moO a (.slice ao a.imports.length cap) (.slice aod a.decls.length capd))) (moO b (.slice bo b.imports.length bap) (.slice bod b.decls.length bapd))
    rw [show (w.alloc (moO a (.slice ao a.imports.length cap) (.slice aod a.decls.length capd))).heap.size = w.heap.size + 1 by simp] at this
    exact this
  have kr := fun (w1 : World) (f : Fr (fun _ => False) w w1) => right_any a _ w1 oa (hva.keep f)
  have ks := fun (w1 : World) (f : Fr (fun _ => False) w w1) => same_any a b _ _ w1 (hva.keep f) (hvb.keep f)
  rw [he] at kr
  rw [← (show (s1 == s2) = decide (a = b) from hs)] at ks
  clear he hs
  go_enter Tryz.func4, Tryz.ntmps4
  go_wp2_with fail
  go_at_call 10
  refine (live_any _ (tab_fr ht f0)).mono ?_
  rintro e w1 ⟨rfl, f1⟩
  have g1 := f0.same f1
  obtain ⟨c0, c1, c2⟩ := mo_box (f1.heap hb1 (fun f => f))
  go_wp2_with fail
  go_at_call 8
  refine (kA _ g1).mono ?_
  rintro e w2 ⟨rfl, f2⟩
  have g2 := g1.same f2
  obtain ⟨d0, d1, d2⟩ := mo_box (f2.heap (f1.heap hb2 (fun f => f)) (fun f => f))
  go_wp2_with fail
  go_at_call 8
  refine (kB _ g2).mono ?_
  rintro e w3 ⟨rfl, f3⟩
  have g3 := g2.same f3
  obtain ⟨c0, c1, c2⟩ := mo_box (f3.heap (f2.heap (f1.heap hb1 (fun f => f)) (fun f => f)) (fun f => f))
  go_wp2_with fail
  go_at_call 11
  refine (kr _ g3).mono ?_
  rintro e w4 ⟨rfl, f4⟩
  have g4 := g3.same f4
  obtain ⟨c0, c1, c2⟩ := mo_box (f4.heap (f3.heap (f2.heap (f1.heap hb1 (fun f => f)) (fun f => f)) (fun f => f)) (fun f => f))
  obtain ⟨d0, d1, d2⟩ := mo_box (f4.heap (f3.heap (f2.heap (f1.heap hb2 (fun f => f)) (fun f => f)) (fun f => f)) (fun f => f))
  go_wp2_with fail
  go_at_call 12
  refine (ks _ g4).mono ?_
  rintro e w5 ⟨rfl, f5⟩
  go_wp2_with fail
  go_ret
  exact ⟨rfl, g4.same f5⟩
end
theorem pr_parts (m : Mo) : (errM rnS cnS m = 0 ∧ prS m = (moT txS m, 0)) ∨ ∃ E, prS m = ([], E) ∧ (E != 0) = true ∧ (E == 0) = false := by
  unfold prS
  by_cases he : errM rnS cnS m = 0
  · rw [if_pos he]
    by_cases h3 : (lexS wordsL valS (moT txS m)).2.2 = 3
    · rw [if_pos h3]
      exact Or.inr ⟨3, rfl, by decide, by decide⟩
    · rw [if_neg h3]
      exact Or.inl ⟨he, rfl⟩
  · rw [if_neg he]
    exact Or.inr ⟨_, rfl, by simpa using he, by simpa using he⟩
theorem treeOneText.walk (v : Value) (a : Mo) (v' : Value) (b : Mo) (w : World) (hva : MoI w a v) (oa : OkM a) (hla : a.name.length + (a.imports.map fun p => p.length + 1).sum + (a.decls.map In.bkD).sum + 1 ≤ 1048576) (hvb : MoI w b v') (ob : OkM b) (hlb : b.name.length + (b.imports.map fun p => p.length + 1).sum + (b.decls.map In.bkD).sum + 1 ≤ 1048576) (ht : F.Tab w) :
    Calls Tryz.prog 4 #[v, v'] w fun e w' => e = .returned (.bool true) ∧ Fr (fun _ => False) w w' := by
  have sa : a.imports.length + Pz.fDs a.decls ≤ 10000000 := by
    have := im_sum a.imports
    have := fDs_bk a.decls
    omega
  have sb : b.imports.length + Pz.fDs b.decls ≤ 10000000 := by
    have := im_sum b.imports
    have := fDs_bk b.decls
    omega
  have kA := fun (w1 : World) (f : Fr (fun _ => False) w w1) => print_up a v w1 oa (hva.keep f) (tab_fr ht f) sa
  have kB := fun (w1 : World) (f : Fr (fun _ => False) w w1) => print_up b v' w1 ob (hvb.keep f) (tab_fr ht f) sb
  have ha0 := hva
  have hb0 := hvb
  obtain ⟨ao, cap, aod, capd, rfl, _, _⟩ := hva
  obtain ⟨bo, bap, bod, bapd, rfl, _, _⟩ := hvb
  rcases pr_parts a with ⟨ea, ha⟩ | ⟨E, ha, h1, h2⟩
  · rw [ha] at kA
    rcases pr_parts b with ⟨eb, hb⟩ | ⟨E, hb, h1, h2⟩
    · rw [hb] at kB
      refine one_both a b ao aod bo bod cap capd bap bapd w ht ha0 hb0 oa _ _ ea ?_ kA kB
      show _ = _
      by_cases hab : a = b
      · subst hab
        simp
      · rw [decide_eq_false hab]
        rw [beq_eq_false_iff_ne]
        intro h
        exact hab (Pz.mod_one lawT kws_in lawI a b ea (fun d hd => nnD_of (oa.decls d hd)) eb (fun d hd => nnD_of (ob.decls d hd)) h)
    · rw [hb] at kB
      exact one_half a b ao aod bo bod cap capd bap bapd w ht ha0 oa _ _ _ h1 ea kA kB
  · rw [ha] at kA
    exact one_bad a b ao aod bo bod cap capd bap bapd w ht E _ _ h1 h2 kA kB
end Go.Proofs.YteijjaabngkbjaaGreatDoor
