/- The program's parser: Parse, Expr. -/
import Derived.Test.YtpkaekokkhecmaaGreatDoorPwM
namespace Go.Proofs.YtpkaekokkhecmaaGreatDoor
open Go.RowKit Lx Te
set_option linter.unusedSimpArgs false
set_option linter.unusedVariables false
set_option linter.unusedSectionVars false

theorem Fr.set (w : World) (g off : Nat) (v : Value) {S : Nat → Prop} (h : S g) : Fr S w (w.setCell ⟨g, off, none⟩ v) := (Fr.put w g off v).mono (fun k _ hk => by subst hk; exact h)

set_option maxRecDepth 20000 in
set_option maxHeartbeats 2000000 in
/-- The text has no tokens. -/
theorem readM_lex (l : By) (p : Nat) (c : Int) (hc : c ≠ 0) (hl : l.length ≤ 9223372036854775807) (hR : Hidden (lexS wordsL valS l = ([], p, c))) (w : World) (ht : F.Tab w) :
    Calls Tryz.prog 24 #[ct l, .func (.func 25) #[] #[]] w fun e w' => e = .returned (.tuple #[.agg #[.string ⟨#[]⟩, .slice none 0 0, .slice none 0 0], ci (p : Int), ci c]) ∧ Fr (fun _ => False) w w' := by
  have fm := Fr.alloc (fun _ => False) w mo0
  have fn := Fr.alloc (fun _ => False) (w.alloc mo0) (.cells #[ci 0] 3)
  have fc := Fr.alloc (fun _ => False) ((w.alloc mo0).alloc (.cells #[ci 0] 3)) (.cells #[ci 0] 28)
  have k := lex_any l [] p c hl hR _ (tab_fr ht ((fm.same fn).same fc))
  have hcb : (c == 0) = false := by simpa using hc
  have hcb2 : (c != 0) = true := by simpa using hc
  go_enter_defers Tryz.func24, Tryz.ntmps24
  go_wp2_with fail
  go_at_call 7
  refine k.mono ?_
  rintro e W1 ⟨v, rfl, r1, f1⟩
  obtain ⟨aov, capv, rfl⟩ := r1.len
  have h0 : Hidden (W1.heap[w.heap.size]? = some mo0) := f1.heap (fc.heap (fn.heap (alloc_new _ _) (fun f => f)) (fun f => f)) (fun f => f)
  have h1 : Hidden (W1.heap[w.heap.size + 1]? = some (.cells #[ci 0] 3 (0, 0))) := f1.heap (fc.heap (heap_alloc2_new _ _ _) (fun f => f)) (fun f => f)
  have h2 : Hidden (W1.heap[w.heap.size + 1 + 1]? = some (.cells #[ci 0] 28 (0, 0))) := f1.heap (by have := alloc_new ((w.alloc mo0).alloc (.cells #[ci 0] 3)) (.cells #[ci 0] 28); simpa using this) (fun f => f)
  have c1 : W1.cell? ⟨w.heap.size + 1, 0, none⟩ = some (ci 0) := cell_of_row _ _ 0 _ _ _ h1
  have z1 := frozen_row h1 0
  have c2 : W1.cell? ⟨w.heap.size + 1 + 1, 0, none⟩ = some (ci 0) := cell_of_row _ _ 0 _ _ _ h2
  have z2 := frozen_row h2 0
  have s1 := f1.size
  simp only [World.size_alloc] at s1
  obtain ⟨ac0, ac1, ac2, az0, az1, az2⟩ := box3 h0
  go_wp2_with fail
  go_region
  all_goals go_wp2_with fail
  have ka_1 : (W1.setCell ⟨w.heap.size + 1, 0, none⟩ (ci (p : Int))).heap[w.heap.size]? = some (.cells #[.string ⟨#[]⟩, .slice none 0 0, .slice none 0 0] 44 (0, 0)) := (Fr.put _ _ _ _).heap h0 (by omega)
  have kb_1 : (W1.setCell ⟨w.heap.size + 1, 0, none⟩ (ci (p : Int))).heap[w.heap.size + 1]? = some (.cells #[ci (p : Int)] 3 (0, 0)) := heap_setCell_same _ _ 0 _ _ _ h1
  have kc_1 : (W1.setCell ⟨w.heap.size + 1, 0, none⟩ (ci (p : Int))).heap[w.heap.size + 1 + 1]? = some (.cells #[ci 0] 28 (0, 0)) := (Fr.put _ _ _ _).heap h2 (by omega)
  have ka_2 : ((W1.setCell ⟨w.heap.size + 1, 0, none⟩ (ci (p : Int))).setCell ⟨w.heap.size + 1 + 1, 0, none⟩ (ci c)).heap[w.heap.size]? = some (.cells #[.string ⟨#[]⟩, .slice none 0 0, .slice none 0 0] 44 (0, 0)) := (Fr.put _ _ _ _).heap ka_1 (by omega)
  have kb_2 : ((W1.setCell ⟨w.heap.size + 1, 0, none⟩ (ci (p : Int))).setCell ⟨w.heap.size + 1 + 1, 0, none⟩ (ci c)).heap[w.heap.size + 1]? = some (.cells #[ci (p : Int)] 3 (0, 0)) := (Fr.put _ _ _ _).heap kb_1 (by omega)
  have kc_2 : ((W1.setCell ⟨w.heap.size + 1, 0, none⟩ (ci (p : Int))).setCell ⟨w.heap.size + 1 + 1, 0, none⟩ (ci c)).heap[w.heap.size + 1 + 1]? = some (.cells #[ci c] 28 (0, 0)) := heap_setCell_same _ _ 0 _ _ _ kc_1
  have ka_3 : (((W1.setCell ⟨w.heap.size + 1, 0, none⟩ (ci (p : Int))).setCell ⟨w.heap.size + 1 + 1, 0, none⟩ (ci c)).setCell ⟨w.heap.size, 0, none⟩ (.string ⟨#[]⟩)).heap[w.heap.size]? = some (.cells #[.string ⟨#[]⟩, .slice none 0 0, .slice none 0 0] 44 (0, 0)) := heap_setCell_same _ _ 0 _ _ _ ka_2
  have kb_3 : (((W1.setCell ⟨w.heap.size + 1, 0, none⟩ (ci (p : Int))).setCell ⟨w.heap.size + 1 + 1, 0, none⟩ (ci c)).setCell ⟨w.heap.size, 0, none⟩ (.string ⟨#[]⟩)).heap[w.heap.size + 1]? = some (.cells #[ci (p : Int)] 3 (0, 0)) := (Fr.put _ _ _ _).heap kb_2 (by omega)
  have kc_3 : (((W1.setCell ⟨w.heap.size + 1, 0, none⟩ (ci (p : Int))).setCell ⟨w.heap.size + 1 + 1, 0, none⟩ (ci c)).setCell ⟨w.heap.size, 0, none⟩ (.string ⟨#[]⟩)).heap[w.heap.size + 1 + 1]? = some (.cells #[ci c] 28 (0, 0)) := (Fr.put _ _ _ _).heap kc_2 (by omega)
  have ka_4 : ((((W1.setCell ⟨w.heap.size + 1, 0, none⟩ (ci (p : Int))).setCell ⟨w.heap.size + 1 + 1, 0, none⟩ (ci c)).setCell ⟨w.heap.size, 0, none⟩ (.string ⟨#[]⟩)).setCell ⟨w.heap.size, 1, none⟩ (.slice none 0 0)).heap[w.heap.size]? = some (.cells #[.string ⟨#[]⟩, .slice none 0 0, .slice none 0 0] 44 (0, 0)) := heap_setCell_same _ _ 1 _ _ _ ka_3
  have kb_4 : ((((W1.setCell ⟨w.heap.size + 1, 0, none⟩ (ci (p : Int))).setCell ⟨w.heap.size + 1 + 1, 0, none⟩ (ci c)).setCell ⟨w.heap.size, 0, none⟩ (.string ⟨#[]⟩)).setCell ⟨w.heap.size, 1, none⟩ (.slice none 0 0)).heap[w.heap.size + 1]? = some (.cells #[ci (p : Int)] 3 (0, 0)) := (Fr.put _ _ _ _).heap kb_3 (by omega)
  have kc_4 : ((((W1.setCell ⟨w.heap.size + 1, 0, none⟩ (ci (p : Int))).setCell ⟨w.heap.size + 1 + 1, 0, none⟩ (ci c)).setCell ⟨w.heap.size, 0, none⟩ (.string ⟨#[]⟩)).setCell ⟨w.heap.size, 1, none⟩ (.slice none 0 0)).heap[w.heap.size + 1 + 1]? = some (.cells #[ci c] 28 (0, 0)) := (Fr.put _ _ _ _).heap kc_3 (by omega)
  have ka_5 : (((((W1.setCell ⟨w.heap.size + 1, 0, none⟩ (ci (p : Int))).setCell ⟨w.heap.size + 1 + 1, 0, none⟩ (ci c)).setCell ⟨w.heap.size, 0, none⟩ (.string ⟨#[]⟩)).setCell ⟨w.heap.size, 1, none⟩ (.slice none 0 0)).setCell ⟨w.heap.size, 2, none⟩ (.slice none 0 0)).heap[w.heap.size]? = some (.cells #[.string ⟨#[]⟩, .slice none 0 0, .slice none 0 0] 44 (0, 0)) := heap_setCell_same _ _ 2 _ _ _ ka_4
  have kb_5 : (((((W1.setCell ⟨w.heap.size + 1, 0, none⟩ (ci (p : Int))).setCell ⟨w.heap.size + 1 + 1, 0, none⟩ (ci c)).setCell ⟨w.heap.size, 0, none⟩ (.string ⟨#[]⟩)).setCell ⟨w.heap.size, 1, none⟩ (.slice none 0 0)).setCell ⟨w.heap.size, 2, none⟩ (.slice none 0 0)).heap[w.heap.size + 1]? = some (.cells #[ci (p : Int)] 3 (0, 0)) := (Fr.put _ _ _ _).heap kb_4 (by omega)
  have kc_5 : (((((W1.setCell ⟨w.heap.size + 1, 0, none⟩ (ci (p : Int))).setCell ⟨w.heap.size + 1 + 1, 0, none⟩ (ci c)).setCell ⟨w.heap.size, 0, none⟩ (.string ⟨#[]⟩)).setCell ⟨w.heap.size, 1, none⟩ (.slice none 0 0)).setCell ⟨w.heap.size, 2, none⟩ (.slice none 0 0)).heap[w.heap.size + 1 + 1]? = some (.cells #[ci c] 28 (0, 0)) := (Fr.put _ _ _ _).heap kc_4 (by omega)
  have ka_6 : ((((((W1.setCell ⟨w.heap.size + 1, 0, none⟩ (ci (p : Int))).setCell ⟨w.heap.size + 1 + 1, 0, none⟩ (ci c)).setCell ⟨w.heap.size, 0, none⟩ (.string ⟨#[]⟩)).setCell ⟨w.heap.size, 1, none⟩ (.slice none 0 0)).setCell ⟨w.heap.size, 2, none⟩ (.slice none 0 0)).setCell ⟨w.heap.size + 1, 0, none⟩ (ci (p : Int))).heap[w.heap.size]? = some (.cells #[.string ⟨#[]⟩, .slice none 0 0, .slice none 0 0] 44 (0, 0)) := (Fr.put _ _ _ _).heap ka_5 (by omega)
  have kb_6 : ((((((W1.setCell ⟨w.heap.size + 1, 0, none⟩ (ci (p : Int))).setCell ⟨w.heap.size + 1 + 1, 0, none⟩ (ci c)).setCell ⟨w.heap.size, 0, none⟩ (.string ⟨#[]⟩)).setCell ⟨w.heap.size, 1, none⟩ (.slice none 0 0)).setCell ⟨w.heap.size, 2, none⟩ (.slice none 0 0)).setCell ⟨w.heap.size + 1, 0, none⟩ (ci (p : Int))).heap[w.heap.size + 1]? = some (.cells #[ci (p : Int)] 3 (0, 0)) := heap_setCell_same _ _ 0 _ _ _ kb_5
  have kc_6 : ((((((W1.setCell ⟨w.heap.size + 1, 0, none⟩ (ci (p : Int))).setCell ⟨w.heap.size + 1 + 1, 0, none⟩ (ci c)).setCell ⟨w.heap.size, 0, none⟩ (.string ⟨#[]⟩)).setCell ⟨w.heap.size, 1, none⟩ (.slice none 0 0)).setCell ⟨w.heap.size, 2, none⟩ (.slice none 0 0)).setCell ⟨w.heap.size + 1, 0, none⟩ (ci (p : Int))).heap[w.heap.size + 1 + 1]? = some (.cells #[ci c] 28 (0, 0)) := (Fr.put _ _ _ _).heap kc_5 (by omega)
  have ka_7 : (((((((W1.setCell ⟨w.heap.size + 1, 0, none⟩ (ci (p : Int))).setCell ⟨w.heap.size + 1 + 1, 0, none⟩ (ci c)).setCell ⟨w.heap.size, 0, none⟩ (.string ⟨#[]⟩)).setCell ⟨w.heap.size, 1, none⟩ (.slice none 0 0)).setCell ⟨w.heap.size, 2, none⟩ (.slice none 0 0)).setCell ⟨w.heap.size + 1, 0, none⟩ (ci (p : Int))).setCell ⟨w.heap.size + 1 + 1, 0, none⟩ (ci c)).heap[w.heap.size]? = some (.cells #[.string ⟨#[]⟩, .slice none 0 0, .slice none 0 0] 44 (0, 0)) := (Fr.put _ _ _ _).heap ka_6 (by omega)
  have kb_7 : (((((((W1.setCell ⟨w.heap.size + 1, 0, none⟩ (ci (p : Int))).setCell ⟨w.heap.size + 1 + 1, 0, none⟩ (ci c)).setCell ⟨w.heap.size, 0, none⟩ (.string ⟨#[]⟩)).setCell ⟨w.heap.size, 1, none⟩ (.slice none 0 0)).setCell ⟨w.heap.size, 2, none⟩ (.slice none 0 0)).setCell ⟨w.heap.size + 1, 0, none⟩ (ci (p : Int))).setCell ⟨w.heap.size + 1 + 1, 0, none⟩ (ci c)).heap[w.heap.size + 1]? = some (.cells #[ci (p : Int)] 3 (0, 0)) := (Fr.put _ _ _ _).heap kb_6 (by omega)
  have kc_7 : (((((((W1.setCell ⟨w.heap.size + 1, 0, none⟩ (ci (p : Int))).setCell ⟨w.heap.size + 1 + 1, 0, none⟩ (ci c)).setCell ⟨w.heap.size, 0, none⟩ (.string ⟨#[]⟩)).setCell ⟨w.heap.size, 1, none⟩ (.slice none 0 0)).setCell ⟨w.heap.size, 2, none⟩ (.slice none 0 0)).setCell ⟨w.heap.size + 1, 0, none⟩ (ci (p : Int))).setCell ⟨w.heap.size + 1 + 1, 0, none⟩ (ci c)).heap[w.heap.size + 1 + 1]? = some (.cells #[ci c] 28 (0, 0)) := heap_setCell_same _ _ 0 _ _ _ kc_6
  have ff0 : Fr (fun k => w.heap.size ≤ k) W1 W1 := Fr.refl _ _
  have ff1 : Fr (fun k => w.heap.size ≤ k) W1 (W1.setCell ⟨w.heap.size + 1, 0, none⟩ (ci (p : Int))) := ff0.same (Fr.set (S := fun k => w.heap.size ≤ k) W1 (w.heap.size + 1) 0 (ci (p : Int)) (by omega))
  have ff2 : Fr (fun k => w.heap.size ≤ k) W1 ((W1.setCell ⟨w.heap.size + 1, 0, none⟩ (ci (p : Int))).setCell ⟨w.heap.size + 1 + 1, 0, none⟩ (ci c)) := ff1.same (Fr.set (S := fun k => w.heap.size ≤ k) (W1.setCell ⟨w.heap.size + 1, 0, none⟩ (ci (p : Int))) (w.heap.size + 1 + 1) 0 (ci c) (by omega))
  have ff3 : Fr (fun k => w.heap.size ≤ k) W1 (((W1.setCell ⟨w.heap.size + 1, 0, none⟩ (ci (p : Int))).setCell ⟨w.heap.size + 1 + 1, 0, none⟩ (ci c)).setCell ⟨w.heap.size, 0, none⟩ (.string ⟨#[]⟩)) := ff2.same (Fr.set (S := fun k => w.heap.size ≤ k) ((W1.setCell ⟨w.heap.size + 1, 0, none⟩ (ci (p : Int))).setCell ⟨w.heap.size + 1 + 1, 0, none⟩ (ci c)) (w.heap.size) 0 (.string ⟨#[]⟩) (by omega))
  have ff4 : Fr (fun k => w.heap.size ≤ k) W1 ((((W1.setCell ⟨w.heap.size + 1, 0, none⟩ (ci (p : Int))).setCell ⟨w.heap.size + 1 + 1, 0, none⟩ (ci c)).setCell ⟨w.heap.size, 0, none⟩ (.string ⟨#[]⟩)).setCell ⟨w.heap.size, 1, none⟩ (.slice none 0 0)) := ff3.same (Fr.set (S := fun k => w.heap.size ≤ k) (((W1.setCell ⟨w.heap.size + 1, 0, none⟩ (ci (p : Int))).setCell ⟨w.heap.size + 1 + 1, 0, none⟩ (ci c)).setCell ⟨w.heap.size, 0, none⟩ (.string ⟨#[]⟩)) (w.heap.size) 1 (.slice none 0 0) (by omega))
  have ff5 : Fr (fun k => w.heap.size ≤ k) W1 (((((W1.setCell ⟨w.heap.size + 1, 0, none⟩ (ci (p : Int))).setCell ⟨w.heap.size + 1 + 1, 0, none⟩ (ci c)).setCell ⟨w.heap.size, 0, none⟩ (.string ⟨#[]⟩)).setCell ⟨w.heap.size, 1, none⟩ (.slice none 0 0)).setCell ⟨w.heap.size, 2, none⟩ (.slice none 0 0)) := ff4.same (Fr.set (S := fun k => w.heap.size ≤ k) ((((W1.setCell ⟨w.heap.size + 1, 0, none⟩ (ci (p : Int))).setCell ⟨w.heap.size + 1 + 1, 0, none⟩ (ci c)).setCell ⟨w.heap.size, 0, none⟩ (.string ⟨#[]⟩)).setCell ⟨w.heap.size, 1, none⟩ (.slice none 0 0)) (w.heap.size) 2 (.slice none 0 0) (by omega))
  have ff6 : Fr (fun k => w.heap.size ≤ k) W1 ((((((W1.setCell ⟨w.heap.size + 1, 0, none⟩ (ci (p : Int))).setCell ⟨w.heap.size + 1 + 1, 0, none⟩ (ci c)).setCell ⟨w.heap.size, 0, none⟩ (.string ⟨#[]⟩)).setCell ⟨w.heap.size, 1, none⟩ (.slice none 0 0)).setCell ⟨w.heap.size, 2, none⟩ (.slice none 0 0)).setCell ⟨w.heap.size + 1, 0, none⟩ (ci (p : Int))) := ff5.same (Fr.set (S := fun k => w.heap.size ≤ k) (((((W1.setCell ⟨w.heap.size + 1, 0, none⟩ (ci (p : Int))).setCell ⟨w.heap.size + 1 + 1, 0, none⟩ (ci c)).setCell ⟨w.heap.size, 0, none⟩ (.string ⟨#[]⟩)).setCell ⟨w.heap.size, 1, none⟩ (.slice none 0 0)).setCell ⟨w.heap.size, 2, none⟩ (.slice none 0 0)) (w.heap.size + 1) 0 (ci (p : Int)) (by omega))
  have ff7 : Fr (fun k => w.heap.size ≤ k) W1 (((((((W1.setCell ⟨w.heap.size + 1, 0, none⟩ (ci (p : Int))).setCell ⟨w.heap.size + 1 + 1, 0, none⟩ (ci c)).setCell ⟨w.heap.size, 0, none⟩ (.string ⟨#[]⟩)).setCell ⟨w.heap.size, 1, none⟩ (.slice none 0 0)).setCell ⟨w.heap.size, 2, none⟩ (.slice none 0 0)).setCell ⟨w.heap.size + 1, 0, none⟩ (ci (p : Int))).setCell ⟨w.heap.size + 1 + 1, 0, none⟩ (ci c)) := ff6.same (Fr.set (S := fun k => w.heap.size ≤ k) ((((((W1.setCell ⟨w.heap.size + 1, 0, none⟩ (ci (p : Int))).setCell ⟨w.heap.size + 1 + 1, 0, none⟩ (ci c)).setCell ⟨w.heap.size, 0, none⟩ (.string ⟨#[]⟩)).setCell ⟨w.heap.size, 1, none⟩ (.slice none 0 0)).setCell ⟨w.heap.size, 2, none⟩ (.slice none 0 0)).setCell ⟨w.heap.size + 1, 0, none⟩ (ci (p : Int))) (w.heap.size + 1 + 1) 0 (ci c) (by omega))
  have ff := ff7
  have fall := (((fm.same fn).same fc).same f1).over (ff.same (Fr.drew _ _)) (fun k hk => hk)
  have q0 : ((((((((W1.setCell ⟨w.heap.size + 1, 0, none⟩ (ci (p : Int))).setCell ⟨w.heap.size + 1 + 1, 0, none⟩ (ci c)).setCell ⟨w.heap.size, 0, none⟩ (.string ⟨#[]⟩)).setCell ⟨w.heap.size, 1, none⟩ (.slice none 0 0)).setCell ⟨w.heap.size, 2, none⟩ (.slice none 0 0)).setCell ⟨w.heap.size + 1, 0, none⟩ (ci (p : Int))).setCell ⟨w.heap.size + 1 + 1, 0, none⟩ (ci c))).drew.heap[w.heap.size]? = some (.cells #[.string ⟨#[]⟩, .slice none 0 0, .slice none 0 0] 44 (0, 0)) := (Fr.drew (fun _ => False) _).heap ka_7 (fun f => f)
  have q1 : ((((((((W1.setCell ⟨w.heap.size + 1, 0, none⟩ (ci (p : Int))).setCell ⟨w.heap.size + 1 + 1, 0, none⟩ (ci c)).setCell ⟨w.heap.size, 0, none⟩ (.string ⟨#[]⟩)).setCell ⟨w.heap.size, 1, none⟩ (.slice none 0 0)).setCell ⟨w.heap.size, 2, none⟩ (.slice none 0 0)).setCell ⟨w.heap.size + 1, 0, none⟩ (ci (p : Int))).setCell ⟨w.heap.size + 1 + 1, 0, none⟩ (ci c))).drew.heap[w.heap.size + 1]? = some (.cells #[ci (p : Int)] 3 (0, 0)) := (Fr.drew (fun _ => False) _).heap kb_7 (fun f => f)
  have q2 : ((((((((W1.setCell ⟨w.heap.size + 1, 0, none⟩ (ci (p : Int))).setCell ⟨w.heap.size + 1 + 1, 0, none⟩ (ci c)).setCell ⟨w.heap.size, 0, none⟩ (.string ⟨#[]⟩)).setCell ⟨w.heap.size, 1, none⟩ (.slice none 0 0)).setCell ⟨w.heap.size, 2, none⟩ (.slice none 0 0)).setCell ⟨w.heap.size + 1, 0, none⟩ (ci (p : Int))).setCell ⟨w.heap.size + 1 + 1, 0, none⟩ (ci c))).drew.heap[w.heap.size + 1 + 1]? = some (.cells #[ci c] 28 (0, 0)) := (Fr.drew (fun _ => False) _).heap kc_7 (fun f => f)
  clear ff ff7 ff6 ff5 ff4 ff3 ff2 ff1 ff0 kc_7 kb_7 ka_7 kc_6 kb_6 ka_6 kc_5 kb_5 ka_5 kc_4 kb_4 ka_4 kc_3 kb_3 ka_3 kc_2 kb_2 ka_2 kc_1 kb_1 ka_1
  generalize ((((((((W1.setCell ⟨w.heap.size + 1, 0, none⟩ (ci (p : Int))).setCell ⟨w.heap.size + 1 + 1, 0, none⟩ (ci c)).setCell ⟨w.heap.size, 0, none⟩ (.string ⟨#[]⟩)).setCell ⟨w.heap.size, 1, none⟩ (.slice none 0 0)).setCell ⟨w.heap.size, 2, none⟩ (.slice none 0 0)).setCell ⟨w.heap.size + 1, 0, none⟩ (ci (p : Int))).setCell ⟨w.heap.size + 1 + 1, 0, none⟩ (ci c))).drew = W9 at q0 q1 q2 fall ⊢
  refine ⟨_, results_three rfl _ _ _ _ _ _ _ _ rfl rfl rfl (run_loadVar_row _ _ _ _ _ _ _ q0 Tryz.underlying44 rfl info_mo) (load_int _ _ _ q1) (load_errno _ _ _ q2), ?_⟩
  exact ⟨rfl, fall⟩

set_option maxRecDepth 20000 in
set_option maxHeartbeats 4000000 in
theorem readM_toks (l : By) (ts : List Tok) (g : Nat) (hg : g ≤ 3000) (hts : ts.length ≤ 1024) (p : Nat) (c : Int) (r : Option (Mo)) (hl : l.length ≤ 9223372036854775807) (hR : Hidden (lexS wordsL valS l = (ts, 0, 0))) (hS : Hidden (Pz.whole (Pz.mdl g (ts ++ [Pz.endT l.length])) = some (r, p, c))) (w : World) (ht : F.Tab w) :
    Calls Tryz.prog 24 #[ct l, .func (.func 25) #[] #[]] w fun e w' => ∃ v, e = .returned (.tuple #[v, ci (p : Int), ci c]) ∧ Nw w.heap.size w' (fun w' => MoI w' (r.getD ⟨[], [], []⟩) v) ∧ Fr (fun _ => False) w w' := by
  have fm := Fr.alloc (fun _ => False) w mo0
  have fn := Fr.alloc (fun _ => False) (w.alloc mo0) (.cells #[ci 0] 3)
  have fc := Fr.alloc (fun _ => False) ((w.alloc mo0).alloc (.cells #[ci 0] 3)) (.cells #[ci 0] 28)
  have k := lex_any l ts 0 0 hl hR _ (tab_fr ht ((fm.same fn).same fc))
  have hmf : ∀ (fn : Fn) (first cap : Array Value) (w : World), (Instr.makeFunc fn first cap).run Tryz.prog w = .ok (.func fn first cap) w := fun _ _ _ _ => rfl
  have hsl := str_len l
  go_enter_defers Tryz.func24, Tryz.ntmps24
  go_wp2_with fail
  go_at_call 7
  refine k.mono ?_
  rintro e W1 ⟨v, rfl, r1, f1⟩
  obtain ⟨aov, capv, rfl⟩ := r1.len
  have h0 : Hidden (W1.heap[w.heap.size]? = some mo0) := f1.heap (fc.heap (fn.heap (alloc_new _ _) (fun f => f)) (fun f => f)) (fun f => f)
  have h1 : Hidden (W1.heap[w.heap.size + 1]? = some (.cells #[ci 0] 3 (0, 0))) := f1.heap (fc.heap (heap_alloc2_new _ _ _) (fun f => f)) (fun f => f)
  have h2 : Hidden (W1.heap[w.heap.size + 1 + 1]? = some (.cells #[ci 0] 28 (0, 0))) := f1.heap (by have := alloc_new ((w.alloc mo0).alloc (.cells #[ci 0] 3)) (.cells #[ci 0] 28); simpa using this) (fun f => f)
  have c1 : W1.cell? ⟨w.heap.size + 1, 0, none⟩ = some (ci 0) := cell_of_row _ _ 0 _ _ _ h1
  have z1 := frozen_row h1 0
  have c2 : W1.cell? ⟨w.heap.size + 1 + 1, 0, none⟩ = some (ci 0) := cell_of_row _ _ 0 _ _ _ h2
  have z2 := frozen_row h2 0
  have s1 := f1.size
  simp only [World.size_alloc] at s1
  go_wp2_with fail
  have ka_1 : (W1.setCell ⟨w.heap.size + 1, 0, none⟩ (ci 0)).heap[w.heap.size]? = some (.cells #[.string ⟨#[]⟩, .slice none 0 0, .slice none 0 0] 44 (0, 0)) := (Fr.put _ _ _ _).heap h0 (by omega)
  have kb_1 : (W1.setCell ⟨w.heap.size + 1, 0, none⟩ (ci 0)).heap[w.heap.size + 1]? = some (.cells #[ci 0] 3 (0, 0)) := heap_setCell_same _ _ 0 _ _ _ h1
  have kc_1 : (W1.setCell ⟨w.heap.size + 1, 0, none⟩ (ci 0)).heap[w.heap.size + 1 + 1]? = some (.cells #[ci 0] 28 (0, 0)) := (Fr.put _ _ _ _).heap h2 (by omega)
  have ka_2 : ((W1.setCell ⟨w.heap.size + 1, 0, none⟩ (ci 0)).setCell ⟨w.heap.size + 1 + 1, 0, none⟩ (ci 0)).heap[w.heap.size]? = some (.cells #[.string ⟨#[]⟩, .slice none 0 0, .slice none 0 0] 44 (0, 0)) := (Fr.put _ _ _ _).heap ka_1 (by omega)
  have kb_2 : ((W1.setCell ⟨w.heap.size + 1, 0, none⟩ (ci 0)).setCell ⟨w.heap.size + 1 + 1, 0, none⟩ (ci 0)).heap[w.heap.size + 1]? = some (.cells #[ci 0] 3 (0, 0)) := (Fr.put _ _ _ _).heap kb_1 (by omega)
  have kc_2 : ((W1.setCell ⟨w.heap.size + 1, 0, none⟩ (ci 0)).setCell ⟨w.heap.size + 1 + 1, 0, none⟩ (ci 0)).heap[w.heap.size + 1 + 1]? = some (.cells #[ci 0] 28 (0, 0)) := heap_setCell_same _ _ 0 _ _ _ kc_1
  have ffn0 : Fr (fun k => k = w.heap.size + 1 ∨ k = w.heap.size + 1 + 1) W1 W1 := Fr.refl _ _
  have ffn1 : Fr (fun k => k = w.heap.size + 1 ∨ k = w.heap.size + 1 + 1) W1 (W1.setCell ⟨w.heap.size + 1, 0, none⟩ (ci 0)) := ffn0.same (Fr.set (S := fun k => k = w.heap.size + 1 ∨ k = w.heap.size + 1 + 1) W1 (w.heap.size + 1) 0 (ci 0) (by omega))
  have ffn2 : Fr (fun k => k = w.heap.size + 1 ∨ k = w.heap.size + 1 + 1) W1 ((W1.setCell ⟨w.heap.size + 1, 0, none⟩ (ci 0)).setCell ⟨w.heap.size + 1 + 1, 0, none⟩ (ci 0)) := ffn1.same (Fr.set (S := fun k => k = w.heap.size + 1 ∨ k = w.heap.size + 1 + 1) (W1.setCell ⟨w.heap.size + 1, 0, none⟩ (ci 0)) (w.heap.size + 1 + 1) 0 (ci 0) (by omega))
  have ffn := ffn2
  have fw : Fr (fun _ => False) w ((W1.setCell ⟨w.heap.size + 1, 0, none⟩ (ci 0)).setCell ⟨w.heap.size + 1 + 1, 0, none⟩ (ci 0)) := (((fm.same fn).same fc).same f1).over ffn (fun k hk => by omega)
  have hTq := Tq.of ht fw (Nat.le_refl _)
  have hrn : Tr ((W1.setCell ⟨w.heap.size + 1, 0, none⟩ (ci 0)).setCell ⟨w.heap.size + 1 + 1, 0, none⟩ (ci 0)) (((w.alloc mo0).alloc (.cells #[ci 0] 3)).alloc (.cells #[ci 0] 28)).heap.size 57 (.slice aov ts.length capv) ts := r1.keep ffn (fun k hk hs => by have := r1.low k hk; simp only [World.size_alloc] at this; omega)
  have hrl : ∀ k, Value.ownBlock (.slice aov ts.length capv) = some k → w.heap.size + 1 + 1 + 1 ≤ k := fun k hk => by have := r1.low k hk; simpa using this
  go_at_call 27
  refine (np_c w.heap.size (((w.alloc mo0).alloc (.cells #[ci 0] 3)).alloc (.cells #[ci 0] 28)).heap.size _ _ ts l.length hts (by simp; omega) (by have := ffn.size; simp only [World.size_alloc] at *; omega) hTq hrn).mono ?_
  rintro e W4 ⟨q, rfl, hp, hqs, f4⟩
  have n0' := f4.heap ka_2 (fun hk => by have := hrl _ hk; omega)
  have n1' := f4.heap kb_2 (fun hk => by have := hrl _ hk; omega)
  have n2' := f4.heap kc_2 (fun hk => by have := hrl _ hk; omega)
  have fw4 : Fr (fun _ => False) w W4 := fw.over f4 (fun k hk => by have := hrl _ hk; omega)
  have n0H : Hidden (W4.heap[w.heap.size]? = some (.cells #[.string ⟨#[]⟩, .slice none 0 0, .slice none 0 0] 44 (0, 0))) := n0'
  have n1H : Hidden (W4.heap[w.heap.size + 1]? = some (.cells #[ci 0] 3 (0, 0))) := n1'
  have n2H : Hidden (W4.heap[w.heap.size + 1 + 1]? = some (.cells #[ci 0] 28 (0, 0))) := n2'
  have hpH : Hidden (Ps W4 q (ts ++ [Pz.endT l.length]) 0 false) := hp
  have hqW : w.heap.size + 1 + 1 < q := by have := ffn.size; omega
  have hq4 := hp.lt
  clear hp n0' n1' n2' ka_1 ka_2 kb_1 kb_2 kc_1 kc_2 c1 z1 c2 z2 h0 h1 h2 hrn
  obtain ⟨rs, hs⟩ : ∃ rs, Pz.mdl g (ts ++ [Pz.endT l.length]) = some rs := by
    cases hx : Pz.mdl g (ts ++ [Pz.endT l.length]) with
    | none => exact absurd hS (by simp [Hidden, hx, Pz.whole])
    | some rs => exact ⟨rs, rfl⟩
  have hS2 : Hidden (Pz.whole (some rs) = some (r, p, c)) := by rw [← hs]; exact hS
  have kM := mdl_c g hg q _ rs hs W4 hpH
  clear hs hS
  go_wp2_with fail
  go_at_call 25
  refine kM.mono ?_
  rcases rs with ⟨a, us⟩ | ⟨p', c'⟩
  rotate_left
  · have e1 : (none, p', c') = (r, p, c) := Option.some.inj hS2
    cases e1
    rintro e W5 ⟨rfl, f5⟩
    unfold gP
    have n0 := f5.heap n0H (by omega)
    have n1 := f5.heap n1H (by omega)
    have n2 := f5.heap n2H (by omega)
    have fw5 : Fr (fun _ => False) w W5 := fw4.over f5 (fun k hk => by subst hk; omega)
    go_wp2_with fail
    refine leaves_cons (f := 43) (args := #[.pointer (some ⟨w.heap.size + 1, 0, none⟩), .pointer (some ⟨w.heap.size + 1 + 1, 0, none⟩)]) (by simp) (by simp [go_sem]) ?_
    refine (catchM (w.heap.size + 1) (w.heap.size + 1 + 1) (by omega) p c W5 n1 n2).mono ?_
    rintro e u' W9 ⟨rfl, rfl, q1, q2, f9⟩
    have q0 := f9.heap n0 (by omega)
    refine ⟨_, results_three rfl _ _ _ _ _ _ _ _ rfl rfl rfl (run_loadVar_row _ _ _ _ _ _ _ q0 Tryz.underlying44 rfl info_mo) (load_int _ _ _ q1) (load_errno _ _ _ q2), ?_⟩
    exact ⟨_, rfl, fun _ _ => ⟨none, 0, none, 0, rfl, ⟨Nat.le_refl _, by decide, Or.inl rfl⟩, ⟨Nat.le_refl _, by decide, Or.inl rfl⟩⟩, fw5.over f9 (fun k hk => by omega)⟩
  rintro e W5 ⟨v5, rfl, ⟨ao, cap, ao', cap', rfl, hN⟩, hp5, f5⟩
  have n05 := f5.heap n0H (by omega)
  have n15 := f5.heap n1H (by omega)
  have n25 := f5.heap n2H (by omega)
  have fw5 : Fr (fun _ => False) w W5 := fw4.over f5 (fun k hk => by subst hk; omega)
  have fa := Fr.alloc (fun _ => False) W5 (.cells #[ct a.name, .slice ao a.imports.length cap, .slice ao' a.decls.length cap'] 44)
  have n0 : (W5.alloc (.cells #[ct a.name, .slice ao a.imports.length cap, .slice ao' a.decls.length cap'] 44)).heap[w.heap.size]? = some (.cells #[.string ⟨#[]⟩, .slice none 0 0, .slice none 0 0] 44 (0, 0)) := fa.heap n05 (fun f => f)
  have n1 : (W5.alloc (.cells #[ct a.name, .slice ao a.imports.length cap, .slice ao' a.decls.length cap'] 44)).heap[w.heap.size + 1]? = some (.cells #[ci 0] 3 (0, 0)) := fa.heap n15 (fun f => f)
  have n2 : (W5.alloc (.cells #[ct a.name, .slice ao a.imports.length cap, .slice ao' a.decls.length cap'] 44)).heap[w.heap.size + 1 + 1]? = some (.cells #[ci 0] 28 (0, 0)) := fa.heap n25 (fun f => f)
  have n3 : (W5.alloc (.cells #[ct a.name, .slice ao a.imports.length cap, .slice ao' a.decls.length cap'] 44)).heap[W5.heap.size]? = some (.cells #[ct a.name, .slice ao a.imports.length cap, .slice ao' a.decls.length cap'] 44) := alloc_new _ _
  have fw6 := fw5.same fa
  have hp6 : Hidden (Ps (W5.alloc (.cells #[ct a.name, .slice ao a.imports.length cap, .slice ao' a.decls.length cap'] 44)) q us 0 false) := hp5.keepN fa
  have s5 := f5.size
  have hN6 := hN.step fa (fun _ f => f.elim)
  clear n05 n15 n25 hp5
  have n0H : Hidden _ := n0
  have n1H : Hidden _ := n1
  have n2H : Hidden _ := n2
  have n3H : Hidden _ := n3
  clear n0 n1 n2 n3
  go_wp2_with fail
  go_at_call 28
  cases us with
  | nil => exact absurd hS2 (by simp [Hidden, Pz.whole])
  | cons t r2 =>
    cases r2 with
    | nil =>
      have e1 : (some a, 0, 0) = (r, p, c) := Option.some.inj hS2
      cases e1
      refine (mustEnd_ok q t 0 false _ hp6).mono ?_
      rintro e W6 ⟨rfl, hw6⟩
      have n0 := (show _ = _ from n0H)
      have n1 := (show _ = _ from n1H)
      have n2 := (show _ = _ from n2H)
      have n3 := (show _ = _ from n3H)
      rw [← hw6] at n0 n1 n2 n3 fw6 hN6
      clear hw6 hp6 n0H n1H n2H n3H
      have n0H : Hidden (W6.heap[w.heap.size]? = _) := n0
      have n1H : Hidden (W6.heap[w.heap.size + 1]? = _) := n1
      have n2H : Hidden (W6.heap[w.heap.size + 1 + 1]? = _) := n2
      obtain ⟨ac0, ac1, ac2, az0, az1, az2⟩ := box3 n0
      obtain ⟨bc0, bc1, bc2, bz0, bz1, bz2⟩ := box3 n3
      have d1 : W6.cell? ⟨w.heap.size + 1, 0, none⟩ = some (ci 0) := cell_of_row _ _ 0 _ _ _ n1
      have e1 := frozen_row n1 0
      have d2 : W6.cell? ⟨w.heap.size + 1 + 1, 0, none⟩ = some (ci 0) := cell_of_row _ _ 0 _ _ _ n2
      have e2 := frozen_row n2 0
      clear n0 n1 n2 n3
      go_wp2_with fail
      have n0 := (show _ = _ from n0H)
      have n1 := (show _ = _ from n1H)
      have n2 := (show _ = _ from n2H)
      have ka_1 : (W6.setCell ⟨w.heap.size, 0, none⟩ (ct a.name)).heap[w.heap.size]? = some (.cells #[ct a.name, .slice none 0 0, .slice none 0 0] 44 (0, 0)) := heap_setCell_same _ _ 0 _ _ _ n0
      have kb_1 : (W6.setCell ⟨w.heap.size, 0, none⟩ (ct a.name)).heap[w.heap.size + 1]? = some (.cells #[ci 0] 3 (0, 0)) := (Fr.put _ _ _ _).heap n1 (by omega)
      have kc_1 : (W6.setCell ⟨w.heap.size, 0, none⟩ (ct a.name)).heap[w.heap.size + 1 + 1]? = some (.cells #[ci 0] 28 (0, 0)) := (Fr.put _ _ _ _).heap n2 (by omega)
      have ka_2 : ((W6.setCell ⟨w.heap.size, 0, none⟩ (ct a.name)).setCell ⟨w.heap.size, 1, none⟩ (.slice ao a.imports.length cap)).heap[w.heap.size]? = some (.cells #[ct a.name, .slice ao a.imports.length cap, .slice none 0 0] 44 (0, 0)) := heap_setCell_same _ _ 1 _ _ _ ka_1
      have kb_2 : ((W6.setCell ⟨w.heap.size, 0, none⟩ (ct a.name)).setCell ⟨w.heap.size, 1, none⟩ (.slice ao a.imports.length cap)).heap[w.heap.size + 1]? = some (.cells #[ci 0] 3 (0, 0)) := (Fr.put _ _ _ _).heap kb_1 (by omega)
      have kc_2 : ((W6.setCell ⟨w.heap.size, 0, none⟩ (ct a.name)).setCell ⟨w.heap.size, 1, none⟩ (.slice ao a.imports.length cap)).heap[w.heap.size + 1 + 1]? = some (.cells #[ci 0] 28 (0, 0)) := (Fr.put _ _ _ _).heap kc_1 (by omega)
      have ka_3 : (((W6.setCell ⟨w.heap.size, 0, none⟩ (ct a.name)).setCell ⟨w.heap.size, 1, none⟩ (.slice ao a.imports.length cap)).setCell ⟨w.heap.size, 2, none⟩ (.slice ao' a.decls.length cap')).heap[w.heap.size]? = some (.cells #[ct a.name, .slice ao a.imports.length cap, .slice ao' a.decls.length cap'] 44 (0, 0)) := heap_setCell_same _ _ 2 _ _ _ ka_2
      have kb_3 : (((W6.setCell ⟨w.heap.size, 0, none⟩ (ct a.name)).setCell ⟨w.heap.size, 1, none⟩ (.slice ao a.imports.length cap)).setCell ⟨w.heap.size, 2, none⟩ (.slice ao' a.decls.length cap')).heap[w.heap.size + 1]? = some (.cells #[ci 0] 3 (0, 0)) := (Fr.put _ _ _ _).heap kb_2 (by omega)
      have kc_3 : (((W6.setCell ⟨w.heap.size, 0, none⟩ (ct a.name)).setCell ⟨w.heap.size, 1, none⟩ (.slice ao a.imports.length cap)).setCell ⟨w.heap.size, 2, none⟩ (.slice ao' a.decls.length cap')).heap[w.heap.size + 1 + 1]? = some (.cells #[ci 0] 28 (0, 0)) := (Fr.put _ _ _ _).heap kc_2 (by omega)
      have ka_4 : ((((W6.setCell ⟨w.heap.size, 0, none⟩ (ct a.name)).setCell ⟨w.heap.size, 1, none⟩ (.slice ao a.imports.length cap)).setCell ⟨w.heap.size, 2, none⟩ (.slice ao' a.decls.length cap')).setCell ⟨w.heap.size + 1, 0, none⟩ (ci 0)).heap[w.heap.size]? = some (.cells #[ct a.name, .slice ao a.imports.length cap, .slice ao' a.decls.length cap'] 44 (0, 0)) := (Fr.put _ _ _ _).heap ka_3 (by omega)
      have kb_4 : ((((W6.setCell ⟨w.heap.size, 0, none⟩ (ct a.name)).setCell ⟨w.heap.size, 1, none⟩ (.slice ao a.imports.length cap)).setCell ⟨w.heap.size, 2, none⟩ (.slice ao' a.decls.length cap')).setCell ⟨w.heap.size + 1, 0, none⟩ (ci 0)).heap[w.heap.size + 1]? = some (.cells #[ci 0] 3 (0, 0)) := heap_setCell_same _ _ 0 _ _ _ kb_3
      have kc_4 : ((((W6.setCell ⟨w.heap.size, 0, none⟩ (ct a.name)).setCell ⟨w.heap.size, 1, none⟩ (.slice ao a.imports.length cap)).setCell ⟨w.heap.size, 2, none⟩ (.slice ao' a.decls.length cap')).setCell ⟨w.heap.size + 1, 0, none⟩ (ci 0)).heap[w.heap.size + 1 + 1]? = some (.cells #[ci 0] 28 (0, 0)) := (Fr.put _ _ _ _).heap kc_3 (by omega)
      have ka_5 : (((((W6.setCell ⟨w.heap.size, 0, none⟩ (ct a.name)).setCell ⟨w.heap.size, 1, none⟩ (.slice ao a.imports.length cap)).setCell ⟨w.heap.size, 2, none⟩ (.slice ao' a.decls.length cap')).setCell ⟨w.heap.size + 1, 0, none⟩ (ci 0)).setCell ⟨w.heap.size + 1 + 1, 0, none⟩ (ci 0)).heap[w.heap.size]? = some (.cells #[ct a.name, .slice ao a.imports.length cap, .slice ao' a.decls.length cap'] 44 (0, 0)) := (Fr.put _ _ _ _).heap ka_4 (by omega)
      have kb_5 : (((((W6.setCell ⟨w.heap.size, 0, none⟩ (ct a.name)).setCell ⟨w.heap.size, 1, none⟩ (.slice ao a.imports.length cap)).setCell ⟨w.heap.size, 2, none⟩ (.slice ao' a.decls.length cap')).setCell ⟨w.heap.size + 1, 0, none⟩ (ci 0)).setCell ⟨w.heap.size + 1 + 1, 0, none⟩ (ci 0)).heap[w.heap.size + 1]? = some (.cells #[ci 0] 3 (0, 0)) := (Fr.put _ _ _ _).heap kb_4 (by omega)
      have kc_5 : (((((W6.setCell ⟨w.heap.size, 0, none⟩ (ct a.name)).setCell ⟨w.heap.size, 1, none⟩ (.slice ao a.imports.length cap)).setCell ⟨w.heap.size, 2, none⟩ (.slice ao' a.decls.length cap')).setCell ⟨w.heap.size + 1, 0, none⟩ (ci 0)).setCell ⟨w.heap.size + 1 + 1, 0, none⟩ (ci 0)).heap[w.heap.size + 1 + 1]? = some (.cells #[ci 0] 28 (0, 0)) := heap_setCell_same _ _ 0 _ _ _ kc_4
      refine leaves_cons (f := 43) (args := #[.pointer (some ⟨w.heap.size + 1, 0, none⟩), .pointer (some ⟨w.heap.size + 1 + 1, 0, none⟩)]) (by simp) (by simp [go_sem]) ?_
      refine (idleM (w.heap.size + 1) (w.heap.size + 1 + 1) _).mono ?_
      rintro e u' W9 ⟨rfl, rfl, rfl⟩
      have ff0 : Fr (fun k => w.heap.size ≤ k ∧ k < W4.heap.size) W6 W6 := Fr.refl _ _
      have ff1 : Fr (fun k => w.heap.size ≤ k ∧ k < W4.heap.size) W6 (W6.setCell ⟨w.heap.size, 0, none⟩ (ct a.name)) := ff0.same (Fr.set (S := fun k => w.heap.size ≤ k ∧ k < W4.heap.size) W6 (w.heap.size) 0 (ct a.name) (by omega))
      have ff2 : Fr (fun k => w.heap.size ≤ k ∧ k < W4.heap.size) W6 ((W6.setCell ⟨w.heap.size, 0, none⟩ (ct a.name)).setCell ⟨w.heap.size, 1, none⟩ (.slice ao a.imports.length cap)) := ff1.same (Fr.set (S := fun k => w.heap.size ≤ k ∧ k < W4.heap.size) (W6.setCell ⟨w.heap.size, 0, none⟩ (ct a.name)) (w.heap.size) 1 (.slice ao a.imports.length cap) (by omega))
      have ff3 : Fr (fun k => w.heap.size ≤ k ∧ k < W4.heap.size) W6 (((W6.setCell ⟨w.heap.size, 0, none⟩ (ct a.name)).setCell ⟨w.heap.size, 1, none⟩ (.slice ao a.imports.length cap)).setCell ⟨w.heap.size, 2, none⟩ (.slice ao' a.decls.length cap')) := ff2.same (Fr.set (S := fun k => w.heap.size ≤ k ∧ k < W4.heap.size) ((W6.setCell ⟨w.heap.size, 0, none⟩ (ct a.name)).setCell ⟨w.heap.size, 1, none⟩ (.slice ao a.imports.length cap)) (w.heap.size) 2 (.slice ao' a.decls.length cap') (by omega))
      have ff4 : Fr (fun k => w.heap.size ≤ k ∧ k < W4.heap.size) W6 ((((W6.setCell ⟨w.heap.size, 0, none⟩ (ct a.name)).setCell ⟨w.heap.size, 1, none⟩ (.slice ao a.imports.length cap)).setCell ⟨w.heap.size, 2, none⟩ (.slice ao' a.decls.length cap')).setCell ⟨w.heap.size + 1, 0, none⟩ (ci 0)) := ff3.same (Fr.set (S := fun k => w.heap.size ≤ k ∧ k < W4.heap.size) (((W6.setCell ⟨w.heap.size, 0, none⟩ (ct a.name)).setCell ⟨w.heap.size, 1, none⟩ (.slice ao a.imports.length cap)).setCell ⟨w.heap.size, 2, none⟩ (.slice ao' a.decls.length cap')) (w.heap.size + 1) 0 (ci 0) (by omega))
      have ff5 : Fr (fun k => w.heap.size ≤ k ∧ k < W4.heap.size) W6 (((((W6.setCell ⟨w.heap.size, 0, none⟩ (ct a.name)).setCell ⟨w.heap.size, 1, none⟩ (.slice ao a.imports.length cap)).setCell ⟨w.heap.size, 2, none⟩ (.slice ao' a.decls.length cap')).setCell ⟨w.heap.size + 1, 0, none⟩ (ci 0)).setCell ⟨w.heap.size + 1 + 1, 0, none⟩ (ci 0)) := ff4.same (Fr.set (S := fun k => w.heap.size ≤ k ∧ k < W4.heap.size) ((((W6.setCell ⟨w.heap.size, 0, none⟩ (ct a.name)).setCell ⟨w.heap.size, 1, none⟩ (.slice ao a.imports.length cap)).setCell ⟨w.heap.size, 2, none⟩ (.slice ao' a.decls.length cap')).setCell ⟨w.heap.size + 1, 0, none⟩ (ci 0)) (w.heap.size + 1 + 1) 0 (ci 0) (by omega))
      have ff := ff5
      have hNg := (hN6.step ff (fun k hk => hk.2)).weak (B' := w.heap.size) (by omega)
      refine ⟨_, results_three rfl _ _ _ _ _ _ _ _ rfl rfl rfl (run_loadVar_row _ _ _ _ _ _ _ ka_5 Tryz.underlying44 rfl info_mo) (load_int _ _ _ kb_5) (load_errno _ _ _ kc_5), ?_⟩
      exact ⟨_, rfl, fun w2 hf2 => (by have hNf := hNg w2 hf2; exact ⟨ao, cap, ao', cap', rfl, hNf.1, hNf.2⟩), fw6.over ff (fun k hk => hk.1)⟩
    | cons t2 r3 =>
      have e1 : (none, t.p, (11 : Int)) = (r, p, c) := Option.some.inj hS2
      cases e1
      refine (mustEnd_no q t t2 r3 0 false _ hp6).mono ?_
      rintro e W6 ⟨rfl, f6⟩
      unfold gP
      have n0 := f6.heap n0H (fun f => f)
      have n1 := f6.heap n1H (fun f => f)
      have n2 := f6.heap n2H (fun f => f)
      have fw7 := fw6.same f6
      clear n0H n1H n2H n3H
      go_wp2_with fail
      refine leaves_cons (f := 43) (args := #[.pointer (some ⟨w.heap.size + 1, 0, none⟩), .pointer (some ⟨w.heap.size + 1 + 1, 0, none⟩)]) (by simp) (by simp [go_sem]) ?_
      refine (catchM (w.heap.size + 1) (w.heap.size + 1 + 1) (by omega) t.p 11 W6 n1 n2).mono ?_
      rintro e u' W9 ⟨rfl, rfl, q1, q2, f9⟩
      have q0 := f9.heap n0 (by omega)
      refine ⟨_, results_three rfl _ _ _ _ _ _ _ _ rfl rfl rfl (run_loadVar_row _ _ _ _ _ _ _ q0 Tryz.underlying44 rfl info_mo) (load_int _ _ _ q1) (load_errno _ _ _ q2), ?_⟩
      exact ⟨_, rfl, fun _ _ => ⟨none, 0, none, 0, rfl, ⟨Nat.le_refl _, by decide, Or.inl rfl⟩, ⟨Nat.le_refl _, by decide, Or.inl rfl⟩⟩, fw7.over f9 (fun k hk => by omega)⟩

set_option maxRecDepth 20000 in
set_option maxHeartbeats 2000000 in
/-- The text has no tokens. -/
theorem readX_lex (l : By) (p : Nat) (c : Int) (hc : c ≠ 0) (hl : l.length ≤ 9223372036854775807) (hR : Hidden (lexS wordsL valS l = ([], p, c))) (w : World) (ht : F.Tab w) :
    Calls Tryz.prog 12 #[ct l, .func (.func 13) #[] #[]] w fun e w' => e = .returned (.tuple #[.agg #[ci 0, ci 0, .string ⟨#[]⟩, .string ⟨#[]⟩, ci 0, .int .u64 0, .slice none 0 0], ci (p : Int), ci c]) ∧ Fr (fun _ => False) w w' := by
  have fm := Fr.alloc (fun _ => False) w ex0
  have fn := Fr.alloc (fun _ => False) (w.alloc ex0) (.cells #[ci 0] 3)
  have fc := Fr.alloc (fun _ => False) ((w.alloc ex0).alloc (.cells #[ci 0] 3)) (.cells #[ci 0] 28)
  have k := lex_any l [] p c hl hR _ (tab_fr ht ((fm.same fn).same fc))
  have hcb : (c == 0) = false := by simpa using hc
  have hcb2 : (c != 0) = true := by simpa using hc
  go_enter_defers Tryz.func12, Tryz.ntmps12
  go_wp2_with fail
  go_at_call 7
  refine k.mono ?_
  rintro e W1 ⟨v, rfl, r1, f1⟩
  obtain ⟨aov, capv, rfl⟩ := r1.len
  have h0 : Hidden (W1.heap[w.heap.size]? = some ex0) := f1.heap (fc.heap (fn.heap (alloc_new _ _) (fun f => f)) (fun f => f)) (fun f => f)
  have h1 : Hidden (W1.heap[w.heap.size + 1]? = some (.cells #[ci 0] 3 (0, 0))) := f1.heap (fc.heap (heap_alloc2_new _ _ _) (fun f => f)) (fun f => f)
  have h2 : Hidden (W1.heap[w.heap.size + 1 + 1]? = some (.cells #[ci 0] 28 (0, 0))) := f1.heap (by have := alloc_new ((w.alloc ex0).alloc (.cells #[ci 0] 3)) (.cells #[ci 0] 28); simpa using this) (fun f => f)
  have c1 : W1.cell? ⟨w.heap.size + 1, 0, none⟩ = some (ci 0) := cell_of_row _ _ 0 _ _ _ h1
  have z1 := frozen_row h1 0
  have c2 : W1.cell? ⟨w.heap.size + 1 + 1, 0, none⟩ = some (ci 0) := cell_of_row _ _ 0 _ _ _ h2
  have z2 := frozen_row h2 0
  have s1 := f1.size
  simp only [World.size_alloc] at s1
  obtain ⟨ac0, ac1, ac2, ac3, ac4, ac5, ac6, az0, az1, az2, az3, az4, az5, az6⟩ := box7 h0
  go_wp2_with fail
  go_region
  all_goals go_wp2_with fail
  have ka_1 : (W1.setCell ⟨w.heap.size + 1, 0, none⟩ (ci (p : Int))).heap[w.heap.size]? = some (.cells #[ci 0, ci 0, .string ⟨#[]⟩, .string ⟨#[]⟩, ci 0, .int .u64 0, .slice none 0 0] 27 (0, 0)) := (Fr.put _ _ _ _).heap h0 (by omega)
  have kb_1 : (W1.setCell ⟨w.heap.size + 1, 0, none⟩ (ci (p : Int))).heap[w.heap.size + 1]? = some (.cells #[ci (p : Int)] 3 (0, 0)) := heap_setCell_same _ _ 0 _ _ _ h1
  have kc_1 : (W1.setCell ⟨w.heap.size + 1, 0, none⟩ (ci (p : Int))).heap[w.heap.size + 1 + 1]? = some (.cells #[ci 0] 28 (0, 0)) := (Fr.put _ _ _ _).heap h2 (by omega)
  have ka_2 : ((W1.setCell ⟨w.heap.size + 1, 0, none⟩ (ci (p : Int))).setCell ⟨w.heap.size + 1 + 1, 0, none⟩ (ci c)).heap[w.heap.size]? = some (.cells #[ci 0, ci 0, .string ⟨#[]⟩, .string ⟨#[]⟩, ci 0, .int .u64 0, .slice none 0 0] 27 (0, 0)) := (Fr.put _ _ _ _).heap ka_1 (by omega)
  have kb_2 : ((W1.setCell ⟨w.heap.size + 1, 0, none⟩ (ci (p : Int))).setCell ⟨w.heap.size + 1 + 1, 0, none⟩ (ci c)).heap[w.heap.size + 1]? = some (.cells #[ci (p : Int)] 3 (0, 0)) := (Fr.put _ _ _ _).heap kb_1 (by omega)
  have kc_2 : ((W1.setCell ⟨w.heap.size + 1, 0, none⟩ (ci (p : Int))).setCell ⟨w.heap.size + 1 + 1, 0, none⟩ (ci c)).heap[w.heap.size + 1 + 1]? = some (.cells #[ci c] 28 (0, 0)) := heap_setCell_same _ _ 0 _ _ _ kc_1
  have ka_3 : (((W1.setCell ⟨w.heap.size + 1, 0, none⟩ (ci (p : Int))).setCell ⟨w.heap.size + 1 + 1, 0, none⟩ (ci c)).setCell ⟨w.heap.size, 0, none⟩ (ci 0)).heap[w.heap.size]? = some (.cells #[ci 0, ci 0, .string ⟨#[]⟩, .string ⟨#[]⟩, ci 0, .int .u64 0, .slice none 0 0] 27 (0, 0)) := heap_setCell_same _ _ 0 _ _ _ ka_2
  have kb_3 : (((W1.setCell ⟨w.heap.size + 1, 0, none⟩ (ci (p : Int))).setCell ⟨w.heap.size + 1 + 1, 0, none⟩ (ci c)).setCell ⟨w.heap.size, 0, none⟩ (ci 0)).heap[w.heap.size + 1]? = some (.cells #[ci (p : Int)] 3 (0, 0)) := (Fr.put _ _ _ _).heap kb_2 (by omega)
  have kc_3 : (((W1.setCell ⟨w.heap.size + 1, 0, none⟩ (ci (p : Int))).setCell ⟨w.heap.size + 1 + 1, 0, none⟩ (ci c)).setCell ⟨w.heap.size, 0, none⟩ (ci 0)).heap[w.heap.size + 1 + 1]? = some (.cells #[ci c] 28 (0, 0)) := (Fr.put _ _ _ _).heap kc_2 (by omega)
  have ka_4 : ((((W1.setCell ⟨w.heap.size + 1, 0, none⟩ (ci (p : Int))).setCell ⟨w.heap.size + 1 + 1, 0, none⟩ (ci c)).setCell ⟨w.heap.size, 0, none⟩ (ci 0)).setCell ⟨w.heap.size, 1, none⟩ (ci 0)).heap[w.heap.size]? = some (.cells #[ci 0, ci 0, .string ⟨#[]⟩, .string ⟨#[]⟩, ci 0, .int .u64 0, .slice none 0 0] 27 (0, 0)) := heap_setCell_same _ _ 1 _ _ _ ka_3
  have kb_4 : ((((W1.setCell ⟨w.heap.size + 1, 0, none⟩ (ci (p : Int))).setCell ⟨w.heap.size + 1 + 1, 0, none⟩ (ci c)).setCell ⟨w.heap.size, 0, none⟩ (ci 0)).setCell ⟨w.heap.size, 1, none⟩ (ci 0)).heap[w.heap.size + 1]? = some (.cells #[ci (p : Int)] 3 (0, 0)) := (Fr.put _ _ _ _).heap kb_3 (by omega)
  have kc_4 : ((((W1.setCell ⟨w.heap.size + 1, 0, none⟩ (ci (p : Int))).setCell ⟨w.heap.size + 1 + 1, 0, none⟩ (ci c)).setCell ⟨w.heap.size, 0, none⟩ (ci 0)).setCell ⟨w.heap.size, 1, none⟩ (ci 0)).heap[w.heap.size + 1 + 1]? = some (.cells #[ci c] 28 (0, 0)) := (Fr.put _ _ _ _).heap kc_3 (by omega)
  have ka_5 : (((((W1.setCell ⟨w.heap.size + 1, 0, none⟩ (ci (p : Int))).setCell ⟨w.heap.size + 1 + 1, 0, none⟩ (ci c)).setCell ⟨w.heap.size, 0, none⟩ (ci 0)).setCell ⟨w.heap.size, 1, none⟩ (ci 0)).setCell ⟨w.heap.size, 2, none⟩ (.string ⟨#[]⟩)).heap[w.heap.size]? = some (.cells #[ci 0, ci 0, .string ⟨#[]⟩, .string ⟨#[]⟩, ci 0, .int .u64 0, .slice none 0 0] 27 (0, 0)) := heap_setCell_same _ _ 2 _ _ _ ka_4
  have kb_5 : (((((W1.setCell ⟨w.heap.size + 1, 0, none⟩ (ci (p : Int))).setCell ⟨w.heap.size + 1 + 1, 0, none⟩ (ci c)).setCell ⟨w.heap.size, 0, none⟩ (ci 0)).setCell ⟨w.heap.size, 1, none⟩ (ci 0)).setCell ⟨w.heap.size, 2, none⟩ (.string ⟨#[]⟩)).heap[w.heap.size + 1]? = some (.cells #[ci (p : Int)] 3 (0, 0)) := (Fr.put _ _ _ _).heap kb_4 (by omega)
  have kc_5 : (((((W1.setCell ⟨w.heap.size + 1, 0, none⟩ (ci (p : Int))).setCell ⟨w.heap.size + 1 + 1, 0, none⟩ (ci c)).setCell ⟨w.heap.size, 0, none⟩ (ci 0)).setCell ⟨w.heap.size, 1, none⟩ (ci 0)).setCell ⟨w.heap.size, 2, none⟩ (.string ⟨#[]⟩)).heap[w.heap.size + 1 + 1]? = some (.cells #[ci c] 28 (0, 0)) := (Fr.put _ _ _ _).heap kc_4 (by omega)
  have ka_6 : ((((((W1.setCell ⟨w.heap.size + 1, 0, none⟩ (ci (p : Int))).setCell ⟨w.heap.size + 1 + 1, 0, none⟩ (ci c)).setCell ⟨w.heap.size, 0, none⟩ (ci 0)).setCell ⟨w.heap.size, 1, none⟩ (ci 0)).setCell ⟨w.heap.size, 2, none⟩ (.string ⟨#[]⟩)).setCell ⟨w.heap.size, 3, none⟩ (.string ⟨#[]⟩)).heap[w.heap.size]? = some (.cells #[ci 0, ci 0, .string ⟨#[]⟩, .string ⟨#[]⟩, ci 0, .int .u64 0, .slice none 0 0] 27 (0, 0)) := heap_setCell_same _ _ 3 _ _ _ ka_5
  have kb_6 : ((((((W1.setCell ⟨w.heap.size + 1, 0, none⟩ (ci (p : Int))).setCell ⟨w.heap.size + 1 + 1, 0, none⟩ (ci c)).setCell ⟨w.heap.size, 0, none⟩ (ci 0)).setCell ⟨w.heap.size, 1, none⟩ (ci 0)).setCell ⟨w.heap.size, 2, none⟩ (.string ⟨#[]⟩)).setCell ⟨w.heap.size, 3, none⟩ (.string ⟨#[]⟩)).heap[w.heap.size + 1]? = some (.cells #[ci (p : Int)] 3 (0, 0)) := (Fr.put _ _ _ _).heap kb_5 (by omega)
  have kc_6 : ((((((W1.setCell ⟨w.heap.size + 1, 0, none⟩ (ci (p : Int))).setCell ⟨w.heap.size + 1 + 1, 0, none⟩ (ci c)).setCell ⟨w.heap.size, 0, none⟩ (ci 0)).setCell ⟨w.heap.size, 1, none⟩ (ci 0)).setCell ⟨w.heap.size, 2, none⟩ (.string ⟨#[]⟩)).setCell ⟨w.heap.size, 3, none⟩ (.string ⟨#[]⟩)).heap[w.heap.size + 1 + 1]? = some (.cells #[ci c] 28 (0, 0)) := (Fr.put _ _ _ _).heap kc_5 (by omega)
  have ka_7 : (((((((W1.setCell ⟨w.heap.size + 1, 0, none⟩ (ci (p : Int))).setCell ⟨w.heap.size + 1 + 1, 0, none⟩ (ci c)).setCell ⟨w.heap.size, 0, none⟩ (ci 0)).setCell ⟨w.heap.size, 1, none⟩ (ci 0)).setCell ⟨w.heap.size, 2, none⟩ (.string ⟨#[]⟩)).setCell ⟨w.heap.size, 3, none⟩ (.string ⟨#[]⟩)).setCell ⟨w.heap.size, 4, none⟩ (ci 0)).heap[w.heap.size]? = some (.cells #[ci 0, ci 0, .string ⟨#[]⟩, .string ⟨#[]⟩, ci 0, .int .u64 0, .slice none 0 0] 27 (0, 0)) := heap_setCell_same _ _ 4 _ _ _ ka_6
  have kb_7 : (((((((W1.setCell ⟨w.heap.size + 1, 0, none⟩ (ci (p : Int))).setCell ⟨w.heap.size + 1 + 1, 0, none⟩ (ci c)).setCell ⟨w.heap.size, 0, none⟩ (ci 0)).setCell ⟨w.heap.size, 1, none⟩ (ci 0)).setCell ⟨w.heap.size, 2, none⟩ (.string ⟨#[]⟩)).setCell ⟨w.heap.size, 3, none⟩ (.string ⟨#[]⟩)).setCell ⟨w.heap.size, 4, none⟩ (ci 0)).heap[w.heap.size + 1]? = some (.cells #[ci (p : Int)] 3 (0, 0)) := (Fr.put _ _ _ _).heap kb_6 (by omega)
  have kc_7 : (((((((W1.setCell ⟨w.heap.size + 1, 0, none⟩ (ci (p : Int))).setCell ⟨w.heap.size + 1 + 1, 0, none⟩ (ci c)).setCell ⟨w.heap.size, 0, none⟩ (ci 0)).setCell ⟨w.heap.size, 1, none⟩ (ci 0)).setCell ⟨w.heap.size, 2, none⟩ (.string ⟨#[]⟩)).setCell ⟨w.heap.size, 3, none⟩ (.string ⟨#[]⟩)).setCell ⟨w.heap.size, 4, none⟩ (ci 0)).heap[w.heap.size + 1 + 1]? = some (.cells #[ci c] 28 (0, 0)) := (Fr.put _ _ _ _).heap kc_6 (by omega)
  have ka_8 : ((((((((W1.setCell ⟨w.heap.size + 1, 0, none⟩ (ci (p : Int))).setCell ⟨w.heap.size + 1 + 1, 0, none⟩ (ci c)).setCell ⟨w.heap.size, 0, none⟩ (ci 0)).setCell ⟨w.heap.size, 1, none⟩ (ci 0)).setCell ⟨w.heap.size, 2, none⟩ (.string ⟨#[]⟩)).setCell ⟨w.heap.size, 3, none⟩ (.string ⟨#[]⟩)).setCell ⟨w.heap.size, 4, none⟩ (ci 0)).setCell ⟨w.heap.size, 5, none⟩ (.int .u64 0)).heap[w.heap.size]? = some (.cells #[ci 0, ci 0, .string ⟨#[]⟩, .string ⟨#[]⟩, ci 0, .int .u64 0, .slice none 0 0] 27 (0, 0)) := heap_setCell_same _ _ 5 _ _ _ ka_7
  have kb_8 : ((((((((W1.setCell ⟨w.heap.size + 1, 0, none⟩ (ci (p : Int))).setCell ⟨w.heap.size + 1 + 1, 0, none⟩ (ci c)).setCell ⟨w.heap.size, 0, none⟩ (ci 0)).setCell ⟨w.heap.size, 1, none⟩ (ci 0)).setCell ⟨w.heap.size, 2, none⟩ (.string ⟨#[]⟩)).setCell ⟨w.heap.size, 3, none⟩ (.string ⟨#[]⟩)).setCell ⟨w.heap.size, 4, none⟩ (ci 0)).setCell ⟨w.heap.size, 5, none⟩ (.int .u64 0)).heap[w.heap.size + 1]? = some (.cells #[ci (p : Int)] 3 (0, 0)) := (Fr.put _ _ _ _).heap kb_7 (by omega)
  have kc_8 : ((((((((W1.setCell ⟨w.heap.size + 1, 0, none⟩ (ci (p : Int))).setCell ⟨w.heap.size + 1 + 1, 0, none⟩ (ci c)).setCell ⟨w.heap.size, 0, none⟩ (ci 0)).setCell ⟨w.heap.size, 1, none⟩ (ci 0)).setCell ⟨w.heap.size, 2, none⟩ (.string ⟨#[]⟩)).setCell ⟨w.heap.size, 3, none⟩ (.string ⟨#[]⟩)).setCell ⟨w.heap.size, 4, none⟩ (ci 0)).setCell ⟨w.heap.size, 5, none⟩ (.int .u64 0)).heap[w.heap.size + 1 + 1]? = some (.cells #[ci c] 28 (0, 0)) := (Fr.put _ _ _ _).heap kc_7 (by omega)
  have ka_9 : (((((((((W1.setCell ⟨w.heap.size + 1, 0, none⟩ (ci (p : Int))).setCell ⟨w.heap.size + 1 + 1, 0, none⟩ (ci c)).setCell ⟨w.heap.size, 0, none⟩ (ci 0)).setCell ⟨w.heap.size, 1, none⟩ (ci 0)).setCell ⟨w.heap.size, 2, none⟩ (.string ⟨#[]⟩)).setCell ⟨w.heap.size, 3, none⟩ (.string ⟨#[]⟩)).setCell ⟨w.heap.size, 4, none⟩ (ci 0)).setCell ⟨w.heap.size, 5, none⟩ (.int .u64 0)).setCell ⟨w.heap.size, 6, none⟩ (.slice none 0 0)).heap[w.heap.size]? = some (.cells #[ci 0, ci 0, .string ⟨#[]⟩, .string ⟨#[]⟩, ci 0, .int .u64 0, .slice none 0 0] 27 (0, 0)) := heap_setCell_same _ _ 6 _ _ _ ka_8
  have kb_9 : (((((((((W1.setCell ⟨w.heap.size + 1, 0, none⟩ (ci (p : Int))).setCell ⟨w.heap.size + 1 + 1, 0, none⟩ (ci c)).setCell ⟨w.heap.size, 0, none⟩ (ci 0)).setCell ⟨w.heap.size, 1, none⟩ (ci 0)).setCell ⟨w.heap.size, 2, none⟩ (.string ⟨#[]⟩)).setCell ⟨w.heap.size, 3, none⟩ (.string ⟨#[]⟩)).setCell ⟨w.heap.size, 4, none⟩ (ci 0)).setCell ⟨w.heap.size, 5, none⟩ (.int .u64 0)).setCell ⟨w.heap.size, 6, none⟩ (.slice none 0 0)).heap[w.heap.size + 1]? = some (.cells #[ci (p : Int)] 3 (0, 0)) := (Fr.put _ _ _ _).heap kb_8 (by omega)
  have kc_9 : (((((((((W1.setCell ⟨w.heap.size + 1, 0, none⟩ (ci (p : Int))).setCell ⟨w.heap.size + 1 + 1, 0, none⟩ (ci c)).setCell ⟨w.heap.size, 0, none⟩ (ci 0)).setCell ⟨w.heap.size, 1, none⟩ (ci 0)).setCell ⟨w.heap.size, 2, none⟩ (.string ⟨#[]⟩)).setCell ⟨w.heap.size, 3, none⟩ (.string ⟨#[]⟩)).setCell ⟨w.heap.size, 4, none⟩ (ci 0)).setCell ⟨w.heap.size, 5, none⟩ (.int .u64 0)).setCell ⟨w.heap.size, 6, none⟩ (.slice none 0 0)).heap[w.heap.size + 1 + 1]? = some (.cells #[ci c] 28 (0, 0)) := (Fr.put _ _ _ _).heap kc_8 (by omega)
  have ka_10 : ((((((((((W1.setCell ⟨w.heap.size + 1, 0, none⟩ (ci (p : Int))).setCell ⟨w.heap.size + 1 + 1, 0, none⟩ (ci c)).setCell ⟨w.heap.size, 0, none⟩ (ci 0)).setCell ⟨w.heap.size, 1, none⟩ (ci 0)).setCell ⟨w.heap.size, 2, none⟩ (.string ⟨#[]⟩)).setCell ⟨w.heap.size, 3, none⟩ (.string ⟨#[]⟩)).setCell ⟨w.heap.size, 4, none⟩ (ci 0)).setCell ⟨w.heap.size, 5, none⟩ (.int .u64 0)).setCell ⟨w.heap.size, 6, none⟩ (.slice none 0 0)).setCell ⟨w.heap.size + 1, 0, none⟩ (ci (p : Int))).heap[w.heap.size]? = some (.cells #[ci 0, ci 0, .string ⟨#[]⟩, .string ⟨#[]⟩, ci 0, .int .u64 0, .slice none 0 0] 27 (0, 0)) := (Fr.put _ _ _ _).heap ka_9 (by omega)
  have kb_10 : ((((((((((W1.setCell ⟨w.heap.size + 1, 0, none⟩ (ci (p : Int))).setCell ⟨w.heap.size + 1 + 1, 0, none⟩ (ci c)).setCell ⟨w.heap.size, 0, none⟩ (ci 0)).setCell ⟨w.heap.size, 1, none⟩ (ci 0)).setCell ⟨w.heap.size, 2, none⟩ (.string ⟨#[]⟩)).setCell ⟨w.heap.size, 3, none⟩ (.string ⟨#[]⟩)).setCell ⟨w.heap.size, 4, none⟩ (ci 0)).setCell ⟨w.heap.size, 5, none⟩ (.int .u64 0)).setCell ⟨w.heap.size, 6, none⟩ (.slice none 0 0)).setCell ⟨w.heap.size + 1, 0, none⟩ (ci (p : Int))).heap[w.heap.size + 1]? = some (.cells #[ci (p : Int)] 3 (0, 0)) := heap_setCell_same _ _ 0 _ _ _ kb_9
  have kc_10 : ((((((((((W1.setCell ⟨w.heap.size + 1, 0, none⟩ (ci (p : Int))).setCell ⟨w.heap.size + 1 + 1, 0, none⟩ (ci c)).setCell ⟨w.heap.size, 0, none⟩ (ci 0)).setCell ⟨w.heap.size, 1, none⟩ (ci 0)).setCell ⟨w.heap.size, 2, none⟩ (.string ⟨#[]⟩)).setCell ⟨w.heap.size, 3, none⟩ (.string ⟨#[]⟩)).setCell ⟨w.heap.size, 4, none⟩ (ci 0)).setCell ⟨w.heap.size, 5, none⟩ (.int .u64 0)).setCell ⟨w.heap.size, 6, none⟩ (.slice none 0 0)).setCell ⟨w.heap.size + 1, 0, none⟩ (ci (p : Int))).heap[w.heap.size + 1 + 1]? = some (.cells #[ci c] 28 (0, 0)) := (Fr.put _ _ _ _).heap kc_9 (by omega)
  have ka_11 : (((((((((((W1.setCell ⟨w.heap.size + 1, 0, none⟩ (ci (p : Int))).setCell ⟨w.heap.size + 1 + 1, 0, none⟩ (ci c)).setCell ⟨w.heap.size, 0, none⟩ (ci 0)).setCell ⟨w.heap.size, 1, none⟩ (ci 0)).setCell ⟨w.heap.size, 2, none⟩ (.string ⟨#[]⟩)).setCell ⟨w.heap.size, 3, none⟩ (.string ⟨#[]⟩)).setCell ⟨w.heap.size, 4, none⟩ (ci 0)).setCell ⟨w.heap.size, 5, none⟩ (.int .u64 0)).setCell ⟨w.heap.size, 6, none⟩ (.slice none 0 0)).setCell ⟨w.heap.size + 1, 0, none⟩ (ci (p : Int))).setCell ⟨w.heap.size + 1 + 1, 0, none⟩ (ci c)).heap[w.heap.size]? = some (.cells #[ci 0, ci 0, .string ⟨#[]⟩, .string ⟨#[]⟩, ci 0, .int .u64 0, .slice none 0 0] 27 (0, 0)) := (Fr.put _ _ _ _).heap ka_10 (by omega)
  have kb_11 : (((((((((((W1.setCell ⟨w.heap.size + 1, 0, none⟩ (ci (p : Int))).setCell ⟨w.heap.size + 1 + 1, 0, none⟩ (ci c)).setCell ⟨w.heap.size, 0, none⟩ (ci 0)).setCell ⟨w.heap.size, 1, none⟩ (ci 0)).setCell ⟨w.heap.size, 2, none⟩ (.string ⟨#[]⟩)).setCell ⟨w.heap.size, 3, none⟩ (.string ⟨#[]⟩)).setCell ⟨w.heap.size, 4, none⟩ (ci 0)).setCell ⟨w.heap.size, 5, none⟩ (.int .u64 0)).setCell ⟨w.heap.size, 6, none⟩ (.slice none 0 0)).setCell ⟨w.heap.size + 1, 0, none⟩ (ci (p : Int))).setCell ⟨w.heap.size + 1 + 1, 0, none⟩ (ci c)).heap[w.heap.size + 1]? = some (.cells #[ci (p : Int)] 3 (0, 0)) := (Fr.put _ _ _ _).heap kb_10 (by omega)
  have kc_11 : (((((((((((W1.setCell ⟨w.heap.size + 1, 0, none⟩ (ci (p : Int))).setCell ⟨w.heap.size + 1 + 1, 0, none⟩ (ci c)).setCell ⟨w.heap.size, 0, none⟩ (ci 0)).setCell ⟨w.heap.size, 1, none⟩ (ci 0)).setCell ⟨w.heap.size, 2, none⟩ (.string ⟨#[]⟩)).setCell ⟨w.heap.size, 3, none⟩ (.string ⟨#[]⟩)).setCell ⟨w.heap.size, 4, none⟩ (ci 0)).setCell ⟨w.heap.size, 5, none⟩ (.int .u64 0)).setCell ⟨w.heap.size, 6, none⟩ (.slice none 0 0)).setCell ⟨w.heap.size + 1, 0, none⟩ (ci (p : Int))).setCell ⟨w.heap.size + 1 + 1, 0, none⟩ (ci c)).heap[w.heap.size + 1 + 1]? = some (.cells #[ci c] 28 (0, 0)) := heap_setCell_same _ _ 0 _ _ _ kc_10
  have ff0 : Fr (fun k => w.heap.size ≤ k) W1 W1 := Fr.refl _ _
  have ff1 : Fr (fun k => w.heap.size ≤ k) W1 (W1.setCell ⟨w.heap.size + 1, 0, none⟩ (ci (p : Int))) := ff0.same (Fr.set (S := fun k => w.heap.size ≤ k) W1 (w.heap.size + 1) 0 (ci (p : Int)) (by omega))
  have ff2 : Fr (fun k => w.heap.size ≤ k) W1 ((W1.setCell ⟨w.heap.size + 1, 0, none⟩ (ci (p : Int))).setCell ⟨w.heap.size + 1 + 1, 0, none⟩ (ci c)) := ff1.same (Fr.set (S := fun k => w.heap.size ≤ k) (W1.setCell ⟨w.heap.size + 1, 0, none⟩ (ci (p : Int))) (w.heap.size + 1 + 1) 0 (ci c) (by omega))
  have ff3 : Fr (fun k => w.heap.size ≤ k) W1 (((W1.setCell ⟨w.heap.size + 1, 0, none⟩ (ci (p : Int))).setCell ⟨w.heap.size + 1 + 1, 0, none⟩ (ci c)).setCell ⟨w.heap.size, 0, none⟩ (ci 0)) := ff2.same (Fr.set (S := fun k => w.heap.size ≤ k) ((W1.setCell ⟨w.heap.size + 1, 0, none⟩ (ci (p : Int))).setCell ⟨w.heap.size + 1 + 1, 0, none⟩ (ci c)) (w.heap.size) 0 (ci 0) (by omega))
  have ff4 : Fr (fun k => w.heap.size ≤ k) W1 ((((W1.setCell ⟨w.heap.size + 1, 0, none⟩ (ci (p : Int))).setCell ⟨w.heap.size + 1 + 1, 0, none⟩ (ci c)).setCell ⟨w.heap.size, 0, none⟩ (ci 0)).setCell ⟨w.heap.size, 1, none⟩ (ci 0)) := ff3.same (Fr.set (S := fun k => w.heap.size ≤ k) (((W1.setCell ⟨w.heap.size + 1, 0, none⟩ (ci (p : Int))).setCell ⟨w.heap.size + 1 + 1, 0, none⟩ (ci c)).setCell ⟨w.heap.size, 0, none⟩ (ci 0)) (w.heap.size) 1 (ci 0) (by omega))
  have ff5 : Fr (fun k => w.heap.size ≤ k) W1 (((((W1.setCell ⟨w.heap.size + 1, 0, none⟩ (ci (p : Int))).setCell ⟨w.heap.size + 1 + 1, 0, none⟩ (ci c)).setCell ⟨w.heap.size, 0, none⟩ (ci 0)).setCell ⟨w.heap.size, 1, none⟩ (ci 0)).setCell ⟨w.heap.size, 2, none⟩ (.string ⟨#[]⟩)) := ff4.same (Fr.set (S := fun k => w.heap.size ≤ k) ((((W1.setCell ⟨w.heap.size + 1, 0, none⟩ (ci (p : Int))).setCell ⟨w.heap.size + 1 + 1, 0, none⟩ (ci c)).setCell ⟨w.heap.size, 0, none⟩ (ci 0)).setCell ⟨w.heap.size, 1, none⟩ (ci 0)) (w.heap.size) 2 (.string ⟨#[]⟩) (by omega))
  have ff6 : Fr (fun k => w.heap.size ≤ k) W1 ((((((W1.setCell ⟨w.heap.size + 1, 0, none⟩ (ci (p : Int))).setCell ⟨w.heap.size + 1 + 1, 0, none⟩ (ci c)).setCell ⟨w.heap.size, 0, none⟩ (ci 0)).setCell ⟨w.heap.size, 1, none⟩ (ci 0)).setCell ⟨w.heap.size, 2, none⟩ (.string ⟨#[]⟩)).setCell ⟨w.heap.size, 3, none⟩ (.string ⟨#[]⟩)) := ff5.same (Fr.set (S := fun k => w.heap.size ≤ k) (((((W1.setCell ⟨w.heap.size + 1, 0, none⟩ (ci (p : Int))).setCell ⟨w.heap.size + 1 + 1, 0, none⟩ (ci c)).setCell ⟨w.heap.size, 0, none⟩ (ci 0)).setCell ⟨w.heap.size, 1, none⟩ (ci 0)).setCell ⟨w.heap.size, 2, none⟩ (.string ⟨#[]⟩)) (w.heap.size) 3 (.string ⟨#[]⟩) (by omega))
  have ff7 : Fr (fun k => w.heap.size ≤ k) W1 (((((((W1.setCell ⟨w.heap.size + 1, 0, none⟩ (ci (p : Int))).setCell ⟨w.heap.size + 1 + 1, 0, none⟩ (ci c)).setCell ⟨w.heap.size, 0, none⟩ (ci 0)).setCell ⟨w.heap.size, 1, none⟩ (ci 0)).setCell ⟨w.heap.size, 2, none⟩ (.string ⟨#[]⟩)).setCell ⟨w.heap.size, 3, none⟩ (.string ⟨#[]⟩)).setCell ⟨w.heap.size, 4, none⟩ (ci 0)) := ff6.same (Fr.set (S := fun k => w.heap.size ≤ k) ((((((W1.setCell ⟨w.heap.size + 1, 0, none⟩ (ci (p : Int))).setCell ⟨w.heap.size + 1 + 1, 0, none⟩ (ci c)).setCell ⟨w.heap.size, 0, none⟩ (ci 0)).setCell ⟨w.heap.size, 1, none⟩ (ci 0)).setCell ⟨w.heap.size, 2, none⟩ (.string ⟨#[]⟩)).setCell ⟨w.heap.size, 3, none⟩ (.string ⟨#[]⟩)) (w.heap.size) 4 (ci 0) (by omega))
  have ff8 : Fr (fun k => w.heap.size ≤ k) W1 ((((((((W1.setCell ⟨w.heap.size + 1, 0, none⟩ (ci (p : Int))).setCell ⟨w.heap.size + 1 + 1, 0, none⟩ (ci c)).setCell ⟨w.heap.size, 0, none⟩ (ci 0)).setCell ⟨w.heap.size, 1, none⟩ (ci 0)).setCell ⟨w.heap.size, 2, none⟩ (.string ⟨#[]⟩)).setCell ⟨w.heap.size, 3, none⟩ (.string ⟨#[]⟩)).setCell ⟨w.heap.size, 4, none⟩ (ci 0)).setCell ⟨w.heap.size, 5, none⟩ (.int .u64 0)) := ff7.same (Fr.set (S := fun k => w.heap.size ≤ k) (((((((W1.setCell ⟨w.heap.size + 1, 0, none⟩ (ci (p : Int))).setCell ⟨w.heap.size + 1 + 1, 0, none⟩ (ci c)).setCell ⟨w.heap.size, 0, none⟩ (ci 0)).setCell ⟨w.heap.size, 1, none⟩ (ci 0)).setCell ⟨w.heap.size, 2, none⟩ (.string ⟨#[]⟩)).setCell ⟨w.heap.size, 3, none⟩ (.string ⟨#[]⟩)).setCell ⟨w.heap.size, 4, none⟩ (ci 0)) (w.heap.size) 5 (.int .u64 0) (by omega))
  have ff9 : Fr (fun k => w.heap.size ≤ k) W1 (((((((((W1.setCell ⟨w.heap.size + 1, 0, none⟩ (ci (p : Int))).setCell ⟨w.heap.size + 1 + 1, 0, none⟩ (ci c)).setCell ⟨w.heap.size, 0, none⟩ (ci 0)).setCell ⟨w.heap.size, 1, none⟩ (ci 0)).setCell ⟨w.heap.size, 2, none⟩ (.string ⟨#[]⟩)).setCell ⟨w.heap.size, 3, none⟩ (.string ⟨#[]⟩)).setCell ⟨w.heap.size, 4, none⟩ (ci 0)).setCell ⟨w.heap.size, 5, none⟩ (.int .u64 0)).setCell ⟨w.heap.size, 6, none⟩ (.slice none 0 0)) := ff8.same (Fr.set (S := fun k => w.heap.size ≤ k) ((((((((W1.setCell ⟨w.heap.size + 1, 0, none⟩ (ci (p : Int))).setCell ⟨w.heap.size + 1 + 1, 0, none⟩ (ci c)).setCell ⟨w.heap.size, 0, none⟩ (ci 0)).setCell ⟨w.heap.size, 1, none⟩ (ci 0)).setCell ⟨w.heap.size, 2, none⟩ (.string ⟨#[]⟩)).setCell ⟨w.heap.size, 3, none⟩ (.string ⟨#[]⟩)).setCell ⟨w.heap.size, 4, none⟩ (ci 0)).setCell ⟨w.heap.size, 5, none⟩ (.int .u64 0)) (w.heap.size) 6 (.slice none 0 0) (by omega))
  have ff10 : Fr (fun k => w.heap.size ≤ k) W1 ((((((((((W1.setCell ⟨w.heap.size + 1, 0, none⟩ (ci (p : Int))).setCell ⟨w.heap.size + 1 + 1, 0, none⟩ (ci c)).setCell ⟨w.heap.size, 0, none⟩ (ci 0)).setCell ⟨w.heap.size, 1, none⟩ (ci 0)).setCell ⟨w.heap.size, 2, none⟩ (.string ⟨#[]⟩)).setCell ⟨w.heap.size, 3, none⟩ (.string ⟨#[]⟩)).setCell ⟨w.heap.size, 4, none⟩ (ci 0)).setCell ⟨w.heap.size, 5, none⟩ (.int .u64 0)).setCell ⟨w.heap.size, 6, none⟩ (.slice none 0 0)).setCell ⟨w.heap.size + 1, 0, none⟩ (ci (p : Int))) := ff9.same (Fr.set (S := fun k => w.heap.size ≤ k) (((((((((W1.setCell ⟨w.heap.size + 1, 0, none⟩ (ci (p : Int))).setCell ⟨w.heap.size + 1 + 1, 0, none⟩ (ci c)).setCell ⟨w.heap.size, 0, none⟩ (ci 0)).setCell ⟨w.heap.size, 1, none⟩ (ci 0)).setCell ⟨w.heap.size, 2, none⟩ (.string ⟨#[]⟩)).setCell ⟨w.heap.size, 3, none⟩ (.string ⟨#[]⟩)).setCell ⟨w.heap.size, 4, none⟩ (ci 0)).setCell ⟨w.heap.size, 5, none⟩ (.int .u64 0)).setCell ⟨w.heap.size, 6, none⟩ (.slice none 0 0)) (w.heap.size + 1) 0 (ci (p : Int)) (by omega))
  have ff11 : Fr (fun k => w.heap.size ≤ k) W1 (((((((((((W1.setCell ⟨w.heap.size + 1, 0, none⟩ (ci (p : Int))).setCell ⟨w.heap.size + 1 + 1, 0, none⟩ (ci c)).setCell ⟨w.heap.size, 0, none⟩ (ci 0)).setCell ⟨w.heap.size, 1, none⟩ (ci 0)).setCell ⟨w.heap.size, 2, none⟩ (.string ⟨#[]⟩)).setCell ⟨w.heap.size, 3, none⟩ (.string ⟨#[]⟩)).setCell ⟨w.heap.size, 4, none⟩ (ci 0)).setCell ⟨w.heap.size, 5, none⟩ (.int .u64 0)).setCell ⟨w.heap.size, 6, none⟩ (.slice none 0 0)).setCell ⟨w.heap.size + 1, 0, none⟩ (ci (p : Int))).setCell ⟨w.heap.size + 1 + 1, 0, none⟩ (ci c)) := ff10.same (Fr.set (S := fun k => w.heap.size ≤ k) ((((((((((W1.setCell ⟨w.heap.size + 1, 0, none⟩ (ci (p : Int))).setCell ⟨w.heap.size + 1 + 1, 0, none⟩ (ci c)).setCell ⟨w.heap.size, 0, none⟩ (ci 0)).setCell ⟨w.heap.size, 1, none⟩ (ci 0)).setCell ⟨w.heap.size, 2, none⟩ (.string ⟨#[]⟩)).setCell ⟨w.heap.size, 3, none⟩ (.string ⟨#[]⟩)).setCell ⟨w.heap.size, 4, none⟩ (ci 0)).setCell ⟨w.heap.size, 5, none⟩ (.int .u64 0)).setCell ⟨w.heap.size, 6, none⟩ (.slice none 0 0)).setCell ⟨w.heap.size + 1, 0, none⟩ (ci (p : Int))) (w.heap.size + 1 + 1) 0 (ci c) (by omega))
  have ff := ff11
  have fall := (((fm.same fn).same fc).same f1).over (ff.same (Fr.drew _ _)) (fun k hk => hk)
  have q0 : ((((((((((((W1.setCell ⟨w.heap.size + 1, 0, none⟩ (ci (p : Int))).setCell ⟨w.heap.size + 1 + 1, 0, none⟩ (ci c)).setCell ⟨w.heap.size, 0, none⟩ (ci 0)).setCell ⟨w.heap.size, 1, none⟩ (ci 0)).setCell ⟨w.heap.size, 2, none⟩ (.string ⟨#[]⟩)).setCell ⟨w.heap.size, 3, none⟩ (.string ⟨#[]⟩)).setCell ⟨w.heap.size, 4, none⟩ (ci 0)).setCell ⟨w.heap.size, 5, none⟩ (.int .u64 0)).setCell ⟨w.heap.size, 6, none⟩ (.slice none 0 0)).setCell ⟨w.heap.size + 1, 0, none⟩ (ci (p : Int))).setCell ⟨w.heap.size + 1 + 1, 0, none⟩ (ci c))).drew.heap[w.heap.size]? = some (.cells #[ci 0, ci 0, .string ⟨#[]⟩, .string ⟨#[]⟩, ci 0, .int .u64 0, .slice none 0 0] 27 (0, 0)) := (Fr.drew (fun _ => False) _).heap ka_11 (fun f => f)
  have q1 : ((((((((((((W1.setCell ⟨w.heap.size + 1, 0, none⟩ (ci (p : Int))).setCell ⟨w.heap.size + 1 + 1, 0, none⟩ (ci c)).setCell ⟨w.heap.size, 0, none⟩ (ci 0)).setCell ⟨w.heap.size, 1, none⟩ (ci 0)).setCell ⟨w.heap.size, 2, none⟩ (.string ⟨#[]⟩)).setCell ⟨w.heap.size, 3, none⟩ (.string ⟨#[]⟩)).setCell ⟨w.heap.size, 4, none⟩ (ci 0)).setCell ⟨w.heap.size, 5, none⟩ (.int .u64 0)).setCell ⟨w.heap.size, 6, none⟩ (.slice none 0 0)).setCell ⟨w.heap.size + 1, 0, none⟩ (ci (p : Int))).setCell ⟨w.heap.size + 1 + 1, 0, none⟩ (ci c))).drew.heap[w.heap.size + 1]? = some (.cells #[ci (p : Int)] 3 (0, 0)) := (Fr.drew (fun _ => False) _).heap kb_11 (fun f => f)
  have q2 : ((((((((((((W1.setCell ⟨w.heap.size + 1, 0, none⟩ (ci (p : Int))).setCell ⟨w.heap.size + 1 + 1, 0, none⟩ (ci c)).setCell ⟨w.heap.size, 0, none⟩ (ci 0)).setCell ⟨w.heap.size, 1, none⟩ (ci 0)).setCell ⟨w.heap.size, 2, none⟩ (.string ⟨#[]⟩)).setCell ⟨w.heap.size, 3, none⟩ (.string ⟨#[]⟩)).setCell ⟨w.heap.size, 4, none⟩ (ci 0)).setCell ⟨w.heap.size, 5, none⟩ (.int .u64 0)).setCell ⟨w.heap.size, 6, none⟩ (.slice none 0 0)).setCell ⟨w.heap.size + 1, 0, none⟩ (ci (p : Int))).setCell ⟨w.heap.size + 1 + 1, 0, none⟩ (ci c))).drew.heap[w.heap.size + 1 + 1]? = some (.cells #[ci c] 28 (0, 0)) := (Fr.drew (fun _ => False) _).heap kc_11 (fun f => f)
  clear ff ff11 ff10 ff9 ff8 ff7 ff6 ff5 ff4 ff3 ff2 ff1 ff0 kc_11 kb_11 ka_11 kc_10 kb_10 ka_10 kc_9 kb_9 ka_9 kc_8 kb_8 ka_8 kc_7 kb_7 ka_7 kc_6 kb_6 ka_6 kc_5 kb_5 ka_5 kc_4 kb_4 ka_4 kc_3 kb_3 ka_3 kc_2 kb_2 ka_2 kc_1 kb_1 ka_1
  generalize ((((((((((((W1.setCell ⟨w.heap.size + 1, 0, none⟩ (ci (p : Int))).setCell ⟨w.heap.size + 1 + 1, 0, none⟩ (ci c)).setCell ⟨w.heap.size, 0, none⟩ (ci 0)).setCell ⟨w.heap.size, 1, none⟩ (ci 0)).setCell ⟨w.heap.size, 2, none⟩ (.string ⟨#[]⟩)).setCell ⟨w.heap.size, 3, none⟩ (.string ⟨#[]⟩)).setCell ⟨w.heap.size, 4, none⟩ (ci 0)).setCell ⟨w.heap.size, 5, none⟩ (.int .u64 0)).setCell ⟨w.heap.size, 6, none⟩ (.slice none 0 0)).setCell ⟨w.heap.size + 1, 0, none⟩ (ci (p : Int))).setCell ⟨w.heap.size + 1 + 1, 0, none⟩ (ci c))).drew = W9 at q0 q1 q2 fall ⊢
  refine ⟨_, results_three rfl _ _ _ _ _ _ _ _ rfl rfl rfl (run_loadVar_row _ _ _ _ _ _ _ q0 Tryz.underlying27 rfl info_ex) (load_int _ _ _ q1) (load_errno _ _ _ q2), ?_⟩
  exact ⟨rfl, fall⟩

set_option maxRecDepth 20000 in
set_option maxHeartbeats 4000000 in
theorem readX_toks (l : By) (ts : List Tok) (g : Nat) (hg : g ≤ 3000) (hts : ts.length ≤ 1024) (p : Nat) (c : Int) (r : Option (Pz.Ex)) (hl : l.length ≤ 9223372036854775807) (hR : Hidden (lexS wordsL valS l = (ts, 0, 0))) (hS : Hidden (Pz.whole (Pz.expr g false 0 (ts ++ [Pz.endT l.length])) = some (r, p, c))) (w : World) (ht : F.Tab w) :
    Calls Tryz.prog 12 #[ct l, .func (.func 13) #[] #[]] w fun e w' => ∃ v, e = .returned (.tuple #[v, ci (p : Int), ci c]) ∧ Nw w.heap.size w' (fun w' => ExI w' (r.getD (⟨0, 0, [], [], 0, 0⟩, .nil)).1 (r.getD (⟨0, 0, [], [], 0, 0⟩, .nil)).2 v) ∧ Fr (fun _ => False) w w' := by
  have fm := Fr.alloc (fun _ => False) w ex0
  have fn := Fr.alloc (fun _ => False) (w.alloc ex0) (.cells #[ci 0] 3)
  have fc := Fr.alloc (fun _ => False) ((w.alloc ex0).alloc (.cells #[ci 0] 3)) (.cells #[ci 0] 28)
  have k := lex_any l ts 0 0 hl hR _ (tab_fr ht ((fm.same fn).same fc))
  have hmf : ∀ (fn : Fn) (first cap : Array Value) (w : World), (Instr.makeFunc fn first cap).run Tryz.prog w = .ok (.func fn first cap) w := fun _ _ _ _ => rfl
  have hsl := str_len l
  go_enter_defers Tryz.func12, Tryz.ntmps12
  go_wp2_with fail
  go_at_call 7
  refine k.mono ?_
  rintro e W1 ⟨v, rfl, r1, f1⟩
  obtain ⟨aov, capv, rfl⟩ := r1.len
  have h0 : Hidden (W1.heap[w.heap.size]? = some ex0) := f1.heap (fc.heap (fn.heap (alloc_new _ _) (fun f => f)) (fun f => f)) (fun f => f)
  have h1 : Hidden (W1.heap[w.heap.size + 1]? = some (.cells #[ci 0] 3 (0, 0))) := f1.heap (fc.heap (heap_alloc2_new _ _ _) (fun f => f)) (fun f => f)
  have h2 : Hidden (W1.heap[w.heap.size + 1 + 1]? = some (.cells #[ci 0] 28 (0, 0))) := f1.heap (by have := alloc_new ((w.alloc ex0).alloc (.cells #[ci 0] 3)) (.cells #[ci 0] 28); simpa using this) (fun f => f)
  have c1 : W1.cell? ⟨w.heap.size + 1, 0, none⟩ = some (ci 0) := cell_of_row _ _ 0 _ _ _ h1
  have z1 := frozen_row h1 0
  have c2 : W1.cell? ⟨w.heap.size + 1 + 1, 0, none⟩ = some (ci 0) := cell_of_row _ _ 0 _ _ _ h2
  have z2 := frozen_row h2 0
  have s1 := f1.size
  simp only [World.size_alloc] at s1
  go_wp2_with fail
  have ka_1 : (W1.setCell ⟨w.heap.size + 1, 0, none⟩ (ci 0)).heap[w.heap.size]? = some (.cells #[ci 0, ci 0, .string ⟨#[]⟩, .string ⟨#[]⟩, ci 0, .int .u64 0, .slice none 0 0] 27 (0, 0)) := (Fr.put _ _ _ _).heap h0 (by omega)
  have kb_1 : (W1.setCell ⟨w.heap.size + 1, 0, none⟩ (ci 0)).heap[w.heap.size + 1]? = some (.cells #[ci 0] 3 (0, 0)) := heap_setCell_same _ _ 0 _ _ _ h1
  have kc_1 : (W1.setCell ⟨w.heap.size + 1, 0, none⟩ (ci 0)).heap[w.heap.size + 1 + 1]? = some (.cells #[ci 0] 28 (0, 0)) := (Fr.put _ _ _ _).heap h2 (by omega)
  have ka_2 : ((W1.setCell ⟨w.heap.size + 1, 0, none⟩ (ci 0)).setCell ⟨w.heap.size + 1 + 1, 0, none⟩ (ci 0)).heap[w.heap.size]? = some (.cells #[ci 0, ci 0, .string ⟨#[]⟩, .string ⟨#[]⟩, ci 0, .int .u64 0, .slice none 0 0] 27 (0, 0)) := (Fr.put _ _ _ _).heap ka_1 (by omega)
  have kb_2 : ((W1.setCell ⟨w.heap.size + 1, 0, none⟩ (ci 0)).setCell ⟨w.heap.size + 1 + 1, 0, none⟩ (ci 0)).heap[w.heap.size + 1]? = some (.cells #[ci 0] 3 (0, 0)) := (Fr.put _ _ _ _).heap kb_1 (by omega)
  have kc_2 : ((W1.setCell ⟨w.heap.size + 1, 0, none⟩ (ci 0)).setCell ⟨w.heap.size + 1 + 1, 0, none⟩ (ci 0)).heap[w.heap.size + 1 + 1]? = some (.cells #[ci 0] 28 (0, 0)) := heap_setCell_same _ _ 0 _ _ _ kc_1
  have ffn0 : Fr (fun k => k = w.heap.size + 1 ∨ k = w.heap.size + 1 + 1) W1 W1 := Fr.refl _ _
  have ffn1 : Fr (fun k => k = w.heap.size + 1 ∨ k = w.heap.size + 1 + 1) W1 (W1.setCell ⟨w.heap.size + 1, 0, none⟩ (ci 0)) := ffn0.same (Fr.set (S := fun k => k = w.heap.size + 1 ∨ k = w.heap.size + 1 + 1) W1 (w.heap.size + 1) 0 (ci 0) (by omega))
  have ffn2 : Fr (fun k => k = w.heap.size + 1 ∨ k = w.heap.size + 1 + 1) W1 ((W1.setCell ⟨w.heap.size + 1, 0, none⟩ (ci 0)).setCell ⟨w.heap.size + 1 + 1, 0, none⟩ (ci 0)) := ffn1.same (Fr.set (S := fun k => k = w.heap.size + 1 ∨ k = w.heap.size + 1 + 1) (W1.setCell ⟨w.heap.size + 1, 0, none⟩ (ci 0)) (w.heap.size + 1 + 1) 0 (ci 0) (by omega))
  have ffn := ffn2
  have fw : Fr (fun _ => False) w ((W1.setCell ⟨w.heap.size + 1, 0, none⟩ (ci 0)).setCell ⟨w.heap.size + 1 + 1, 0, none⟩ (ci 0)) := (((fm.same fn).same fc).same f1).over ffn (fun k hk => by omega)
  have hTq := Tq.of ht fw (Nat.le_refl _)
  have hrn : Tr ((W1.setCell ⟨w.heap.size + 1, 0, none⟩ (ci 0)).setCell ⟨w.heap.size + 1 + 1, 0, none⟩ (ci 0)) (((w.alloc ex0).alloc (.cells #[ci 0] 3)).alloc (.cells #[ci 0] 28)).heap.size 57 (.slice aov ts.length capv) ts := r1.keep ffn (fun k hk hs => by have := r1.low k hk; simp only [World.size_alloc] at this; omega)
  have hrl : ∀ k, Value.ownBlock (.slice aov ts.length capv) = some k → w.heap.size + 1 + 1 + 1 ≤ k := fun k hk => by have := r1.low k hk; simpa using this
  go_at_call 27
  refine (np_c w.heap.size (((w.alloc ex0).alloc (.cells #[ci 0] 3)).alloc (.cells #[ci 0] 28)).heap.size _ _ ts l.length hts (by simp; omega) (by have := ffn.size; simp only [World.size_alloc] at *; omega) hTq hrn).mono ?_
  rintro e W4 ⟨q, rfl, hp, hqs, f4⟩
  have n0' := f4.heap ka_2 (fun hk => by have := hrl _ hk; omega)
  have n1' := f4.heap kb_2 (fun hk => by have := hrl _ hk; omega)
  have n2' := f4.heap kc_2 (fun hk => by have := hrl _ hk; omega)
  have fw4 : Fr (fun _ => False) w W4 := fw.over f4 (fun k hk => by have := hrl _ hk; omega)
  have n0H : Hidden (W4.heap[w.heap.size]? = some (.cells #[ci 0, ci 0, .string ⟨#[]⟩, .string ⟨#[]⟩, ci 0, .int .u64 0, .slice none 0 0] 27 (0, 0))) := n0'
  have n1H : Hidden (W4.heap[w.heap.size + 1]? = some (.cells #[ci 0] 3 (0, 0))) := n1'
  have n2H : Hidden (W4.heap[w.heap.size + 1 + 1]? = some (.cells #[ci 0] 28 (0, 0))) := n2'
  have hpH : Hidden (Ps W4 q (ts ++ [Pz.endT l.length]) 0 false) := hp
  have hqW : w.heap.size + 1 + 1 < q := by have := ffn.size; omega
  have hq4 := hp.lt
  clear hp n0' n1' n2' ka_1 ka_2 kb_1 kb_2 kc_1 kc_2 c1 z1 c2 z2 h0 h1 h2 hrn
  obtain ⟨rs, hs⟩ : ∃ rs, Pz.expr g false 0 (ts ++ [Pz.endT l.length]) = some rs := by
    cases hx : Pz.expr g false 0 (ts ++ [Pz.endT l.length]) with
    | none => exact absurd hS (by simp [Hidden, hx, Pz.whole])
    | some rs => exact ⟨rs, rfl⟩
  have hS2 : Hidden (Pz.whole (some rs) = some (r, p, c)) := by rw [← hs]; exact hS
  have kM := expr_c g hg false 0 _ rs q _ (by omega) hs hpH
  clear hs hS
  go_wp2_with fail
  go_at_call 13
  refine kM.mono ?_
  rcases rs with ⟨a, us⟩ | ⟨p', c'⟩
  rotate_left
  · have e1 : (none, p', c') = (r, p, c) := Option.some.inj hS2
    cases e1
    rintro e W5 ⟨rfl, f5⟩
    unfold gP
    have n0 := f5.heap n0H (by omega)
    have n1 := f5.heap n1H (by omega)
    have n2 := f5.heap n2H (by omega)
    have fw5 : Fr (fun _ => False) w W5 := fw4.over f5 (fun k hk => by subst hk; omega)
    go_wp2_with fail
    refine leaves_cons (f := 26) (args := #[.pointer (some ⟨w.heap.size + 1, 0, none⟩), .pointer (some ⟨w.heap.size + 1 + 1, 0, none⟩)]) (by simp) (by simp [go_sem]) ?_
    refine (catchX (w.heap.size + 1) (w.heap.size + 1 + 1) (by omega) p c W5 n1 n2).mono ?_
    rintro e u' W9 ⟨rfl, rfl, q1, q2, f9⟩
    have q0 := f9.heap n0 (by omega)
    refine ⟨_, results_three rfl _ _ _ _ _ _ _ _ rfl rfl rfl (run_loadVar_row _ _ _ _ _ _ _ q0 Tryz.underlying27 rfl info_ex) (load_int _ _ _ q1) (load_errno _ _ _ q2), ?_⟩
    exact ⟨_, rfl, fun _ _ => ⟨none, 0, rfl, Nat.le_refl _, by decide, Or.inl rfl⟩, fw5.over f9 (fun k hk => by omega)⟩
  rintro e W5 ⟨v5, rfl, ⟨ao, cap, rfl, hN⟩, hp5, f5⟩
  have n05 := f5.heap n0H (by omega)
  have n15 := f5.heap n1H (by omega)
  have n25 := f5.heap n2H (by omega)
  have fw5 : Fr (fun _ => False) w W5 := fw4.over f5 (fun k hk => by subst hk; omega)
  have fa := Fr.alloc (fun _ => False) W5 (.cells #[ci a.1.kind, ci a.1.op, ct a.1.mod, ct a.1.name, ci a.1.vt, .int .u64 a.1.vb, .slice ao a.2.len cap] 27)
  have n0 : (W5.alloc (.cells #[ci a.1.kind, ci a.1.op, ct a.1.mod, ct a.1.name, ci a.1.vt, .int .u64 a.1.vb, .slice ao a.2.len cap] 27)).heap[w.heap.size]? = some (.cells #[ci 0, ci 0, .string ⟨#[]⟩, .string ⟨#[]⟩, ci 0, .int .u64 0, .slice none 0 0] 27 (0, 0)) := fa.heap n05 (fun f => f)
  have n1 : (W5.alloc (.cells #[ci a.1.kind, ci a.1.op, ct a.1.mod, ct a.1.name, ci a.1.vt, .int .u64 a.1.vb, .slice ao a.2.len cap] 27)).heap[w.heap.size + 1]? = some (.cells #[ci 0] 3 (0, 0)) := fa.heap n15 (fun f => f)
  have n2 : (W5.alloc (.cells #[ci a.1.kind, ci a.1.op, ct a.1.mod, ct a.1.name, ci a.1.vt, .int .u64 a.1.vb, .slice ao a.2.len cap] 27)).heap[w.heap.size + 1 + 1]? = some (.cells #[ci 0] 28 (0, 0)) := fa.heap n25 (fun f => f)
  have n3 : (W5.alloc (.cells #[ci a.1.kind, ci a.1.op, ct a.1.mod, ct a.1.name, ci a.1.vt, .int .u64 a.1.vb, .slice ao a.2.len cap] 27)).heap[W5.heap.size]? = some (.cells #[ci a.1.kind, ci a.1.op, ct a.1.mod, ct a.1.name, ci a.1.vt, .int .u64 a.1.vb, .slice ao a.2.len cap] 27) := alloc_new _ _
  have fw6 := fw5.same fa
  have hp6 : Hidden (Ps (W5.alloc (.cells #[ci a.1.kind, ci a.1.op, ct a.1.mod, ct a.1.name, ci a.1.vt, .int .u64 a.1.vb, .slice ao a.2.len cap] 27)) q us 0 false) := hp5.keepN fa
  have s5 := f5.size
  have hN6 := hN.step fa (fun _ f => f.elim)
  clear n05 n15 n25 hp5
  have n0H : Hidden _ := n0
  have n1H : Hidden _ := n1
  have n2H : Hidden _ := n2
  have n3H : Hidden _ := n3
  clear n0 n1 n2 n3
  go_wp2_with fail
  go_at_call 28
  cases us with
  | nil => exact absurd hS2 (by simp [Hidden, Pz.whole])
  | cons t r2 =>
    cases r2 with
    | nil =>
      have e1 : (some a, 0, 0) = (r, p, c) := Option.some.inj hS2
      cases e1
      refine (mustEnd_ok q t 0 false _ hp6).mono ?_
      rintro e W6 ⟨rfl, hw6⟩
      have n0 := (show _ = _ from n0H)
      have n1 := (show _ = _ from n1H)
      have n2 := (show _ = _ from n2H)
      have n3 := (show _ = _ from n3H)
      rw [← hw6] at n0 n1 n2 n3 fw6 hN6
      clear hw6 hp6 n0H n1H n2H n3H
      have n0H : Hidden (W6.heap[w.heap.size]? = _) := n0
      have n1H : Hidden (W6.heap[w.heap.size + 1]? = _) := n1
      have n2H : Hidden (W6.heap[w.heap.size + 1 + 1]? = _) := n2
      obtain ⟨ac0, ac1, ac2, ac3, ac4, ac5, ac6, az0, az1, az2, az3, az4, az5, az6⟩ := box7 n0
      obtain ⟨bc0, bc1, bc2, bc3, bc4, bc5, bc6, bz0, bz1, bz2, bz3, bz4, bz5, bz6⟩ := box7 n3
      have d1 : W6.cell? ⟨w.heap.size + 1, 0, none⟩ = some (ci 0) := cell_of_row _ _ 0 _ _ _ n1
      have e1 := frozen_row n1 0
      have d2 : W6.cell? ⟨w.heap.size + 1 + 1, 0, none⟩ = some (ci 0) := cell_of_row _ _ 0 _ _ _ n2
      have e2 := frozen_row n2 0
      clear n0 n1 n2 n3
      go_wp2_with fail
      have n0 := (show _ = _ from n0H)
      have n1 := (show _ = _ from n1H)
      have n2 := (show _ = _ from n2H)
      have ka_1 : (W6.setCell ⟨w.heap.size, 0, none⟩ (ci a.1.kind)).heap[w.heap.size]? = some (.cells #[ci a.1.kind, ci 0, .string ⟨#[]⟩, .string ⟨#[]⟩, ci 0, .int .u64 0, .slice none 0 0] 27 (0, 0)) := heap_setCell_same _ _ 0 _ _ _ n0
      have kb_1 : (W6.setCell ⟨w.heap.size, 0, none⟩ (ci a.1.kind)).heap[w.heap.size + 1]? = some (.cells #[ci 0] 3 (0, 0)) := (Fr.put _ _ _ _).heap n1 (by omega)
      have kc_1 : (W6.setCell ⟨w.heap.size, 0, none⟩ (ci a.1.kind)).heap[w.heap.size + 1 + 1]? = some (.cells #[ci 0] 28 (0, 0)) := (Fr.put _ _ _ _).heap n2 (by omega)
      have ka_2 : ((W6.setCell ⟨w.heap.size, 0, none⟩ (ci a.1.kind)).setCell ⟨w.heap.size, 1, none⟩ (ci a.1.op)).heap[w.heap.size]? = some (.cells #[ci a.1.kind, ci a.1.op, .string ⟨#[]⟩, .string ⟨#[]⟩, ci 0, .int .u64 0, .slice none 0 0] 27 (0, 0)) := heap_setCell_same _ _ 1 _ _ _ ka_1
      have kb_2 : ((W6.setCell ⟨w.heap.size, 0, none⟩ (ci a.1.kind)).setCell ⟨w.heap.size, 1, none⟩ (ci a.1.op)).heap[w.heap.size + 1]? = some (.cells #[ci 0] 3 (0, 0)) := (Fr.put _ _ _ _).heap kb_1 (by omega)
      have kc_2 : ((W6.setCell ⟨w.heap.size, 0, none⟩ (ci a.1.kind)).setCell ⟨w.heap.size, 1, none⟩ (ci a.1.op)).heap[w.heap.size + 1 + 1]? = some (.cells #[ci 0] 28 (0, 0)) := (Fr.put _ _ _ _).heap kc_1 (by omega)
      have ka_3 : (((W6.setCell ⟨w.heap.size, 0, none⟩ (ci a.1.kind)).setCell ⟨w.heap.size, 1, none⟩ (ci a.1.op)).setCell ⟨w.heap.size, 2, none⟩ (ct a.1.mod)).heap[w.heap.size]? = some (.cells #[ci a.1.kind, ci a.1.op, ct a.1.mod, .string ⟨#[]⟩, ci 0, .int .u64 0, .slice none 0 0] 27 (0, 0)) := heap_setCell_same _ _ 2 _ _ _ ka_2
      have kb_3 : (((W6.setCell ⟨w.heap.size, 0, none⟩ (ci a.1.kind)).setCell ⟨w.heap.size, 1, none⟩ (ci a.1.op)).setCell ⟨w.heap.size, 2, none⟩ (ct a.1.mod)).heap[w.heap.size + 1]? = some (.cells #[ci 0] 3 (0, 0)) := (Fr.put _ _ _ _).heap kb_2 (by omega)
      have kc_3 : (((W6.setCell ⟨w.heap.size, 0, none⟩ (ci a.1.kind)).setCell ⟨w.heap.size, 1, none⟩ (ci a.1.op)).setCell ⟨w.heap.size, 2, none⟩ (ct a.1.mod)).heap[w.heap.size + 1 + 1]? = some (.cells #[ci 0] 28 (0, 0)) := (Fr.put _ _ _ _).heap kc_2 (by omega)
      have ka_4 : ((((W6.setCell ⟨w.heap.size, 0, none⟩ (ci a.1.kind)).setCell ⟨w.heap.size, 1, none⟩ (ci a.1.op)).setCell ⟨w.heap.size, 2, none⟩ (ct a.1.mod)).setCell ⟨w.heap.size, 3, none⟩ (ct a.1.name)).heap[w.heap.size]? = some (.cells #[ci a.1.kind, ci a.1.op, ct a.1.mod, ct a.1.name, ci 0, .int .u64 0, .slice none 0 0] 27 (0, 0)) := heap_setCell_same _ _ 3 _ _ _ ka_3
      have kb_4 : ((((W6.setCell ⟨w.heap.size, 0, none⟩ (ci a.1.kind)).setCell ⟨w.heap.size, 1, none⟩ (ci a.1.op)).setCell ⟨w.heap.size, 2, none⟩ (ct a.1.mod)).setCell ⟨w.heap.size, 3, none⟩ (ct a.1.name)).heap[w.heap.size + 1]? = some (.cells #[ci 0] 3 (0, 0)) := (Fr.put _ _ _ _).heap kb_3 (by omega)
      have kc_4 : ((((W6.setCell ⟨w.heap.size, 0, none⟩ (ci a.1.kind)).setCell ⟨w.heap.size, 1, none⟩ (ci a.1.op)).setCell ⟨w.heap.size, 2, none⟩ (ct a.1.mod)).setCell ⟨w.heap.size, 3, none⟩ (ct a.1.name)).heap[w.heap.size + 1 + 1]? = some (.cells #[ci 0] 28 (0, 0)) := (Fr.put _ _ _ _).heap kc_3 (by omega)
      have ka_5 : (((((W6.setCell ⟨w.heap.size, 0, none⟩ (ci a.1.kind)).setCell ⟨w.heap.size, 1, none⟩ (ci a.1.op)).setCell ⟨w.heap.size, 2, none⟩ (ct a.1.mod)).setCell ⟨w.heap.size, 3, none⟩ (ct a.1.name)).setCell ⟨w.heap.size, 4, none⟩ (ci a.1.vt)).heap[w.heap.size]? = some (.cells #[ci a.1.kind, ci a.1.op, ct a.1.mod, ct a.1.name, ci a.1.vt, .int .u64 0, .slice none 0 0] 27 (0, 0)) := heap_setCell_same _ _ 4 _ _ _ ka_4
      have kb_5 : (((((W6.setCell ⟨w.heap.size, 0, none⟩ (ci a.1.kind)).setCell ⟨w.heap.size, 1, none⟩ (ci a.1.op)).setCell ⟨w.heap.size, 2, none⟩ (ct a.1.mod)).setCell ⟨w.heap.size, 3, none⟩ (ct a.1.name)).setCell ⟨w.heap.size, 4, none⟩ (ci a.1.vt)).heap[w.heap.size + 1]? = some (.cells #[ci 0] 3 (0, 0)) := (Fr.put _ _ _ _).heap kb_4 (by omega)
      have kc_5 : (((((W6.setCell ⟨w.heap.size, 0, none⟩ (ci a.1.kind)).setCell ⟨w.heap.size, 1, none⟩ (ci a.1.op)).setCell ⟨w.heap.size, 2, none⟩ (ct a.1.mod)).setCell ⟨w.heap.size, 3, none⟩ (ct a.1.name)).setCell ⟨w.heap.size, 4, none⟩ (ci a.1.vt)).heap[w.heap.size + 1 + 1]? = some (.cells #[ci 0] 28 (0, 0)) := (Fr.put _ _ _ _).heap kc_4 (by omega)
      have ka_6 : ((((((W6.setCell ⟨w.heap.size, 0, none⟩ (ci a.1.kind)).setCell ⟨w.heap.size, 1, none⟩ (ci a.1.op)).setCell ⟨w.heap.size, 2, none⟩ (ct a.1.mod)).setCell ⟨w.heap.size, 3, none⟩ (ct a.1.name)).setCell ⟨w.heap.size, 4, none⟩ (ci a.1.vt)).setCell ⟨w.heap.size, 5, none⟩ (.int .u64 a.1.vb)).heap[w.heap.size]? = some (.cells #[ci a.1.kind, ci a.1.op, ct a.1.mod, ct a.1.name, ci a.1.vt, .int .u64 a.1.vb, .slice none 0 0] 27 (0, 0)) := heap_setCell_same _ _ 5 _ _ _ ka_5
      have kb_6 : ((((((W6.setCell ⟨w.heap.size, 0, none⟩ (ci a.1.kind)).setCell ⟨w.heap.size, 1, none⟩ (ci a.1.op)).setCell ⟨w.heap.size, 2, none⟩ (ct a.1.mod)).setCell ⟨w.heap.size, 3, none⟩ (ct a.1.name)).setCell ⟨w.heap.size, 4, none⟩ (ci a.1.vt)).setCell ⟨w.heap.size, 5, none⟩ (.int .u64 a.1.vb)).heap[w.heap.size + 1]? = some (.cells #[ci 0] 3 (0, 0)) := (Fr.put _ _ _ _).heap kb_5 (by omega)
      have kc_6 : ((((((W6.setCell ⟨w.heap.size, 0, none⟩ (ci a.1.kind)).setCell ⟨w.heap.size, 1, none⟩ (ci a.1.op)).setCell ⟨w.heap.size, 2, none⟩ (ct a.1.mod)).setCell ⟨w.heap.size, 3, none⟩ (ct a.1.name)).setCell ⟨w.heap.size, 4, none⟩ (ci a.1.vt)).setCell ⟨w.heap.size, 5, none⟩ (.int .u64 a.1.vb)).heap[w.heap.size + 1 + 1]? = some (.cells #[ci 0] 28 (0, 0)) := (Fr.put _ _ _ _).heap kc_5 (by omega)
      have ka_7 : (((((((W6.setCell ⟨w.heap.size, 0, none⟩ (ci a.1.kind)).setCell ⟨w.heap.size, 1, none⟩ (ci a.1.op)).setCell ⟨w.heap.size, 2, none⟩ (ct a.1.mod)).setCell ⟨w.heap.size, 3, none⟩ (ct a.1.name)).setCell ⟨w.heap.size, 4, none⟩ (ci a.1.vt)).setCell ⟨w.heap.size, 5, none⟩ (.int .u64 a.1.vb)).setCell ⟨w.heap.size, 6, none⟩ (.slice ao a.2.len cap)).heap[w.heap.size]? = some (.cells #[ci a.1.kind, ci a.1.op, ct a.1.mod, ct a.1.name, ci a.1.vt, .int .u64 a.1.vb, .slice ao a.2.len cap] 27 (0, 0)) := heap_setCell_same _ _ 6 _ _ _ ka_6
      have kb_7 : (((((((W6.setCell ⟨w.heap.size, 0, none⟩ (ci a.1.kind)).setCell ⟨w.heap.size, 1, none⟩ (ci a.1.op)).setCell ⟨w.heap.size, 2, none⟩ (ct a.1.mod)).setCell ⟨w.heap.size, 3, none⟩ (ct a.1.name)).setCell ⟨w.heap.size, 4, none⟩ (ci a.1.vt)).setCell ⟨w.heap.size, 5, none⟩ (.int .u64 a.1.vb)).setCell ⟨w.heap.size, 6, none⟩ (.slice ao a.2.len cap)).heap[w.heap.size + 1]? = some (.cells #[ci 0] 3 (0, 0)) := (Fr.put _ _ _ _).heap kb_6 (by omega)
      have kc_7 : (((((((W6.setCell ⟨w.heap.size, 0, none⟩ (ci a.1.kind)).setCell ⟨w.heap.size, 1, none⟩ (ci a.1.op)).setCell ⟨w.heap.size, 2, none⟩ (ct a.1.mod)).setCell ⟨w.heap.size, 3, none⟩ (ct a.1.name)).setCell ⟨w.heap.size, 4, none⟩ (ci a.1.vt)).setCell ⟨w.heap.size, 5, none⟩ (.int .u64 a.1.vb)).setCell ⟨w.heap.size, 6, none⟩ (.slice ao a.2.len cap)).heap[w.heap.size + 1 + 1]? = some (.cells #[ci 0] 28 (0, 0)) := (Fr.put _ _ _ _).heap kc_6 (by omega)
      have ka_8 : ((((((((W6.setCell ⟨w.heap.size, 0, none⟩ (ci a.1.kind)).setCell ⟨w.heap.size, 1, none⟩ (ci a.1.op)).setCell ⟨w.heap.size, 2, none⟩ (ct a.1.mod)).setCell ⟨w.heap.size, 3, none⟩ (ct a.1.name)).setCell ⟨w.heap.size, 4, none⟩ (ci a.1.vt)).setCell ⟨w.heap.size, 5, none⟩ (.int .u64 a.1.vb)).setCell ⟨w.heap.size, 6, none⟩ (.slice ao a.2.len cap)).setCell ⟨w.heap.size + 1, 0, none⟩ (ci 0)).heap[w.heap.size]? = some (.cells #[ci a.1.kind, ci a.1.op, ct a.1.mod, ct a.1.name, ci a.1.vt, .int .u64 a.1.vb, .slice ao a.2.len cap] 27 (0, 0)) := (Fr.put _ _ _ _).heap ka_7 (by omega)
      have kb_8 : ((((((((W6.setCell ⟨w.heap.size, 0, none⟩ (ci a.1.kind)).setCell ⟨w.heap.size, 1, none⟩ (ci a.1.op)).setCell ⟨w.heap.size, 2, none⟩ (ct a.1.mod)).setCell ⟨w.heap.size, 3, none⟩ (ct a.1.name)).setCell ⟨w.heap.size, 4, none⟩ (ci a.1.vt)).setCell ⟨w.heap.size, 5, none⟩ (.int .u64 a.1.vb)).setCell ⟨w.heap.size, 6, none⟩ (.slice ao a.2.len cap)).setCell ⟨w.heap.size + 1, 0, none⟩ (ci 0)).heap[w.heap.size + 1]? = some (.cells #[ci 0] 3 (0, 0)) := heap_setCell_same _ _ 0 _ _ _ kb_7
      have kc_8 : ((((((((W6.setCell ⟨w.heap.size, 0, none⟩ (ci a.1.kind)).setCell ⟨w.heap.size, 1, none⟩ (ci a.1.op)).setCell ⟨w.heap.size, 2, none⟩ (ct a.1.mod)).setCell ⟨w.heap.size, 3, none⟩ (ct a.1.name)).setCell ⟨w.heap.size, 4, none⟩ (ci a.1.vt)).setCell ⟨w.heap.size, 5, none⟩ (.int .u64 a.1.vb)).setCell ⟨w.heap.size, 6, none⟩ (.slice ao a.2.len cap)).setCell ⟨w.heap.size + 1, 0, none⟩ (ci 0)).heap[w.heap.size + 1 + 1]? = some (.cells #[ci 0] 28 (0, 0)) := (Fr.put _ _ _ _).heap kc_7 (by omega)
      have ka_9 : (((((((((W6.setCell ⟨w.heap.size, 0, none⟩ (ci a.1.kind)).setCell ⟨w.heap.size, 1, none⟩ (ci a.1.op)).setCell ⟨w.heap.size, 2, none⟩ (ct a.1.mod)).setCell ⟨w.heap.size, 3, none⟩ (ct a.1.name)).setCell ⟨w.heap.size, 4, none⟩ (ci a.1.vt)).setCell ⟨w.heap.size, 5, none⟩ (.int .u64 a.1.vb)).setCell ⟨w.heap.size, 6, none⟩ (.slice ao a.2.len cap)).setCell ⟨w.heap.size + 1, 0, none⟩ (ci 0)).setCell ⟨w.heap.size + 1 + 1, 0, none⟩ (ci 0)).heap[w.heap.size]? = some (.cells #[ci a.1.kind, ci a.1.op, ct a.1.mod, ct a.1.name, ci a.1.vt, .int .u64 a.1.vb, .slice ao a.2.len cap] 27 (0, 0)) := (Fr.put _ _ _ _).heap ka_8 (by omega)
      have kb_9 : (((((((((W6.setCell ⟨w.heap.size, 0, none⟩ (ci a.1.kind)).setCell ⟨w.heap.size, 1, none⟩ (ci a.1.op)).setCell ⟨w.heap.size, 2, none⟩ (ct a.1.mod)).setCell ⟨w.heap.size, 3, none⟩ (ct a.1.name)).setCell ⟨w.heap.size, 4, none⟩ (ci a.1.vt)).setCell ⟨w.heap.size, 5, none⟩ (.int .u64 a.1.vb)).setCell ⟨w.heap.size, 6, none⟩ (.slice ao a.2.len cap)).setCell ⟨w.heap.size + 1, 0, none⟩ (ci 0)).setCell ⟨w.heap.size + 1 + 1, 0, none⟩ (ci 0)).heap[w.heap.size + 1]? = some (.cells #[ci 0] 3 (0, 0)) := (Fr.put _ _ _ _).heap kb_8 (by omega)
      have kc_9 : (((((((((W6.setCell ⟨w.heap.size, 0, none⟩ (ci a.1.kind)).setCell ⟨w.heap.size, 1, none⟩ (ci a.1.op)).setCell ⟨w.heap.size, 2, none⟩ (ct a.1.mod)).setCell ⟨w.heap.size, 3, none⟩ (ct a.1.name)).setCell ⟨w.heap.size, 4, none⟩ (ci a.1.vt)).setCell ⟨w.heap.size, 5, none⟩ (.int .u64 a.1.vb)).setCell ⟨w.heap.size, 6, none⟩ (.slice ao a.2.len cap)).setCell ⟨w.heap.size + 1, 0, none⟩ (ci 0)).setCell ⟨w.heap.size + 1 + 1, 0, none⟩ (ci 0)).heap[w.heap.size + 1 + 1]? = some (.cells #[ci 0] 28 (0, 0)) := heap_setCell_same _ _ 0 _ _ _ kc_8
      refine leaves_cons (f := 26) (args := #[.pointer (some ⟨w.heap.size + 1, 0, none⟩), .pointer (some ⟨w.heap.size + 1 + 1, 0, none⟩)]) (by simp) (by simp [go_sem]) ?_
      refine (idleX (w.heap.size + 1) (w.heap.size + 1 + 1) _).mono ?_
      rintro e u' W9 ⟨rfl, rfl, rfl⟩
      have ff0 : Fr (fun k => w.heap.size ≤ k ∧ k < W4.heap.size) W6 W6 := Fr.refl _ _
      have ff1 : Fr (fun k => w.heap.size ≤ k ∧ k < W4.heap.size) W6 (W6.setCell ⟨w.heap.size, 0, none⟩ (ci a.1.kind)) := ff0.same (Fr.set (S := fun k => w.heap.size ≤ k ∧ k < W4.heap.size) W6 (w.heap.size) 0 (ci a.1.kind) (by omega))
      have ff2 : Fr (fun k => w.heap.size ≤ k ∧ k < W4.heap.size) W6 ((W6.setCell ⟨w.heap.size, 0, none⟩ (ci a.1.kind)).setCell ⟨w.heap.size, 1, none⟩ (ci a.1.op)) := ff1.same (Fr.set (S := fun k => w.heap.size ≤ k ∧ k < W4.heap.size) (W6.setCell ⟨w.heap.size, 0, none⟩ (ci a.1.kind)) (w.heap.size) 1 (ci a.1.op) (by omega))
      have ff3 : Fr (fun k => w.heap.size ≤ k ∧ k < W4.heap.size) W6 (((W6.setCell ⟨w.heap.size, 0, none⟩ (ci a.1.kind)).setCell ⟨w.heap.size, 1, none⟩ (ci a.1.op)).setCell ⟨w.heap.size, 2, none⟩ (ct a.1.mod)) := ff2.same (Fr.set (S := fun k => w.heap.size ≤ k ∧ k < W4.heap.size) ((W6.setCell ⟨w.heap.size, 0, none⟩ (ci a.1.kind)).setCell ⟨w.heap.size, 1, none⟩ (ci a.1.op)) (w.heap.size) 2 (ct a.1.mod) (by omega))
      have ff4 : Fr (fun k => w.heap.size ≤ k ∧ k < W4.heap.size) W6 ((((W6.setCell ⟨w.heap.size, 0, none⟩ (ci a.1.kind)).setCell ⟨w.heap.size, 1, none⟩ (ci a.1.op)).setCell ⟨w.heap.size, 2, none⟩ (ct a.1.mod)).setCell ⟨w.heap.size, 3, none⟩ (ct a.1.name)) := ff3.same (Fr.set (S := fun k => w.heap.size ≤ k ∧ k < W4.heap.size) (((W6.setCell ⟨w.heap.size, 0, none⟩ (ci a.1.kind)).setCell ⟨w.heap.size, 1, none⟩ (ci a.1.op)).setCell ⟨w.heap.size, 2, none⟩ (ct a.1.mod)) (w.heap.size) 3 (ct a.1.name) (by omega))
      have ff5 : Fr (fun k => w.heap.size ≤ k ∧ k < W4.heap.size) W6 (((((W6.setCell ⟨w.heap.size, 0, none⟩ (ci a.1.kind)).setCell ⟨w.heap.size, 1, none⟩ (ci a.1.op)).setCell ⟨w.heap.size, 2, none⟩ (ct a.1.mod)).setCell ⟨w.heap.size, 3, none⟩ (ct a.1.name)).setCell ⟨w.heap.size, 4, none⟩ (ci a.1.vt)) := ff4.same (Fr.set (S := fun k => w.heap.size ≤ k ∧ k < W4.heap.size) ((((W6.setCell ⟨w.heap.size, 0, none⟩ (ci a.1.kind)).setCell ⟨w.heap.size, 1, none⟩ (ci a.1.op)).setCell ⟨w.heap.size, 2, none⟩ (ct a.1.mod)).setCell ⟨w.heap.size, 3, none⟩ (ct a.1.name)) (w.heap.size) 4 (ci a.1.vt) (by omega))
      have ff6 : Fr (fun k => w.heap.size ≤ k ∧ k < W4.heap.size) W6 ((((((W6.setCell ⟨w.heap.size, 0, none⟩ (ci a.1.kind)).setCell ⟨w.heap.size, 1, none⟩ (ci a.1.op)).setCell ⟨w.heap.size, 2, none⟩ (ct a.1.mod)).setCell ⟨w.heap.size, 3, none⟩ (ct a.1.name)).setCell ⟨w.heap.size, 4, none⟩ (ci a.1.vt)).setCell ⟨w.heap.size, 5, none⟩ (.int .u64 a.1.vb)) := ff5.same (Fr.set (S := fun k => w.heap.size ≤ k ∧ k < W4.heap.size) (((((W6.setCell ⟨w.heap.size, 0, none⟩ (ci a.1.kind)).setCell ⟨w.heap.size, 1, none⟩ (ci a.1.op)).setCell ⟨w.heap.size, 2, none⟩ (ct a.1.mod)).setCell ⟨w.heap.size, 3, none⟩ (ct a.1.name)).setCell ⟨w.heap.size, 4, none⟩ (ci a.1.vt)) (w.heap.size) 5 (.int .u64 a.1.vb) (by omega))
      have ff7 : Fr (fun k => w.heap.size ≤ k ∧ k < W4.heap.size) W6 (((((((W6.setCell ⟨w.heap.size, 0, none⟩ (ci a.1.kind)).setCell ⟨w.heap.size, 1, none⟩ (ci a.1.op)).setCell ⟨w.heap.size, 2, none⟩ (ct a.1.mod)).setCell ⟨w.heap.size, 3, none⟩ (ct a.1.name)).setCell ⟨w.heap.size, 4, none⟩ (ci a.1.vt)).setCell ⟨w.heap.size, 5, none⟩ (.int .u64 a.1.vb)).setCell ⟨w.heap.size, 6, none⟩ (.slice ao a.2.len cap)) := ff6.same (Fr.set (S := fun k => w.heap.size ≤ k ∧ k < W4.heap.size) ((((((W6.setCell ⟨w.heap.size, 0, none⟩ (ci a.1.kind)).setCell ⟨w.heap.size, 1, none⟩ (ci a.1.op)).setCell ⟨w.heap.size, 2, none⟩ (ct a.1.mod)).setCell ⟨w.heap.size, 3, none⟩ (ct a.1.name)).setCell ⟨w.heap.size, 4, none⟩ (ci a.1.vt)).setCell ⟨w.heap.size, 5, none⟩ (.int .u64 a.1.vb)) (w.heap.size) 6 (.slice ao a.2.len cap) (by omega))
      have ff8 : Fr (fun k => w.heap.size ≤ k ∧ k < W4.heap.size) W6 ((((((((W6.setCell ⟨w.heap.size, 0, none⟩ (ci a.1.kind)).setCell ⟨w.heap.size, 1, none⟩ (ci a.1.op)).setCell ⟨w.heap.size, 2, none⟩ (ct a.1.mod)).setCell ⟨w.heap.size, 3, none⟩ (ct a.1.name)).setCell ⟨w.heap.size, 4, none⟩ (ci a.1.vt)).setCell ⟨w.heap.size, 5, none⟩ (.int .u64 a.1.vb)).setCell ⟨w.heap.size, 6, none⟩ (.slice ao a.2.len cap)).setCell ⟨w.heap.size + 1, 0, none⟩ (ci 0)) := ff7.same (Fr.set (S := fun k => w.heap.size ≤ k ∧ k < W4.heap.size) (((((((W6.setCell ⟨w.heap.size, 0, none⟩ (ci a.1.kind)).setCell ⟨w.heap.size, 1, none⟩ (ci a.1.op)).setCell ⟨w.heap.size, 2, none⟩ (ct a.1.mod)).setCell ⟨w.heap.size, 3, none⟩ (ct a.1.name)).setCell ⟨w.heap.size, 4, none⟩ (ci a.1.vt)).setCell ⟨w.heap.size, 5, none⟩ (.int .u64 a.1.vb)).setCell ⟨w.heap.size, 6, none⟩ (.slice ao a.2.len cap)) (w.heap.size + 1) 0 (ci 0) (by omega))
      have ff9 : Fr (fun k => w.heap.size ≤ k ∧ k < W4.heap.size) W6 (((((((((W6.setCell ⟨w.heap.size, 0, none⟩ (ci a.1.kind)).setCell ⟨w.heap.size, 1, none⟩ (ci a.1.op)).setCell ⟨w.heap.size, 2, none⟩ (ct a.1.mod)).setCell ⟨w.heap.size, 3, none⟩ (ct a.1.name)).setCell ⟨w.heap.size, 4, none⟩ (ci a.1.vt)).setCell ⟨w.heap.size, 5, none⟩ (.int .u64 a.1.vb)).setCell ⟨w.heap.size, 6, none⟩ (.slice ao a.2.len cap)).setCell ⟨w.heap.size + 1, 0, none⟩ (ci 0)).setCell ⟨w.heap.size + 1 + 1, 0, none⟩ (ci 0)) := ff8.same (Fr.set (S := fun k => w.heap.size ≤ k ∧ k < W4.heap.size) ((((((((W6.setCell ⟨w.heap.size, 0, none⟩ (ci a.1.kind)).setCell ⟨w.heap.size, 1, none⟩ (ci a.1.op)).setCell ⟨w.heap.size, 2, none⟩ (ct a.1.mod)).setCell ⟨w.heap.size, 3, none⟩ (ct a.1.name)).setCell ⟨w.heap.size, 4, none⟩ (ci a.1.vt)).setCell ⟨w.heap.size, 5, none⟩ (.int .u64 a.1.vb)).setCell ⟨w.heap.size, 6, none⟩ (.slice ao a.2.len cap)).setCell ⟨w.heap.size + 1, 0, none⟩ (ci 0)) (w.heap.size + 1 + 1) 0 (ci 0) (by omega))
      have ff := ff9
      have hNg := (hN6.step ff (fun k hk => hk.2)).weak (B' := w.heap.size) (by omega)
      refine ⟨_, results_three rfl _ _ _ _ _ _ _ _ rfl rfl rfl (run_loadVar_row _ _ _ _ _ _ _ ka_9 Tryz.underlying27 rfl info_ex) (load_int _ _ _ kb_9) (load_errno _ _ _ kc_9), ?_⟩
      exact ⟨_, rfl, fun w2 hf2 => (by have hNf := hNg w2 hf2; exact ⟨ao, cap, rfl, hNf⟩), fw6.over ff (fun k hk => hk.1)⟩
    | cons t2 r3 =>
      have e1 : (none, t.p, (11 : Int)) = (r, p, c) := Option.some.inj hS2
      cases e1
      refine (mustEnd_no q t t2 r3 0 false _ hp6).mono ?_
      rintro e W6 ⟨rfl, f6⟩
      unfold gP
      have n0 := f6.heap n0H (fun f => f)
      have n1 := f6.heap n1H (fun f => f)
      have n2 := f6.heap n2H (fun f => f)
      have fw7 := fw6.same f6
      clear n0H n1H n2H n3H
      go_wp2_with fail
      refine leaves_cons (f := 26) (args := #[.pointer (some ⟨w.heap.size + 1, 0, none⟩), .pointer (some ⟨w.heap.size + 1 + 1, 0, none⟩)]) (by simp) (by simp [go_sem]) ?_
      refine (catchX (w.heap.size + 1) (w.heap.size + 1 + 1) (by omega) t.p 11 W6 n1 n2).mono ?_
      rintro e u' W9 ⟨rfl, rfl, q1, q2, f9⟩
      have q0 := f9.heap n0 (by omega)
      refine ⟨_, results_three rfl _ _ _ _ _ _ _ _ rfl rfl rfl (run_loadVar_row _ _ _ _ _ _ _ q0 Tryz.underlying27 rfl info_ex) (load_int _ _ _ q1) (load_errno _ _ _ q2), ?_⟩
      exact ⟨_, rfl, fun _ _ => ⟨none, 0, rfl, Nat.le_refl _, by decide, Or.inl rfl⟩, fw7.over f9 (fun k hk => by omega)⟩

end Go.Proofs.YtpkaekokkhecmaaGreatDoor
