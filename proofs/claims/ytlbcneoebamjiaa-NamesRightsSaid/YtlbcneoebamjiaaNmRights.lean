/- NamesRights walked. -/
import Derived.Test.YtlbcneoebamjiaaNmLive
import Derived.Test.YtlbcneoebamjiaaNmRight2
namespace Go.Proofs.Ytlbcneoebamjiaa
open Go.RowKit Go.Sort
set_option linter.unusedSimpArgs false
set_option linter.unusedVariables false

theorem Tn.holds {w : World} {B b off n cap : Nat} {l : List Str} (h : Tn w B (.slice (some ⟨b, off, none⟩) n cap) l) (hne : l ≠ []) : Holds encStr w b off l.toArray := by
  obtain ⟨ao, cap', e, _, _, _, h4⟩ := h
  simp only [Value.slice.injEq] at e
  obtain ⟨rfl, _, _⟩ := e
  rcases h4 with h4 | ⟨b', off', e, _, _, hH⟩
  · exact absurd h4 hne
  · simp only [Option.some.injEq, Addr.mk.injEq, and_true] at e
    obtain ⟨rfl, rfl⟩ := e
    exact hH
/-- The words' own row. -/
def WO : Obj := .cells (wordsL.map encStr).toArray 9
theorem texts_words (w : World) : Calls Try.prog 10 #[.slice (some ⟨w.heap.size, 0, none⟩) 23 23, .slice (some ⟨w.heap.size + 1, 0, none⟩) 23 23] ((w.alloc WO).alloc WO) fun e w' =>
      e = .returned (.bool true) ∧ Fr (fun _ => False) w w' ∧ (∃ x, w'.cell? ⟨w.heap.size, 0, none⟩ = some (encStr x)) ∧ w'.frozen? ⟨w.heap.size, 0, none⟩ = false := by
  have t1 : Tn (w.alloc WO) w.heap.size (.slice (some ⟨w.heap.size, 0, none⟩) 23 23) wordsL := Tn.words w
  have t2 := t1.later (Fr.alloc (fun _ => False) _ WO)
  have t3 : Tn ((w.alloc WO).alloc WO) (w.heap.size + 1) (.slice (some ⟨w.heap.size + 1, 0, none⟩) 23 23) wordsL := by
    have h : Tn ((w.alloc WO).alloc WO) (w.alloc WO).heap.size (.slice (some ⟨(w.alloc WO).heap.size, 0, none⟩) 23 23) wordsL := Tn.words (w.alloc WO)
    rw [show (w.alloc WO).heap.size = w.heap.size + 1 by simp] at h
    exact h
  have hne : wordsL ≠ [] := by unfold wordsL; simp
  have h0 : 0 < wordsL.toArray.size := by unfold wordsL; simp
  generalize WO = o at *
  generalize wordsL = L at *
  refine (texts_is _ _ L L _ t2.tl t3.tl true (by simp)).mono ?_
  rintro e w' ⟨rfl, hf⟩
  have hH := (t2.later hf).holds hne 0 h0
  exact ⟨rfl, ((Fr.alloc _ _ _).same (Fr.alloc _ _ _)).same hf, ⟨_, hH.1⟩, hH.2⟩
theorem words_o (w : World) :
    Calls Try.prog 9 #[] w fun e w' => e = .returned (.slice (some ⟨w.heap.size, 0, none⟩) 23 23) ∧ w' = w.alloc WO := words_any w
theorem rwords_o (w : World) :
    Calls Try.prog 11 #[] w fun e w' => e = .returned (.slice (some ⟨w.heap.size, 0, none⟩) 23 23) ∧ w' = w.alloc WO := rwords_any w

set_option maxHeartbeats 1000000 in
set_option maxRecDepth 20000 in
theorem namesRights.walk (s : Str) (w : World) (hl0 : s.length ≤ 140737488351232) :
    Calls Try.prog 3 #[.string ⟨s.toArray⟩] w fun e w' => e = .returned (.bool true) ∧ Fr (fun _ => False) w w' := by
  have hl : s.length ≤ 9223372036854775807 := by omega
  have kr := right_any s _ rfl hl
  have kq := rright_any s _ rfl hl
  have kv := reserved_any s _ rfl
  have ku := rreserved_any s _ rfl
  generalize rightS s = r at kr kq
  generalize decide (s ∈ wordsL) = b at kv ku
  have kt := texts_words
  have kw := words_o
  have kx := rwords_o
  generalize WO = WL at kt kw kx
  have kl := live_any
  go_enter Try.func3, Try.ntmps3
  go_wp2_with fail
  refine (kw _).mono ?_
  rintro e w1 ⟨rfl, rfl⟩
  go_wp2_with fail
  refine (kx _).mono ?_
  rintro e w2 ⟨rfl, rfl⟩
  go_wp2_with fail
  refine (kt _).mono ?_
  rintro e w3 ⟨rfl, hf3, ⟨x3, c3⟩, f3⟩
  go_wp2_with fail
  refine (kw _).mono ?_
  rintro e w4 ⟨rfl, rfl⟩
  go_wp2_with fail
  refine (kx _).mono ?_
  rintro e w5 ⟨rfl, rfl⟩
  go_wp2_with fail
  have kt2 := kt (w3.setCell ⟨w.heap.size, 0, none⟩ (.string ⟨#[115, 112, 111, 105, 108, 116]⟩))
  simp only [World.size_setCell] at kt2
  refine kt2.mono ?_
  rintro e w6 ⟨rfl, hf6, _, _⟩
  clear kt2 kt
  go_wp2_with (first
    | (go_at_call 12; refine (kr _).mono ?_; rintro e w7 ⟨rfl, rfl⟩)
    | (go_at_call 13; refine (kq _).mono ?_; rintro e w8 ⟨rfl, hf8⟩)
    | (go_at_call 14; refine (kv _).mono ?_; rintro e w9 ⟨rfl, rfl⟩)
    | (go_at_call 15; refine (ku _).mono ?_; rintro e w10 ⟨rfl, hf10⟩)
    | (go_at_call 16; refine (kl _).mono ?_; rintro e w11 ⟨rfl, hf11⟩))
  go_ret
  refine ⟨by simp, ?_⟩
  have f4 : Fr (fun _ => False) w (w3.setCell ⟨w.heap.size, 0, none⟩ (.string ⟨#[115, 112, 111, 105, 108, 116]⟩)) := hf3.over (Fr.setCell _ _ _) (fun k hk => by rw [hk]; exact Nat.le_refl _)
  exact (((f4.same hf6).same hf8).same hf10).same hf11
end Go.Proofs.Ytlbcneoebamjiaa
