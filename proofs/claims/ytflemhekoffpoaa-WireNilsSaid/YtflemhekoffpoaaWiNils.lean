/- WireNils walked. -/
import Derived.Test.YtflemhekoffpoaaWiAsk
namespace Go.Proofs.Ytflemhekoffpoaa
open Go.RowKit
set_option linter.unusedSimpArgs false
set_option linter.unusedVariables false

theorem write_nil (o : OpD) (lv tv : Value) (w : World) (hop : OpIs w (opv o.k o.N o.s lv tv o.mo o.lo) o lv tv) :
    Calls Try.prog 8 #[.pointer none, opv o.k o.N o.s lv tv o.mo o.lo] w fun e w' => e = .returned (.tuple #[]) ∧ Fr (fun _ => False) w w' := by
  refine (write_any (.pointer none) _ o lv tv [] none 0 w (Or.inl ⟨rfl, rfl⟩) hop (Or.inr fun k _ h => by rcases h with h | h <;> cases h) (Or.inr fun k _ h => by rcases h with h | h <;> cases h)).mono ?_
  rintro e w' ⟨rfl, g', _, hf, _⟩
  exact ⟨rfl, hf.mono (fun k _ h => by rcases h with h | h <;> cases h)⟩

set_option maxRecDepth 20000 in
set_option maxHeartbeats 2000000 in
theorem nils_any (k : Int) (N : Nat) (s : List UInt8) (l : List Int) (t : List (List UInt8)) (mo lo : Int) (lv tv : Value) (W : World) (hop : Hidden (OpIs W (opv k N s lv tv mo lo) ⟨k, N, s, l, t, mo, lo⟩ lv tv)) (hl : ∃ a b c, lv = .slice a b c) (ht : ∃ a b c, tv = .slice a b c) :
    Calls Try.prog 7 #[opv k N s lv tv mo lo] W fun e w' => e = .returned (.bool true) ∧ Fr (fun _ => False) W w' := by
  have kw := write_nil ⟨k, N, s, l, t, mo, lo⟩ lv tv (W.alloc (opo k N s lv tv mo lo)) (OpIs.keep (show OpIs W _ _ _ _ from hop) (Fr.alloc (fun _ => False) W _) (Or.inr fun _ _ f => f) (Or.inr fun _ _ f => f))
  have ka : Hidden (∀ q w, w.cell? ⟨q, 2, none⟩ = some (.int .i64 2) → Calls Try.prog 15 #[.pointer none, rp q, opv k N s lv tv mo lo] w fun e w' => e = .returned (.bool true) ∧ Fr (fun _ => False) w w') := fun q w hq => asked_nil q lv tv k N s mo lo w hq hl ht
  have bx : Hidden (∀ w1, Fr (fun _ => False) (W.alloc (opo k N s lv tv mo lo)) w1 → _) := fun w1 hf => box_cells hf (fun f => f)
  obtain ⟨a1, b1, c1, rfl⟩ := hl
  obtain ⟨a2, b2, c2, rfl⟩ := ht
  have kl := fun w => alive_any w
  have kd := fun w => done_err (.pointer none) 2 w (by decide) (err_nil w)
  clear hop
  unfold opv opo at *
  go_enter Try.func7, Try.ntmps7
  go_wp2_with (first
    | (go_at_call 8; refine kw.mono ?_; rintro e w1 ⟨rfl, hf1⟩)
    | (go_at_call 10; refine (len_nil _).mono ?_; rintro e w2 ⟨rfl, rfl⟩)
    | (go_at_call 11; refine (bytes_nil _).mono ?_; rintro e w3 ⟨rfl, rfl⟩; obtain ⟨d0, d1, d2, d3, d4, d5, d6⟩ := bx _ (hf1.same (Fr.alloc _ w1 (.cells #[.slice none 0 0, .int .i64 0, .int .i64 2] 46))))
    | (go_at_call 15; refine (ka w1.heap.size _ (by simp)).mono ?_; rintro e w4 ⟨rfl, hf4⟩)
    | (go_at_call 18; refine (err_nil _).mono ?_; rintro e w5 ⟨rfl, rfl⟩)
    | (go_at_call 19; refine (kd _).mono ?_; rintro e w6 ⟨rfl, rfl⟩)
    | (go_at_call 16; refine (left_nil _).mono ?_; rintro e w7 ⟨rfl, rfl⟩)
    | (go_at_call 12; refine (kl _).mono ?_; rintro e w8 ⟨rfl, hf8⟩))
  go_ret
  exact ⟨rfl, (Fr.alloc _ W _).same (hf1.same ((Fr.alloc _ w1 _).same (hf4.same hf8)))⟩

theorem wireNils.walk (v : Value) (o : OpD) (lv tv : Value) (W : World) (h : OpIs W v o lv tv) :
    Calls Try.prog 7 #[v] W fun e w' => e = .returned (.bool true) ∧ Fr (fun _ => False) W w' := by
  obtain ⟨rfl, h2⟩ := id h
  obtain ⟨k, N, s, l, t, mo, lo⟩ := o
  exact nils_any k N s l t mo lo lv tv W h h2.1.shape h2.2.1.shape
end Go.Proofs.Ytflemhekoffpoaa
