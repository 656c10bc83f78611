/- Minus and Both. -/
import Derived.Test.YtlbcneoebamjiaaNmBin
namespace Go.Proofs.Ytlbcneoebamjiaa
open Go.RowKit Go.Sort
set_option linter.unusedSimpArgs false
set_option linter.unusedVariables false

theorem Fr.of_below {w W : World} (h : Below w.heap.size w W) : Fr (fun _ => False) w W := ⟨h.os, h.output, h.size, fun k hk _ => h.block k hk⟩

/-- The function value that pick makes: what it says of x. -/
theorem drop_gives (B1 B0 : Nat) (v : Value) (l : List Str) (sh : Bool) (x : Str) (W : World) (c1 : W.cell? ⟨B1, 0, none⟩ = some v) (c0 : W.cell? ⟨B0, 0, none⟩ = some (.bool sh)) (hv : Tl W v l) (hss : SS l) (hl : l.length < 4611686018427387904) :
    FnGives Try.prog 50 #[.pointer (some ⟨B1, 0, none⟩), .pointer (some ⟨B0, 0, none⟩)] #[encStr x] (.bool (decide (x ∈ l) != sh)) W := by
  have kb := bin_any v l x W hv hss hl _ rfl
  show Calls Try.prog 50 #[.string ⟨x.toArray⟩, .pointer (some ⟨B1, 0, none⟩), .pointer (some ⟨B0, 0, none⟩)] W _
  obtain ⟨ao, cap, rfl, h1, h2, h3, h4⟩ := hv
  generalize decide (x ∈ l) = r at kb ⊢
  obtain ⟨n, hn⟩ : ∃ n, l.length = n := ⟨_, rfl⟩
  rw [hn] at kb c1 h1
  clear h3 h4 hss hl hn
  go_enter Try.func50, Try.ntmps50
  go_wp2_with (go_at_call 51; refine kb.mono ?_; rintro e w1 ⟨⟨i, rfl⟩, rfl⟩)
  go_ret
  exact ⟨rfl, 0, rfl⟩

theorem delete_none (ao : Option Addr) (cap : Nat) (fv : Value) (w : World) :
    Calls Try.prog 52 #[.slice ao 0 cap, fv] w fun e w' => e = .returned (.slice ao 0 cap) ∧ w' = w := by
  have ki : Calls Try.prog 59 #[.slice ao 0 cap, fv] w fun e w' => e = .returned (.int .i64 (-1)) ∧ w' = w := by
    go_enter Try.func59, Try.ntmps59
    go_wp2
    refine wp_loop_rounds 1 ?_
    rw [rounds_succ]
    go_wp2
    go_ret
    exact ⟨rfl, rfl⟩
  go_enter Try.func52, Try.ntmps52
  go_wp2_with (go_at_call 59; refine ki.mono ?_; rintro e w1 ⟨rfl, rfl⟩)
  go_ret
  exact ⟨rfl, rfl⟩

theorem delete_any (v : Value) (l : List Str) (B : Nat) (p : Str → Bool) (lb : Array Value) (w : World) (h : Tn w B v l) (hl : l.length < 4611686018427387904)
    (hp : ∀ W, Fr (fun k => B ≤ k) w W → ∀ x, FnGives Try.prog 50 lb #[encStr x] (.bool (p x)) W) :
    Calls Try.prog 52 #[v, .func (.func 50) #[] lb] w fun e w' => ∃ v', e = .returned v' ∧ Tn w' B v' (l.filter fun x => !p x) ∧ Fr (fun k => B ≤ k) w w' := by
  obtain ⟨ao, cap, rfl, h1, h2, h3, h4⟩ := h
  by_cases h0 : l = []
  · subst h0
    refine (delete_none ao cap _ w).mono ?_
    rintro e w' ⟨rfl, rfl⟩
    exact ⟨_, rfl, ⟨ao, cap, rfl, h1, h2, h3, Or.inl rfl⟩, Fr.refl _ _⟩
  · rcases h4 with h4 | ⟨b, off, rfl, hB, hb, hH⟩
    · exact absurd h4 h0
    have eg : ∀ args w, (callFunc 50 args).run Try.prog w = .ok (.enter 50 args) w := enters_of Try.func50 (by kernel_rfl) rfl
    have hcon := Try.slices_DeleteFunc encStr (fun _ => rfl) p 50 lb eg [] Try.zeroValue9 b off cap l.toArray w
      (fun W x hbl => hp W ((Fr.of_below hbl).mono fun _ _ f => f.elim) x)
      (fun n os dk x _ => hp _ (Fr.row.mono fun k _ e => by rw [e]; exact hB) x) hH (by simp; omega) (by simpa using h1)
    refine hcon.mono ?_
    rintro e w' ⟨rfl, n, rfl⟩
    simp only [List.toList_toArray] at *
    have hcl : (l.filter fun x => !p x).length ≤ l.length := List.length_filter_le _ _
    have hs : ((l.filter fun x => !p x) ++ List.replicate (l.toArray.size - (l.filter fun x => !p x).length) []).toArray.size = l.toArray.size := by simp; omega
    refine ⟨_, rfl, ⟨_, cap, rfl, by omega, h2, h3, Or.inr ⟨b, off, rfl, hB, by simpa using hb, fun j hj => ?_⟩⟩, Fr.row0.mono fun k _ e => by rw [e]; exact hB⟩
    have hj' : j < (l.filter fun x => !p x).length := by simpa using hj
    have := holds_putRow encStr _ b off l.toArray _ (holds_ahead encStr w n b off _ hH) hs j (by simp; omega)
    rw [this.1, this.2]
    refine ⟨?_, rfl⟩
    rw [getElem!_pos (l.filter fun x => !p x).toArray j hj, getElem!_pos _ j (by simp; omega)]
    simp [List.getElem_append_left hj']
end Go.Proofs.Ytlbcneoebamjiaa
