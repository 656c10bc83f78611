/- The bounds of the law of the measures. -/
import Derived.Test.YtfkccanjdlajlaaGreatDoorTrUm
import Derived.Test.YtfkccanjdlajlaaGreatDoorTrIn
namespace Go.Proofs.YtfkccanjdlajlaaGreatDoor
open Go.RowKit Te
set_option linter.unusedSimpArgs false
set_option linter.unusedVariables false

theorem ex_bk : ∀ k : Exs, k.size + 1 ≤ In.bkX k
  | .nil => Nat.le_refl _
  | .cons h k r => by have := ex_bk k; have := ex_bk r; simp only [Exs.size, In.bkX]; omega
theorem st_bk : ∀ k : Sts, k.size + 1 ≤ In.bkS k
  | .nil => Nat.le_refl _
  | .cons h e b l r => by have := ex_bk e; have := st_bk b; have := st_bk l; have := st_bk r; simp only [Sts.size, In.bkS]; omega
theorem us_len : ∀ k : Exs, (usE k).length ≤ k.size
  | .nil => Nat.le_refl _
  | .cons h k r => by
    have := us_len k
    have := us_len r
    simp only [usE, Exs.size, List.length_append]
    split <;> simp <;> omega
theorem us_bk : ∀ (k : Exs), ∀ x ∈ usE k, x.length ≤ In.bkX k
  | .nil, x, hx => by simp [usE] at hx
  | .cons h k r, x, hx => by
    simp only [usE, List.mem_append] at hx
    simp only [In.bkX]
    rcases hx with (hx | hx) | hx
    · split at hx
      · simp at hx; subst hx; omega
      · simp at hx
    · have := us_bk k x hx; omega
    · have := us_bk r x hx; omega
theorem uss_len : ∀ k : Sts, (usS k).length ≤ k.size
  | .nil => Nat.le_refl _
  | .cons h e b l r => by
    have := us_len e
    have := uss_len b
    have := uss_len l
    have := uss_len r
    simp only [usS, Sts.size, List.length_append]
    omega
theorem uss_bk : ∀ (k : Sts), ∀ x ∈ usS k, x.length ≤ In.bkS k
  | .nil, x, hx => by simp [usS] at hx
  | .cons h e b l r, x, hx => by
    simp only [usS, List.mem_append] at hx
    simp only [In.bkS]
    rcases hx with ((hx | hx) | hx) | hx
    · have := us_bk e x hx; omega
    · have := uss_bk b x hx; omega
    · have := uss_bk l x hx; omega
    · have := uss_bk r x hx; omega
theorem sum_len {α : Type} (f : α → Nat) : ∀ l : List α, l.length ≤ (l.map fun p => f p + 1).sum
  | [] => Nat.le_refl _
  | x :: l => by have := sum_len f l; simp only [List.length_cons, List.map_cons, List.sum_cons]; omega
theorem nd_bk (d : De) : ndD d ≤ In.bkD d := by
  have := ex_bk d.e
  have := st_bk d.body
  have := sum_len (fun p : Pa => p.name.length) d.params
  unfold ndD In.bkD
  omega
theorem ndM_bk : ∀ l : List De, ndM l ≤ (l.map In.bkD).sum
  | [] => Nat.le_refl _
  | d :: l => by have := ndM_bk l; have := nd_bk d; rw [ndM_cons]; simp only [List.map_cons, List.sum_cons]; omega
theorem usM_len : ∀ l : List De, (usM l).length ≤ (l.map In.bkD).sum
  | [] => Nat.le_refl _
  | d :: l => by
    have := usM_len l
    have := us_len d.e
    have := uss_len d.body
    have := ex_bk d.e
    have := st_bk d.body
    rw [usM_cons]
    simp only [List.map_cons, List.sum_cons, List.length_append, In.bkD]
    omega
theorem usM_bk : ∀ (l : List De), ∀ x ∈ usM l, x.length ≤ (l.map In.bkD).sum
  | [], x, hx => by simp [usM] at hx
  | d :: l, x, hx => by
    rw [usM_cons] at hx
    simp only [List.mem_append] at hx
    simp only [List.map_cons, List.sum_cons, In.bkD]
    rcases hx with (hx | hx) | hx
    · have := us_bk d.e x hx; omega
    · have := uss_bk d.body x hx; omega
    · have := usM_bk l x hx; omega
theorem treeMeasures.walk (v : Value) (m : Mo) (w : World) (hv : MoI w m v) (om : OkM m) (hl : m.name.length + (m.imports.map fun p => p.length + 1).sum + (m.decls.map In.bkD).sum + 1 ≤ 1048576) (ht : F.Tab w) :
    Calls Tryz.prog 4 #[v] w fun e w' => e = .returned (.bool true) ∧ Fr (fun _ => False) w w' := by
  have h1 := ndM_bk m.decls
  have h2 := usM_len m.decls
  refine treeMeasures.core v m w hv (by omega) ⟨?_, by simp, fun x hx => ?_⟩ ht
  · simp only [List.length_nil]; omega
  · have := usM_bk m.decls x hx; omega
end Go.Proofs.YtfkccanjdlajlaaGreatDoor
