/- Texts of items, by the program. -/
import Derived.Test.YtakkiipkmogagaaGreatTyD2
import Derived.Test.YtakkiipkmogagaaGreatShelf3
namespace Go.Proofs.YtakkiipkmogagaaGreat.Ty
open Go.RowKit
set_option linter.unusedSimpArgs false
set_option linter.unusedVariables false


theorem catv (a b c : Bs) (hc : a ++ b = c) (h : c.length ≤ 9223372036854775807) (w : World) : (Op.stringOp .add ⟨a.toArray⟩ ⟨b.toArray⟩).run Tryz.prog w = .ok (.string ⟨c.toArray⟩) w := by
  subst hc
  rw [List.length_append] at h
  rw [run_string_add_sum w _ _ (by simp [ByteArray.size]; omega)]
  exact congrArg (fun x => Result.ok (Value.string x) w) (N.append_str a b)
theorem nameS_len (t : Int) : (nameS t).length ≤ 5 := by unfold nameS; (repeat' split) <;> simp
theorem joinS_len (sep : Bs) : ∀ (l : List Bs) (m : Nat), (∀ x ∈ l, x.length ≤ m) → (joinS sep l).length ≤ l.length * (m + sep.length)
  | [], m, _ => by simp [joinS]
  | [a], m, h => by have := h a (by simp); simp only [joinS, List.length_singleton]; omega
  | a :: b :: r, m, h => by
    have h1 := h a (by simp)
    have h2 := joinS_len sep (b :: r) m (fun x hx => h x (by simp [hx]))
    simp only [joinS, List.length_append, List.length_cons] at *
    rw [Nat.add_mul _ 1]
    omega
theorem paramsS_len (l : List Int) : (paramsS l).length ≤ l.length * 7 := by
  have := joinS_len [44, 32] (l.map nameS) 5 (fun x hx => by obtain ⟨t, _, rfl⟩ := List.mem_map.1 hx; exact nameS_len t)
  simpa [paramsS] using this
theorem info_str : (Tryz.prog.info? 9).map (fun i => (i.zero, i.size, i.bytes)) = some (some (.string ⟨#[]⟩), 1, 16) := by kernel_rfl
theorem add0 (b j : Nat) : (⟨b, 0, none⟩ : Addr).add j = ⟨b, j, none⟩ := by unfold Addr.add; split <;> simp_all
end Go.Proofs.YtakkiipkmogagaaGreat.Ty
