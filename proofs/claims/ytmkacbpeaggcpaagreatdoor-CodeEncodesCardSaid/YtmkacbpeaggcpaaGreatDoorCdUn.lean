/- CodeUnlike, walked. -/
import Derived.Test.YtmkacbpeaggcpaaGreatDoorCdLAll
import Derived.Test.YtmkacbpeaggcpaaGreatDoorCdU
import Derived.Test.YtmkacbpeaggcpaaGreatDoorCdIn
namespace Go.Proofs.YtmkacbpeaggcpaaGreatDoor.Cd
open Go.RowKit Ty
set_option linter.unusedSimpArgs false
set_option linter.unusedVariables false

theorem textS_len (b : Int) (hb : U64 b) : (F.textS b).length ≤ 4000 := by
  have hp := F.parts_bounds b ⟨hb.1, hb.2⟩
  have := F.sizeL_len (F.Fl.classS b) (F.partM b).toNat (F.partE b) hp.1 hp.2.1 hp.2.2
  unfold F.textS
  rw [List.length_append]
  split <;> simp <;> omega
theorem showS_len (t b : Int) (hb : U64 b) : (showS t b).length ≤ 4000 := by
  unfold showS
  split
  · exact Nat.le_trans (D.itoa_len _ (wrap_I b)).1 (by omega)
  · split
    · exact textS_len b hb
    · split
      · unfold truthS; split <;> simp
      · simp
theorem operS_len (i : In) (hb : U64 i.b) (hn : Ty.I64 i.n) : (operS i).length ≤ 8000000 := by
  unfold operS
  split
  · have := showS_len i.t i.b hb; omega
  split
  · unfold unW; repeat' split
    all_goals simp
  split
  · unfold binW
    by_cases c1 : i.n = 1
    · rw [if_pos c1]; simp
    rw [if_neg c1]
    repeat' split
    all_goals simp
  · have := (D.itoa_len i.n hn).1; omega
theorem enc_one (g : Nat) (i : In) (hb : U64 i.b) (w : World) (h : w.heap[g]? = some (.cells #[ci i.op, ci i.n, ci i.t, .int .u64 i.b] 66 (0, 0))) :
    Calls Tryz.prog 7 #[.slice (some ⟨g, 0, none⟩) 1 1] w fun e w' => ∃ ao cap, e = .returned (.tuple #[.slice ao (encA [i]).2.length cap, ci (encA [i]).1]) ∧ BL w' ao cap (encA [i]).2 ∧ Fr (fun _ => False) w w' := by
  have hil : IL w (some ⟨g, 0, none⟩) 1 [i] := IL_row (l := [i]) h (by simp) (by simp [maxLen])
  refine (encode_any (some ⟨g, 0, none⟩) 1 [i] w hil (fun x hx => by simp at hx; subst hx; exact hb)).mono ?_
  rintro e w' ⟨v, rfl, hbw, f⟩
  obtain ⟨ao, cap, rfl, hbl⟩ := hbw.bl
  exact ⟨ao, cap, rfl, hbl, f⟩
theorem encA_right {i : In} (h : rightS i = true) : encA [i] = (0, encI i) := by
  unfold encA
  rw [if_neg (by simp), if_pos (by simp [h])]
  simp [encS]
theorem encA_wrong {i : In} (h : rightS i = false) : encA [i] = (51, []) := by
  unfold encA
  rw [if_neg (by simp), if_neg (by simp [h])]
end Go.Proofs.YtmkacbpeaggcpaaGreatDoor.Cd
namespace Go.Proofs.YtmkacbpeaggcpaaGreatDoor.codeUnlike
open Go.RowKit Ty Cd
end Go.Proofs.YtmkacbpeaggcpaaGreatDoor.codeUnlike
