/- The Writer's one function that writes, and numbers written by it. -/
import Derived.Test.YtpjahcncknccdaaGreatWzWiMem
namespace Go.Proofs.YtpjahcncknccdaaGreat.Wi
open Go.RowKit
set_option linter.unusedSimpArgs false
set_option linter.unusedVariables false
set_option maxRecDepth 20000

theorem Sl.src {w : World} {v : Value} {xs : List Value} (h : Sl w v xs) : (v = .slice none 0 0 ∧ xs = []) ∨
    ∃ ad cap, v = .slice (some ad) xs.length cap ∧ xs.length ≤ cap ∧ cap ≤ maxLen ∧ ∀ j u, xs[j]? = some u → w.cell? (ad.add j) = some u := by
  obtain ⟨ao, cap, rfl, h1, h2, h3, h4⟩ := h
  cases ao with
  | none =>
    have h0 := h3 rfl
    have hx : xs = [] := List.eq_nil_of_length_eq_zero (by omega)
    subst hx
    subst h0
    exact Or.inl ⟨rfl, rfl⟩
  | some ad =>
    refine Or.inr ⟨ad, cap, rfl, h1, h2, ?_⟩
    rcases h4 with rfl | ⟨b, off, hb, hc⟩
    · intro j u hu
      simp at hu
    · simp only [Option.some.injEq] at hb
      subst hb
      intro j u hu
      rw [Addr.add_lit]
      exact hc j u hu

theorem info_parts {i : Option TypeInfo} {zero : Value} {size bytes : Nat} (h : i.map (fun i => (i.zero, i.size, i.bytes)) = some (some zero, size, bytes)) :
    ∃ i0, i = some i0 ∧ i0.zero = some zero ∧ i0.size = size ∧ i0.bytes = bytes := by
  cases i with
  | none => cases h
  | some i0 =>
    simp only [Option.map_some, Option.some.injEq, Prod.mk.injEq] at h
    exact ⟨i0, rfl, h.1, h.2.1, h.2.2⟩
theorem Tryz.info_u8 : (Tryz.prog.info? 5).map (fun i => (i.zero, i.size, i.bytes)) = some (some (.int .u8 0), 1, 1) := by kernel_rfl

/-- What a store of the longer slice leaves. -/
theorem put_end {p : Nat} {bs add : List UInt8} {g : Option Nat} {n : Nat} {w w1 : World} {u v' : Value} (hp : w.heap[p]? = some (.cells #[u] 61 (0, 0))) (hg : u.ownBlock = g) (hgp : g ≠ some p)
    (hb : bs.length + (add.length + n) ≤ 140737488355328) (hown : w1.ownsRow 0 5 1 v' (bs.length + add.length) (bc bs ++ bc add)) (hgr : w.grownBy w1 u.ownBlock) (hold : v'.ownBlock = g ∨ ∃ k, v'.ownBlock = some k ∧ w.heap.size ≤ k) :
    WTo (.pointer (some ⟨p, 0, none⟩)) w g (w1.setCell ⟨p, 0, none⟩ v') (bs ++ add) n := by
  have hp1 : w1.heap[p]? = some (.cells #[u] 61 (0, 0)) := (hgr.block p (lt_of_heap hp) (fun e => hgp (by rw [← hg]; exact e.symm))).trans hp
  have hne : v'.ownBlock ≠ some p := by
    rcases hold with h | ⟨k, h, hk⟩
    · rw [h]; exact hgp
    · rw [h]
      intro e
      have : k = p := by simpa using e
      have := lt_of_heap hp
      omega
  have hrow : (w1.setCell ⟨p, 0, none⟩ v').heap[p]? = some (.cells #[v'] 61 (0, 0)) := by
    have := heap_setCell_same w1 p 0 #[u] 61 v' hp1
    simpa using this
  have hwr : Wr (w1.setCell ⟨p, 0, none⟩ v') p (bs ++ add) v'.ownBlock := by
    refine ⟨v', hrow, ⟨by simp [bc], ?_⟩, rfl, hne⟩
    rw [bc_append, List.length_append]
    rcases hown.2 with ⟨h1, h2⟩ | ⟨g2, cap, cur, h1, h2, h3, h4⟩
    · exact Or.inl ⟨h1, h2⟩
    · refine Or.inr ⟨g2, cap, cur, h1, h2, ?_, h4⟩
      rw [heap_setCell_other w1 _ g2 v' (fun e => hne (by rw [h1]; simp [Value.ownBlock]; exact e))]
      exact h3
  have hfr : Fr (fun k => pblk (.pointer (some ⟨p, 0, none⟩)) = some k ∨ g = some k) w (w1.setCell ⟨p, 0, none⟩ v') := by
    refine ((Fr.grown hgr).mono (fun k _ h => Or.inr (by rw [← hg]; exact h.symm))).trans (Fr.setCell w1 ⟨p, 0, none⟩ v') (fun k _ h => Or.inl ?_)
    rw [h]; rfl
  refine ⟨v'.ownBlock, Or.inr ⟨p, rfl, hwr, by rw [List.length_append]; omega⟩, hfr, ?_⟩
  rcases hold with h | ⟨k, h, hk⟩
  · exact Or.inl h
  · exact Or.inr ⟨k, h, hk⟩

set_option maxHeartbeats 400000 in
theorem put_any (pv v : Value) (bs add : List UInt8) (g : Option Nat) (n : Nat) (w : World) (hw : WrO pv w bs g (add.length + n)) (hs : Sl w v (bc add)) :
    Calls Tryz.prog 70 #[pv, v] w fun e w' => e = .returned (.tuple #[]) ∧ WTo pv w g w' (bs ++ add) n := by
  rcases hw with ⟨rfl, rfl⟩ | ⟨p, rfl, ⟨u, hp, hown, hg, hgp⟩, hb⟩
  · go_enter Tryz.func70, Tryz.ntmps70
    go_wp2
    go_end0
    exact ⟨rfl, WTo.refl (Or.inl ⟨rfl, rfl⟩)⟩
  · obtain ⟨i0, hi, hz0, hz1, hz2⟩ := info_parts Tryz.info_u8
    have hcell : w.cell? ⟨p, 0, none⟩ = some u := by rw [cell_of_row w p 0 #[u] 61 (0, 0) hp]; rfl
    have hfroz : w.frozen? ⟨p, 0, none⟩ = false := by simp [World.frozen?, hp]
    obtain ⟨uo, ul, uc, rfl⟩ : ∃ uo ul uc, u = .slice uo ul uc := by
      rcases hown.2 with ⟨rfl, _⟩ | ⟨_, _, _, rfl, _⟩ <;> exact ⟨_, _, _, rfl⟩
    subst hg
    rcases hs.src with ⟨rfl, hx⟩ | ⟨ad, cap, rfl, hl, hm, hnews⟩
    · obtain rfl : add = [] := by simpa [bc] using hx
      go_enter Tryz.func70, Tryz.ntmps70
      go_wp2_with (at_builtin; refine wpList_append_own_none rfl _ _ 25 rfl 0 5 i0 1 Tryz.underlying25 hi _ bs.length (bc bs) rfl hown rfl ?_)
      go_end0
      refine ⟨rfl, put_end hp rfl hgp hb ?_ ⟨rfl, rfl, rfl, Nat.le_refl _, fun _ _ _ => rfl⟩ (Or.inl rfl)⟩
      simpa [bc] using hown
    · have hout : ∀ v' w1, w1.ownsRow 0 5 1 v' (bs.length + add.length) (bc bs ++ bc add) → w.grownBy w1 (Value.slice uo ul uc).ownBlock → w1.cell? ⟨p, 0, none⟩ = some (.slice uo ul uc) ∧ w1.frozen? ⟨p, 0, none⟩ = false ∧ ∃ a b c, v' = .slice a b c := by
        intro v' w1 h2 hgr
        have hp1 : w1.heap[p]? = some (.cells #[.slice uo ul uc] 61 (0, 0)) := (hgr.block p (lt_of_heap hp) (fun e => hgp e.symm)).trans hp
        refine ⟨by rw [cell_of_row w1 p 0 _ 61 (0, 0) hp1]; rfl, by simp [World.frozen?, hp1], ?_⟩
        rcases h2.2 with ⟨rfl, _⟩ | ⟨_, _, _, rfl, _⟩ <;> exact ⟨_, _, _, rfl⟩
      rw [bc_length] at hl ⊢
      go_enter Tryz.func70, Tryz.ntmps70
      go_wp2_with (at_builtin; refine wpList_append_own_at _ rfl _ _ 25 rfl 0 5 i0 (.int .u8 0) 1 1 Tryz.underlying25 hi hz0 hz1 hz2 rfl (by decide) _ bs.length (bc bs) rfl hown ad add.length _ (bc add) rfl ?q1 hnews (bc_one add) ?q2 ?q3 (Nat.zero_le _) ?_)
      case q1 => simp
      case q2 => unfold maxLen; omega
      case q3 => omega
      intro v' w1 h2 hgr hne hwh
      obtain ⟨hc1, hf1, a', b', c', rfl⟩ := hout v' w1 h2 hgr
      go_wp2
      go_end0
      refine ⟨rfl, put_end hp rfl hgp hb h2 hgr ?_⟩
      rcases hwh with h | h
      · exact Or.inl h
      · exact Or.inr ⟨_, h, Nat.le_refl _⟩
end Go.Proofs.YtpjahcncknccdaaGreat.Wi
