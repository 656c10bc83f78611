/- Lists written; how many bytes; all of them in new memory. -/
import Derived.Test.YtpjahcncknccdaaGreatWzWiW
namespace Go.Proofs.YtpjahcncknccdaaGreat.Wi
open Go.RowKit
set_option linter.unusedSimpArgs false
set_option linter.unusedVariables false
set_option maxRecDepth 20000

theorem WrO.lt {pv : Value} {w : World} {bs : List UInt8} {g : Option Nat} {n : Nat} (h : WrO pv w bs g n) : ∀ k, pblk pv = some k ∨ g = some k → k < w.heap.size := by
  intro k hk
  rcases h with ⟨rfl, rfl⟩ | ⟨p, rfl, ⟨v, h1, h2, h3, h4⟩, hb⟩
  · rcases hk with hk | hk <;> cases hk
  · rcases hk with hk | hk
    · have : p = k := by simpa [pblk] using hk
      subst this
      exact lt_of_heap h1
    · exact (h2.lt k (h3.trans hk)).2
theorem WrO.less {pv : Value} {w : World} {bs : List UInt8} {g : Option Nat} {n m : Nat} (h : WrO pv w bs g n) (hm : m ≤ n) : WrO pv w bs g m := by
  rcases h with h | ⟨p, rfl, hw, hb⟩
  · exact Or.inl h
  · exact Or.inr ⟨p, rfl, hw, by omega⟩

/-- Lists, as they are written. -/
def intsS (l : List Int) : List UInt8 := i31 (l.length : Int) ++ (l.map i31).flatten
theorem take_next {α : Type} {l : List α} {j : Nat} {x : α} (h : l[j]? = some x) : l.take (j + 1) = l.take j ++ [x] := by
  rw [List.take_add_one, h]; rfl
theorem drop_now {α : Type} {l : List α} {j : Nat} {x : α} (h : l[j]? = some x) : l.drop j = x :: l.drop (j + 1) := by
  obtain ⟨hj, hx⟩ := List.getElem?_eq_some_iff.1 h
  rw [← hx]
  exact List.drop_eq_getElem_cons hj

/-- Behind one more of a list. -/
theorem list_step {α : Type} {f : α → List UInt8} {l : List α} {j : Nat} {x : α} {pv : Value} {w wr w' : World} {g g1 : Option Nat} {bs : List UInt8} {n : Nat} (hx : l[j]? = some x)
    (hf : Fr (fun k => pblk pv = some k ∨ g = some k) w wr) (hg : g1 = g ∨ ∃ k, g1 = some k ∧ w.heap.size ≤ k)
    (h : WTo pv wr g1 w' (bs ++ ((l.take j).map f).flatten ++ f x) (((l.drop (j + 1)).map f).flatten.length + n)) :
    WTo pv w g w' (bs ++ ((l.take (j + 1)).map f).flatten) (((l.drop (j + 1)).map f).flatten.length + n) := by
  rw [take_next hx, List.map_append, List.flatten_append, ← List.append_assoc]
  simpa using WTo.trans hf hg h

set_option maxHeartbeats 400000 in
theorem ints_any (pv v : Value) (l : List Int) (len : Nat) (hlen : Hidden (l.length = len)) (bs : List UInt8) (g : Option Nat) (n : Nat) (w : World) (hll : len ≤ 9223372036854775807) (hw : WrO pv w bs g (4 + ((l.map i31).flatten.length + n))) (hs : Sl w v (l.map fun x => .int .i64 x)) (ha : Apart (l.map fun x => .int .i64 x) v pv g) :
    Calls Tryz.prog 41 #[pv, v] w fun e w' => e = .returned (.tuple #[]) ∧ WTo pv w g w' (bs ++ intsS l) n := by
  have ki := int_any pv (len : Int) bs g _ w hw
  have hsH : Hidden (Sl w v (l.map fun x => .int .i64 x) ∧ Apart (l.map fun x => .int .i64 x) v pv g) := ⟨hs, ha⟩
  obtain ⟨ao, cap, rfl, h1, h2, h3, h4⟩ := hs
  have hml : (l.map fun x => Value.int .i64 x).length = len := by rw [List.length_map]; exact hlen
  rw [hml] at *
  clear hml h1 h2 h3 h4 ha hw
  go_enter Tryz.func41, Tryz.ntmps41
  go_wp2_with (go_at_call 17; refine ki.mono ?_; rintro e w1 ⟨rfl, hto⟩)
  go_loopg [12] len (fun k iv wr => ∃ j : Nat, iv = .int .i64 (j : Int) ∧ j ≤ len ∧ k = len - j ∧ WTo pv w g wr (bs ++ i31 (len : Int) ++ ((l.take j).map i31).flatten) (((l.drop j).map i31).flatten.length + n))
  case atStart => exact ⟨0, rfl, by omega, rfl, by simpa using hto⟩
  case round =>
    obtain ⟨j, rfl, hj, hk, hto2⟩ := hrel
    have hkH : Hidden (gk = len - j) := hk
    clear hk
    have hlen' : l.length = len := hlen
    by_cases hjl : j < len
    · obtain ⟨x, hx⟩ : ∃ x, l[j]? = some x := ⟨l[j], List.getElem?_eq_getElem (by omega)⟩
      obtain ⟨hs, ha⟩ := hsH
      obtain ⟨g1, ho, hf, hg⟩ := hto2
      obtain ⟨ao', cap', e1, h1, h2, h3, h4⟩ := hs.keepA hf ha
      cases e1
      rcases h4 with h4 | ⟨b, off, rfl, hc⟩
      · have : l = [] := by simpa using h4
        subst this
        simp at hx
      · have hcj : wr.cell? ⟨b, off + j, none⟩ = some (.int .i64 x) := hc j _ (by rw [List.getElem?_map, hx]; rfl)
        have kx := int_any pv x (bs ++ i31 (len : Int) ++ ((l.take j).map i31).flatten) g1 (((l.drop (j + 1)).map i31).flatten.length + n) wr (by
          rw [drop_now hx] at ho
          simpa [Nat.add_assoc] using ho)
        have hfin : Hidden (∀ w', WTo pv wr g1 w' (bs ++ i31 (len : Int) ++ ((l.take j).map i31).flatten ++ i31 x) (((l.drop (j + 1)).map i31).flatten.length + n) → WTo pv w g w' (bs ++ i31 (len : Int) ++ ((l.take (j + 1)).map i31).flatten) (((l.drop (j + 1)).map i31).flatten.length + n)) := fun w' h => list_step hx hf hg h
        clear hx hs ha ho hf hg h1 h2 h3 hc hlen' ki hto hlen
        go_wp2_with (go_at_call 17; refine kx.mono ?_; rintro e w2 ⟨rfl, hto3⟩)
        go_roundg (len - (j + 1))
        case measure =>
          have : gk = len - j := hkH
          omega
        case rel => exact ⟨j + 1, by go_num, by omega, rfl, hfin _ hto3⟩
    · obtain rfl : j = len := by omega
      have hfin : Hidden (WTo pv w g wr (bs ++ intsS l) n) := by
        rw [← hlen', List.take_length, List.drop_length] at hto2
        show WTo pv w g wr (bs ++ intsS l) n
        simpa [intsS] using hto2
      clear hto2 hto ki hlen' hsH
      go_wp2
      go_end0
      exact ⟨rfl, hfin⟩
theorem Wr.value {w : World} {p : Nat} {bs : List UInt8} {g : Option Nat} (h : Wr w p bs g) : ∃ ao cap, w.cell? ⟨p, 0, none⟩ = some (.slice ao bs.length cap) ∧ Sl w (.slice ao bs.length cap) (bc bs) ∧ (Value.slice ao bs.length cap).ownBlock = g ∧ cap ≤ maxLen ∧ bs.length ≤ cap := by
  obtain ⟨v, h1, h2, h3, h4⟩ := h
  obtain ⟨ao, cap, e, a1, a2, a3, a4⟩ := (Sl.of_own h2).1
  rw [bc_length] at e
  subst e
  refine ⟨ao, cap, by rw [cell_of_row w p 0 _ 61 (0, 0) h1]; rfl, ⟨ao, cap, by rw [bc_length], a1, a2, a3, a4⟩, h3, a2, by simpa using a1⟩

/-- A new slice of the call's own, with those bytes. -/
def Copied (w w' : World) (v : Value) (xs : List Value) : Prop := w'.ownsRow w.heap.size 5 1 v xs.length xs ∧ Fr (fun _ => False) w w'

theorem clone_nil (w : World) :
    Calls Tryz.prog 42 #[.slice none 0 0] w fun e w' => e = .returned (.slice none 0 0) ∧ w = w' := by
  have he : ∀ w : World, (binOp .eql 25 (.slice none 0 0) (.slice none 0 0)).run Tryz.prog w = .ok (.bool true) w := fun _ => rfl
  go_enter Tryz.func42, Tryz.ntmps42
  go_wp2
  go_ret
  exact ⟨rfl, rfl⟩

theorem clone_any (v : Value) (l : List UInt8) (w : World) (hb : l.length ≤ 140737488355328) (hs : Sl w v (bc l)) :
    Calls Tryz.prog 42 #[v] w fun e w' => ∃ v', e = .returned v' ∧ Copied w w' v' (bc l) := by
  rcases hs.src with ⟨rfl, hx⟩ | ⟨ad, cap, rfl, hl, hm, hnews⟩
  · rw [hx]
    refine (clone_nil w).mono ?_
    rintro e w' ⟨rfl, rfl⟩
    exact ⟨_, rfl, World.ownsRow_nil _ _ _ _, Fr.refl _ _⟩
  · obtain ⟨i0, hi, hz0, hz1, hz2⟩ := info_parts Tryz.info_u8
    rw [bc_length] at hl ⊢
    have hnews2 : ∀ j u, (bc l)[j]? = some u → (w.alloc (.cells #[] 5)).cell? (ad.add j) = some u := by
      intro j u hu
      exact (Fr.alloc (fun _ => False) w _).cell (hnews j u hu) (fun f => f)
    have hcm : cap ≤ 9223372036854775807 := hm
    clear hs hnews hm
    have he : ∀ w : World, (binOp .eql 25 (.slice (some ad) l.length cap) (.slice none 0 0)).run Tryz.prog w = .ok (.bool false) w := fun _ => rfl
    go_enter Tryz.func42, Tryz.ntmps42
    go_wp2_with (at_builtin; refine wpList_append_own _ rfl _ _ 25 rfl w.heap.size 5 i0 (.int .u8 0) 1 1 Tryz.underlying25 hi hz0 hz1 hz2 rfl (by decide) _ 0 [] rfl ?q0 ad l.length _ (bc l) rfl ?q1 hnews2 (bc_one l) ?q2 ?q3 ?q4 ?_)
    case q0 => exact World.ownsRow_made w #[] 0 (Nat.le_refl _) (by simp [maxLen]) (by simp)
    case q1 => simp
    case q2 => unfold maxLen; omega
    case q3 => omega
    case q4 => simp
    intro v' w1 hown hg hne
    have hfin : Hidden (Copied w w1 v' (bc l)) := by
      refine ⟨by simpa using hown, (Fr.alloc _ w _).trans (Fr.grown hg) (fun k hk h => ?_)⟩
      have : k = w.heap.size := by simpa [Value.ownBlock] using h
      omega
    clear hown hg hne hnews2
    go_wp2
    go_ret
    exact ⟨_, rfl, hfin⟩

theorem bytes_some (p : Nat) (bs : List UInt8) (g : Option Nat) (w : World) (hw : Wr w p bs g) (hb : bs.length ≤ 140737488355328) :
    Calls Tryz.prog 19 #[.pointer (some ⟨p, 0, none⟩)] w fun e w' => ∃ v', e = .returned v' ∧ Copied w w' v' (bc bs) := by
  obtain ⟨ao, cap, hc, hs, _, h1, h2⟩ := hw.value
  have kc := clone_any _ bs w hb hs
  clear hw hs
  go_enter Tryz.func19, Tryz.ntmps19
  go_wp2_with (go_at_call 42; refine kc.mono ?_; rintro e w' ⟨v', rfl, hcp⟩)
  go_ret
  exact ⟨_, rfl, hcp⟩
end Go.Proofs.YtpjahcncknccdaaGreat.Wi
