/- Writers and Readers that a call makes itself; alive. -/
import Derived.Test.YtpjahcncknccdaaGreatWzWiT
import Derived.Test.YtpjahcncknccdaaGreatWzWiR4
import Derived.Test.YtpjahcncknccdaaGreatWzWiRef
namespace Go.Proofs.YtpjahcncknccdaaGreat.Wi
open Go.RowKit
set_option linter.unusedSimpArgs false
set_option linter.unusedVariables false
set_option maxRecDepth 20000

/-- A writer of the call's own. -/
def WOwn (W : World) (pv : Value) (w : World) (bs : List UInt8) (n : Nat) : Prop :=
  ∃ g, WrO pv w bs g n ∧ Fr (fun _ => False) W w ∧ ∀ k, pblk pv = some k ∨ g = some k → W.heap.size ≤ k
theorem WOwn.step {W w w' : World} {pv : Value} {g : Option Nat} {bs : List UInt8} {n : Nat} (h2 : Fr (fun _ => False) W w) (h3 : ∀ k, pblk pv = some k ∨ g = some k → W.heap.size ≤ k) (h : WTo pv w g w' bs n) : WOwn W pv w' bs n := by
  obtain ⟨g', a, b, c⟩ := h
  refine ⟨g', a, h2.over b h3, fun k hk => ?_⟩
  rcases hk with hk | hk
  · exact h3 k (Or.inl hk)
  · rcases c with rfl | ⟨k', e, hk'⟩
    · exact h3 k (Or.inr hk)
    · rw [e] at hk
      have : k' = k := by simpa using hk
      have := h2.size
      omega
theorem WOwn.new (w : World) (n : Nat) (hn : n ≤ 140737488355328) : WOwn w (.pointer (some ⟨w.heap.size, 0, none⟩)) (w.alloc (.cells #[.slice none 0 0] 61)) [] n := by
  refine ⟨none, Or.inr ⟨w.heap.size, rfl, ⟨.slice none 0 0, alloc_new w _, World.ownsRow_nil _ _ _ _, rfl, by simp⟩, by simpa using hn⟩, Fr.alloc _ _ _, fun k hk => ?_⟩
  rcases hk with hk | hk
  · have : w.heap.size = k := by simpa [pblk] using hk
    omega
  · cases hk
theorem WOwn.keep {S : Nat → Prop} {W w w' : World} {pv : Value} {bs : List UInt8} {n : Nat} (h : WOwn W pv w bs n) (hf : Fr S w w') (hS : ∀ k, S k → w.heap.size ≤ k) : WOwn W pv w' bs n := by
  obtain ⟨g, a, b, c⟩ := h
  refine ⟨g, a.keep hf (fun k hk s => ?_) (fun k hk s => ?_), b.over hf (fun k hk => Nat.le_trans b.size (hS k hk)), c⟩
  · have := a.lt k (Or.inl hk)
    have := hS k s
    omega
  · have := a.lt k (Or.inr hk)
    have := hS k s
    omega
theorem WOwn.past {S : Nat → Prop} {W V w w' : World} {pv : Value} {bs : List UInt8} {n : Nat} (h : WOwn W pv V bs n) (hV : Fr (fun _ => False) V w) (hf : Fr S w w') (hS : ∀ k, S k → V.heap.size ≤ k) : WOwn W pv w' bs n :=
  h.keep (hV.over hf hS) (fun _ f => f.elim)
theorem WOwn.less {W w : World} {pv : Value} {bs : List UInt8} {n m : Nat} (h : WOwn W pv w bs n) (hm : m ≤ n) : WOwn W pv w bs m := by
  obtain ⟨g, a, b, c⟩ := h
  exact ⟨g, a.less hm, b, c⟩
theorem byte_own (W : World) (pv : Value) (c : UInt8) (bs : List UInt8) (n : Nat) (w : World) (h : WOwn W pv w bs (1 + n)) :
    Calls Tryz.prog 39 #[pv, .int .u8 (c.toNat : Int)] w fun e w' => e = .returned (.tuple #[]) ∧ WOwn W pv w' (bs ++ [c]) n := by
  obtain ⟨g, a, b, d⟩ := h
  refine (byte_any pv c bs g n w a).mono ?_
  rintro e w' ⟨rfl, hto⟩
  exact ⟨rfl, WOwn.step b d hto⟩
theorem text_own (W : World) (pv : Value) (l : List UInt8) (bs : List UInt8) (n : Nat) (w : World) (hl : l.length ≤ 9223372036854775807) (h : WOwn W pv w bs (4 + (l.length + n))) :
    Calls Tryz.prog 16 #[pv, .string ⟨l.toArray⟩] w fun e w' => e = .returned (.tuple #[]) ∧ WOwn W pv w' (bs ++ rawS l) n := by
  obtain ⟨g, a, b, d⟩ := h
  refine (text_any pv l bs g n w hl a a.lt).mono ?_
  rintro e w' ⟨rfl, hto⟩
  exact ⟨rfl, WOwn.step b d hto⟩
theorem WOwn.wr {W w : World} {p : Nat} {bs : List UInt8} {n : Nat} (h : WOwn W (.pointer (some ⟨p, 0, none⟩)) w bs n) : ∃ g, Wr w p bs g ∧ bs.length + n ≤ 140737488355328 := by
  obtain ⟨g, a, b, d⟩ := h
  rcases a with ⟨e, _⟩ | ⟨p', e, hw, hb⟩
  · cases e
  · simp only [Value.pointer.injEq, Option.some.injEq, Addr.mk.injEq, and_true] at e
    subst e
    exact ⟨g, hw, hb⟩
theorem WOwn.fr {W w : World} {pv : Value} {bs : List UInt8} {n : Nat} (h : WOwn W pv w bs n) : Fr (fun _ => False) W w := by
  obtain ⟨g, a, b, d⟩ := h
  exact b
theorem run_str (w : World) (v : Value) (l : List UInt8) (h : Sl w v (bc l)) : (convert 25 9 v).run Tryz.prog w = .ok (.string ⟨l.toArray⟩) w := by
  rcases h.src with ⟨rfl, hx⟩ | ⟨ad, cap, rfl, hl, hm, hnews⟩
  · obtain rfl : l = [] := by simpa [bc] using hx
    rw [run_convert_bytes_string w 25 9 5 none 0 0 Tryz.underlying25 Tryz.underlying5 Tryz.underlying9]
    rfl
  · rw [bc_length] at *
    exact run_convert_bytes_back w 25 9 5 ad cap l Tryz.underlying25 Tryz.underlying5 Tryz.underlying9 (fun j hj => hnews j _ (by simp [bc, hj]))

/-- What Bytes hands back, told by its shape. -/
theorem bytes_own (W : World) (p : Nat) (bs : List UInt8) (n : Nat) (w : World) (h : WOwn W (.pointer (some ⟨p, 0, none⟩)) w bs n) :
    Calls Tryz.prog 19 #[.pointer (some ⟨p, 0, none⟩)] w fun e w' => ∃ ao cap, e = .returned (.slice ao bs.length cap) ∧ Ow w' w.heap.size (.slice ao bs.length cap) (bc bs) ∧ Fr (fun _ => False) w w' := by
  obtain ⟨g, hw, hb⟩ := h.wr
  refine (bytes_some p bs g w hw (by omega)).mono ?_
  rintro e w' ⟨v', rfl, hc⟩
  have ho := Ow.of_own hc.1
  obtain ⟨ao, cap, rfl, _⟩ := ho.shape
  exact ⟨_, _, rfl, ho, hc.2⟩

/-- A new Reader. -/
theorem read_any (v : Value) (l : List UInt8) (w : World) (hb : l.length ≤ 140737488355328) (hs : Sl w v (bc l)) :
    Calls Tryz.prog 23 #[v] w fun e w' => ∃ q, e = .returned (rp q) ∧ Rd w' q l 0 ∧ w.heap.size ≤ q ∧ Fr (fun _ => False) w w' := by
  have kc : Calls Tryz.prog 42 #[v] w fun e w' => ∃ ao cap, e = .returned (.slice ao l.length cap) ∧ Ow w' w.heap.size (.slice ao l.length cap) (bc l) ∧ Fr (fun _ => False) w w' := by
    refine (clone_any v l w hb hs).mono ?_
    rintro e w' ⟨v', rfl, hc⟩
    have ho := Ow.of_own hc.1
    obtain ⟨ao, cap, rfl, _⟩ := ho.shape
    exact ⟨_, _, rfl, ho, hc.2⟩
  obtain ⟨ao0, cap0, rfl, a1, a2, a3, a4⟩ := id hs
  clear a1 a2 a3 a4
  rw [bc_length] at kc ⊢
  clear hs
  go_enter Tryz.func23, Tryz.ntmps23
  go_wp2_with (go_at_call 42; refine kc.mono ?_; rintro e w1 ⟨ao, cap, rfl, ho, hf⟩)
  go_ret
  refine ⟨w1.heap.size, rfl, ⟨.slice ao l.length cap, alloc_new w1 _, ho.1.keep (Fr.alloc (fun _ => False) w1 _) (fun _ _ f => f), fun k hk => (ho.own k hk).2⟩, hf.size, hf.same (Fr.alloc _ _ _)⟩
end Go.Proofs.YtpjahcncknccdaaGreat.Wi
