/- The program writes expressions. -/
import Derived.Test.YtfkccanjdlajlabGreatDoorTrT
namespace Go.Proofs.YtfkccanjdlajlabGreatDoor
open Go.RowKit Te
set_option linter.unusedSimpArgs false
set_option linter.unusedVariables false

abbrev bp (b : Nat) : Value := .pointer (some ⟨b, 0, none⟩)
theorem wr_str (w0 : World) (B b : Nat) (acc s : Bs) (w : World) (h : Wr w0 B b acc w) (hl : (acc ++ s).length ≤ 140737488355328) :
    Calls Tryz.prog 82 #[bp b, ct s] w fun e w' => e = .returned (.tuple #[.int .i64 (s.length : Int), .nilIface]) ∧ Wrote w0 B b (acc ++ s) w w' :=
  (wstr_any B b acc s w h.bld (by rw [List.length_append] at hl; omega) h.size).mono fun e w' ⟨h1, h2, h3⟩ => ⟨h1, h.next h3 h2, h3⟩
theorem wr_byte (w0 : World) (B b : Nat) (acc : Bs) (c : UInt8) (n : Int) (hn : (c.toNat : Int) = n) (w : World) (h : Wr w0 B b acc w) (hl : (acc ++ [c]).length ≤ 140737488355328) :
    Calls Tryz.prog 77 #[bp b, .int .u8 n] w fun e w' => e = .returned .nilIface ∧ Wrote w0 B b (acc ++ [c]) w w' := by
  subst hn
  exact (wbyte_any B b acc c w h.bld (by simpa using hl) h.size).mono fun e w' ⟨h1, h2, h3⟩ => ⟨h1, h.next h3 h2, h3⟩

/-- What a right expression has. -/
def ShE (h : EH) (n : Nat) : Prop :=
  (h.kind = 1 ∧ (h.vt = 1 → h.vb < 9223372036854775808) ∧ n = 0) ∨ (h.kind = 2 ∧ n = 0) ∨ (h.kind = 3 ∧ n = 0) ∨ h.kind = 4 ∨ h.kind = 5 ∨ (h.kind = 6 ∧ 1 ≤ h.op ∧ h.op ≤ 4 ∧ n = 1) ∨ (h.kind = 7 ∧ 1 ≤ h.op ∧ h.op ≤ 13 ∧ n = 2) ∨ (h.kind = 8 ∧ n = 0)
def ShL : Exs → Prop
  | .nil => True
  | .cons h k r => ShE h k.len ∧ ShL k ∧ ShL r
/-- The contract of writing at a level. -/
def WX (h : EH) (k : Exs) : Prop := ∀ (least : Int) (acc : Bs) (w0 w : World) (B b : Nat) (ao : Option Addr) (cap : Nat), OkE h → OkX k → ShE h k.len → ShL k → ExL w0 ao cap k → F.Tab w0 → Wr w0 B b acc w →
  (acc ++ txA txS h k least).length ≤ 140737488355328 →
  Calls Tryz.prog 60 #[bp b, exV h (.slice ao k.len cap), ci least] w fun e w' => e = .returned (.tuple #[]) ∧ Wrote w0 B b (acc ++ txA txS h k least) w w'
theorem ne_bld {w : World} {B b : Nat} {bs : Bs} (h : Bld B b bs w) : w.heap.size ≠ b := by have := h.lt; omega

set_option maxRecDepth 20000 in
set_option maxHeartbeats 4000000 in
theorem kid_w (h : EH) (n : Nat) (h' : EH) (k' r' : Exs) (ih : WX h' k') (i : Nat) (hi : i < n) (acc : Bs) (w0 w : World) (B b : Nat) (ao : Option Addr) (cap : Nat) (hn : n ≤ cap) (hcap : cap ≤ 9223372036854775807) (ho : OkE h') (hx : OkX k') (hs : ShE h' k'.len) (hsl : ShL k')
    (hr : ExR w0 ao i (.cons h' k' r')) (ht : F.Tab w0) (hw : Wr w0 B b acc w) (hl : (acc ++ txA txS h' k' (kidL h (decide (i = 0)))).length ≤ 140737488355328) :
    Calls Tryz.prog 101 #[bp b, exV h (.slice ao n cap), ci (i : Int)] w fun e w' => e = .returned (.tuple #[]) ∧ Wrote w0 B b (acc ++ txA txS h' k' (kidL h (decide (i = 0)))) w w' := by
  obtain ⟨q, off, ao', cap', rfl, hL, hrow2, d0, d1, d2, d3, d4, d5, d6⟩ := hr.next
  have f0 := Fr.alloc (fun _ => False) w (.cells #[ci h.kind, ci h.op, ct h.mod, ct h.name, ci h.vt, .int .u64 h.vb, .slice (some ⟨q, off, none⟩) n cap] 44)
  have hbx : Hidden ((w.alloc (.cells #[ci h.kind, ci h.op, ct h.mod, ct h.name, ci h.vt, .int .u64 h.vb, .slice (some ⟨q, off, none⟩) n cap] 44)).heap[w.heap.size]? = some (.cells #[ci h.kind, ci h.op, ct h.mod, ct h.name, ci h.vt, .int .u64 h.vb, .slice (some ⟨q, off, none⟩) n cap] 44 (0, 0))) := alloc_new _ _
  have kk := fun w => kp_any h (.slice (some ⟨q, off, none⟩) n cap) ⟨_, _, _, rfl⟩ i _ _ rfl rfl w
  unfold WX at ih
  go_enter Tryz.func101, Tryz.ntmps101
  go_wp2_with fail
  go_at_call 73
  refine (kk _).mono ?_
  rintro e w1 ⟨rfl, f1⟩
  obtain ⟨c0, c1, c2, c3, c4, c5, c6⟩ := ex_box (f1.heap hbx (fun f => f))
  have g1 := f0.same f1
  have hw1 := hw.quiet g1
  have d0 := hw1.fr.cellN d0
  have d1 := hw1.fr.cellN d1
  have d2 := hw1.fr.cellN d2
  have d3 := hw1.fr.cellN d3
  have d4 := hw1.fr.cellN d4
  have d5 := hw1.fr.cellN d5
  have d6 := hw1.fr.cellN d6
  go_wp2_with fail
  go_at_call 60
  refine (ih _ acc w0 _ B b ao' cap' ho hx hs hsl hL ht hw1 hl).mono ?_
  rintro e w2 ⟨rfl, h2, f2⟩
  go_wp2_with fail
  go_end0
  exact ⟨rfl, h2, bs_then g1 f2⟩
end Go.Proofs.YtfkccanjdlajlabGreatDoor
