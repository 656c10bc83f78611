/- The document's Reader at its beginning; a box beside it. -/
import Derived.Test.YtakkiipkmogagaaGreatIdM
namespace Go.Proofs.YtakkiipkmogagaaGreat.Fo.Ic
open Go.RowKit Te
set_option linter.unusedSimpArgs false
set_option linter.unusedVariables false
set_option maxRecDepth 20000

set_option maxHeartbeats 1000000 in
theorem rread_any (bo : Option Addr) (bk : Nat) (b : List UInt8) (w : World) (h : Wi.Sl w (.slice bo b.length bk) (Wi.bc b)) (hk : ∀ k, (Value.slice bo b.length bk).ownBlock = some k → k < w.heap.size) :
    Calls Tryz.prog 15 #[.slice bo b.length bk] w fun e w' => e = .returned (.pointer (some ⟨w.heap.size, 0, none⟩)) ∧ Rr w' w.heap.size bo bk b (some b) ∧ Fr FN w w' := by
  have hH : Hidden (Wi.Sl w (.slice bo b.length bk) (Wi.bc b)) := h
  have hkH : Hidden (∀ k, (Value.slice bo b.length bk).ownBlock = some k → k < w.heap.size) := hk
  clear h hk
  go_enter Tryz.func15, Tryz.ntmps15
  go_wp2_with fail
  go_ret
  refine ⟨rfl, ⟨0, 0, alloc_new _ _, Nat.zero_le _, Or.inl ⟨rfl, by simp⟩, (show Wi.Sl w _ _ from hH).keep (to_wi (Fr.alloc FN _ _)) (fun _ _ f => f), fun k q e => ?_⟩, Fr.alloc _ _ _⟩
  have := (show ∀ k, (Value.slice bo b.length bk).ownBlock = some k → k < w.heap.size from hkH) k q
  omega
/-- The document's reader of any bytes, and a box that was made beside it. -/
def RQ (w : World) (g q : Nat) (t : TypeId) (bo : Option Addr) (bk : Nat) (b : List UInt8) (s : Option (List UInt8)) (c : Array Value) (wx : World) : Prop := Rr wx q bo bk b s ∧ wx.heap[g]? = some (.cells c t (0, 0)) ∧ Fr (fun k => k = q) w wx ∧ q < w.heap.size ∧ w.heap.size ≤ g ∧ ∀ k, (Value.slice bo b.length bk).ownBlock = some k → k < w.heap.size
theorem RQ.next {w : World} {g q : Nat} {t : TypeId} {bo : Option Addr} {bk : Nat} {b : List UInt8} {s s' : Option (List UInt8)} {c : Array Value} {wx wy : World} (h : RQ w g q t bo bk b s c wx) (hr : Rr wy q bo bk b s') (hf : Fr (fun k => k = q) wx wy) : RQ w g q t bo bk b s' c wy :=
  ⟨hr, hf.heap h.2.1 (fun e => by have := h.2.2.2; have e : g = q := e; omega), h.2.2.1.same hf, h.2.2.2⟩
theorem RQ.put {w : World} {g q : Nat} {t : TypeId} {bo : Option Addr} {bk : Nat} {b : List UInt8} {s : Option (List UInt8)} {c : Array Value} {wx : World} (h : RQ w g q t bo bk b s c wx) (i : Nat) (v : Value) : RQ w g q t bo bk b s (c.setIfInBounds i v) (wx.setCell ⟨g, i, none⟩ v) := by
  have hf := Fr.setCell wx ⟨g, i, none⟩ v
  obtain ⟨h1, h2, h3, h4, h5, h6⟩ := h
  exact ⟨h1.aside hf (fun e => by have e : q = g := e; omega) (fun k hk e => by have := h6 k hk; have e : k = g := e; omega), heap_setCell_same wx _ i _ _ _ h2, h3.trans hf (fun k hk e => by have e : k = g := e; omega), h4, h5, h6⟩
end Go.Proofs.YtakkiipkmogagaaGreat.Fo.Ic
