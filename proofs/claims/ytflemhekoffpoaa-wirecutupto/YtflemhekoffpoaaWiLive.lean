/- Writers and Readers that a call makes itself; alive. -/
import Derived.Test.YtflemhekoffpoaaWiT
import Derived.Test.YtflemhekoffpoaaWiR4
import Derived.Test.YtflemhekoffpoaaWiRef
namespace Go.Proofs.Ytflemhekoffpoaa
open Go.RowKit
set_option linter.unusedSimpArgs false
set_option linter.unusedVariables false

/-- A writer of the call's own. -/
def WOwn (W : World) (pv : Value) (w : World) (bs : List UInt8) (n : Nat) : Prop :=
  ∃ g, WrO pv w bs g n ∧ Fr (fun _ => False) W w ∧ ∀ k, pblk pv = some k ∨ g = some k → W.heap.size ≤ k
theorem WOwn.step {W w w' : World} {pv : Value} {g : Option Nat} {bs : List UInt8} {n : Nat} (h2 : Fr (fun _ => False) W w) (h3 : ∀ k, pblk pv = some k ∨ g = some k → W.heap.size ≤ k) (h : WTo pv w g w' bs n) : WOwn W pv w' bs n := by
  obtain ⟨g', a, b, c⟩ := h
  refine ⟨g', a, h2.over b h3, fun k hk => ?_⟩
  rcases hk with hk | hk
  · exact h3 k (Or.inl hk)
  · rcases c with rfl | ⟨k', e, hk'⟩
    · exact h3 k (Or.inr hk)
    · rw [e] at hk
      have : k' = k := by simpa using hk
      have := h2.size
      omega
theorem WOwn.new (w : World) (n : Nat) (hn : n ≤ 140737488355328) : WOwn w (.pointer (some ⟨w.heap.size, 0, none⟩)) (w.alloc (.cells #[.slice none 0 0] 26)) [] n := by
  refine ⟨none, Or.inr ⟨w.heap.size, rfl, ⟨.slice none 0 0, alloc_new w _, World.ownsRow_nil _ _ _ _, rfl, by simp⟩, by simpa using hn⟩, Fr.alloc _ _ _, fun k hk => ?_⟩
  rcases hk with hk | hk
  · have : w.heap.size = k := by simpa [pblk] using hk
    omega
  · cases hk
theorem WOwn.keep {S : Nat → Prop} {W w w' : World} {pv : Value} {bs : List UInt8} {n : Nat} (h : WOwn W pv w bs n) (hf : Fr S w w') (hS : ∀ k, S k → w.heap.size ≤ k) : WOwn W pv w' bs n := by
  obtain ⟨g, a, b, c⟩ := h
  refine ⟨g, a.keep hf (fun k hk s => ?_) (fun k hk s => ?_), b.over hf (fun k hk => Nat.le_trans b.size (hS k hk)), c⟩
  · have := a.lt k (Or.inl hk)
    have := hS k s
    omega
  · have := a.lt k (Or.inr hk)
    have := hS k s
    omega
theorem WOwn.past {S : Nat → Prop} {W V w w' : World} {pv : Value} {bs : List UInt8} {n : Nat} (h : WOwn W pv V bs n) (hV : Fr (fun _ => False) V w) (hf : Fr S w w') (hS : ∀ k, S k → V.heap.size ≤ k) : WOwn W pv w' bs n :=
  h.keep (hV.over hf hS) (fun _ f => f.elim)
theorem WOwn.less {W w : World} {pv : Value} {bs : List UInt8} {n m : Nat} (h : WOwn W pv w bs n) (hm : m ≤ n) : WOwn W pv w bs m := by
  obtain ⟨g, a, b, c⟩ := h
  exact ⟨g, a.less hm, b, c⟩
theorem byte_own (W : World) (pv : Value) (c : UInt8) (bs : List UInt8) (n : Nat) (w : World) (h : WOwn W pv w bs (1 + n)) :
    Calls Try.prog 23 #[pv, .int .u8 (c.toNat : Int)] w fun e w' => e = .returned (.tuple #[]) ∧ WOwn W pv w' (bs ++ [c]) n := by
  obtain ⟨g, a, b, d⟩ := h
  refine (byte_any pv c bs g n w a).mono ?_
  rintro e w' ⟨rfl, hto⟩
  exact ⟨rfl, WOwn.step b d hto⟩
theorem short_own (W : World) (pv : Value) (x : Int) (bs : List UInt8) (n : Nat) (w : World) (h : WOwn W pv w bs (2 + n)) :
    Calls Try.prog 25 #[pv, .int .i64 x] w fun e w' => e = .returned (.tuple #[]) ∧ WOwn W pv w' (bs ++ beS (u64 x) 2) n := by
  obtain ⟨g, a, b, d⟩ := h
  refine (short_any pv x bs g n w a).mono ?_
  rintro e w' ⟨rfl, hto⟩
  exact ⟨rfl, WOwn.step b d hto⟩
theorem text_own (W : World) (pv : Value) (l : List UInt8) (bs : List UInt8) (n : Nat) (w : World) (hl : l.length ≤ 9223372036854775807) (h : WOwn W pv w bs (4 + (l.length + n))) :
    Calls Try.prog 28 #[pv, .string ⟨l.toArray⟩] w fun e w' => e = .returned (.tuple #[]) ∧ WOwn W pv w' (bs ++ rawS l) n := by
  obtain ⟨g, a, b, d⟩ := h
  refine (text_any pv l bs g n w hl a a.lt).mono ?_
  rintro e w' ⟨rfl, hto⟩
  exact ⟨rfl, WOwn.step b d hto⟩
theorem WOwn.wr {W w : World} {p : Nat} {bs : List UInt8} {n : Nat} (h : WOwn W (.pointer (some ⟨p, 0, none⟩)) w bs n) : ∃ g, Wr w p bs g ∧ bs.length + n ≤ 140737488355328 := by
  obtain ⟨g, a, b, d⟩ := h
  rcases a with ⟨e, _⟩ | ⟨p', e, hw, hb⟩
  · cases e
  · simp only [Value.pointer.injEq, Option.some.injEq, Addr.mk.injEq, and_true] at e
    subst e
    exact ⟨g, hw, hb⟩
theorem WOwn.fr {W w : World} {pv : Value} {bs : List UInt8} {n : Nat} (h : WOwn W pv w bs n) : Fr (fun _ => False) W w := by
  obtain ⟨g, a, b, d⟩ := h
  exact b
theorem len_own (W : World) (p : Nat) (bs : List UInt8) (n : Nat) (w : World) (h : WOwn W (.pointer (some ⟨p, 0, none⟩)) w bs n) :
    Calls Try.prog 10 #[.pointer (some ⟨p, 0, none⟩)] w fun e w' => e = .returned (.int .i64 (bs.length : Int)) ∧ w = w' := by
  obtain ⟨g, hw, _⟩ := h.wr
  exact len_some p bs g w hw

theorem run_str (w : World) (v : Value) (l : List UInt8) (h : Sl w v (bc l)) : (convert 24 9 v).run Try.prog w = .ok (.string ⟨l.toArray⟩) w := by
  rcases h.src with ⟨rfl, hx⟩ | ⟨ad, cap, rfl, hl, hm, hnews⟩
  · obtain rfl : l = [] := by simpa [bc] using hx
    rw [run_convert_bytes_string w 24 9 5 none 0 0 Try.underlying24 Try.underlying5 Try.underlying9]
    rfl
  · rw [bc_length] at *
    exact run_convert_bytes_back w 24 9 5 ad cap l Try.underlying24 Try.underlying5 Try.underlying9 (fun j hj => hnews j _ (by simp [bc, hj]))

/-- What Bytes hands back, told by its shape. -/
theorem bytes_own (W : World) (p : Nat) (bs : List UInt8) (n : Nat) (w : World) (h : WOwn W (.pointer (some ⟨p, 0, none⟩)) w bs n) :
    Calls Try.prog 11 #[.pointer (some ⟨p, 0, none⟩)] w fun e w' => ∃ ao cap, e = .returned (.slice ao bs.length cap) ∧ Ow w' w.heap.size (.slice ao bs.length cap) (bc bs) ∧ Fr (fun _ => False) w w' := by
  obtain ⟨g, hw, hb⟩ := h.wr
  refine (bytes_some p bs g w hw (by omega)).mono ?_
  rintro e w' ⟨v', rfl, hc⟩
  have ho := Ow.of_own hc.1
  obtain ⟨ao, cap, rfl, _⟩ := ho.shape
  exact ⟨_, _, rfl, ho, hc.2⟩

/-- A new Reader. -/
theorem read_any (v : Value) (l : List UInt8) (w : World) (hb : l.length ≤ 140737488355328) (hs : Sl w v (bc l)) :
    Calls Try.prog 13 #[v] w fun e w' => ∃ q, e = .returned (rp q) ∧ Rd w' q l 0 ∧ w.heap.size ≤ q ∧ Fr (fun _ => False) w w' := by
  have kc : Calls Try.prog 40 #[v] w fun e w' => ∃ ao cap, e = .returned (.slice ao l.length cap) ∧ Ow w' w.heap.size (.slice ao l.length cap) (bc l) ∧ Fr (fun _ => False) w w' := by
    refine (clone_any v l w hb hs).mono ?_
    rintro e w' ⟨v', rfl, hc⟩
    have ho := Ow.of_own hc.1
    obtain ⟨ao, cap, rfl, _⟩ := ho.shape
    exact ⟨_, _, rfl, ho, hc.2⟩
  obtain ⟨ao0, cap0, rfl, a1, a2, a3, a4⟩ := id hs
  clear a1 a2 a3 a4
  rw [bc_length] at kc ⊢
  clear hs
  go_enter Try.func13, Try.ntmps13
  go_wp2_with (go_at_call 40; refine kc.mono ?_; rintro e w1 ⟨ao, cap, rfl, ho, hf⟩)
  go_ret
  refine ⟨w1.heap.size, rfl, ⟨.slice ao l.length cap, alloc_new w1 _, ho.1.keep (Fr.alloc (fun _ => False) w1 _) (fun _ _ f => f), fun k hk => (ho.own k hk).2⟩, hf.size, hf.same (Fr.alloc _ _ _)⟩

theorem rbool_bad (q : Nat) (c : UInt8) (r : List UInt8) (w : World) (hc : 1 < c.toNat) (hr : Rd w q (c :: r) 0) :
    Calls Try.prog 41 #[rp q] w fun e w' => e = .returned (.bool false) ∧ Rd w' q [] 42 ∧ Fr (fun k => k = q) w w' := by
  have kf := face_bool_err q (c :: r) 42 w hr (by decide) (takeBool_bad q c r _ hc (hr.keep (Fr.alloc (fun _ => False) w _) (fun f => f) (fun _ _ _ _ f => f)))
  have hmf : ∀ (fn : Fn) (first cap : Array Value) (w : World), (Instr.makeFunc fn first cap).run Try.prog w = .ok (.func fn first cap) w := fun _ _ _ _ => rfl
  clear hr
  go_enter Try.func41, Try.ntmps41
  go_wp2_with (go_at_call 66; refine kf.mono ?_; rintro e w1 ⟨rfl, h1, h2⟩)
  go_ret
  exact ⟨rfl, h1, h2⟩

theorem live_bytes : ([] ++ [1] ++ beS (u64 258) 2 ++ rawS [97, 98] : List UInt8) = [1, 1, 2, 0, 0, 0, 2, 97, 98] := by decide

set_option maxRecDepth 20000 in
set_option maxHeartbeats 1000000 in
theorem alive_any (w : World) : Calls Try.prog 12 #[] w fun e w' => e = .returned (.bool true) ∧ Fr (fun _ => False) w w' := by
  have k1 := byte_own w (.pointer (some ⟨w.heap.size, 0, none⟩)) 1 [] 100 (w.alloc (.cells #[.slice none 0 0] 26)) (WOwn.new w _ (by omega))
  have k2 := fun w1 => short_own w (.pointer (some ⟨w.heap.size, 0, none⟩)) 258 ([] ++ [1]) 98 w1
  have k3 := fun w1 => text_own w (.pointer (some ⟨w.heap.size, 0, none⟩)) [97, 98] ([] ++ [1] ++ beS (u64 258) 2) 92 w1 (by simp)
  rw [live_bytes] at k3
  have k4 : ∀ w1 : World, Calls Try.prog 13 #[.slice (some ⟨w1.heap.size, 0, none⟩) 1 1] (w1.alloc (.cells #[.int .u8 2] 5)) fun e w' => ∃ q, e = .returned (rp q) ∧ Rd w' q [2] 0 ∧ w1.heap.size ≤ q ∧ Fr (fun _ => False) w1 w' := fun w1 => by
    refine (read_any (.slice (some ⟨w1.heap.size, 0, none⟩) 1 1) [2] (w1.alloc (.cells #[.int .u8 2] 5)) (by simp) (Sl.one w1 _ _)).mono ?_
    rintro e w' ⟨q, rfl, h1, h2, h3⟩
    exact ⟨q, rfl, h1, by simp at h2; omega, (Fr.alloc _ w1 _).same h3⟩
  have k5 := fun q w1 => rbool_bad q 2 [] w1 (by decide)
  have k6 := fun q w1 => err_some q [] 42 w1
  have k7 := fun w1 => bytes_own w w.heap.size [1, 1, 2, 0, 0, 0, 2, 97, 98] 92 w1
  have k8 := fun w1 => len_own w w.heap.size [1, 1, 2, 0, 0, 0, 2, 97, 98] 92 w1
  simp only [List.length_cons, List.length_nil] at k7 k8
  go_enter Try.func12, Try.ntmps12
  go_wp2_with (first
    | (go_at_call 23; refine k1.mono ?_; rintro e w1 ⟨rfl, h1⟩)
    | (go_at_call 25; refine (k2 _ h1).mono ?_; rintro e w2 ⟨rfl, h2⟩)
    | (go_at_call 28; refine (k3 _ h2).mono ?_; rintro e w3 ⟨rfl, h3⟩)
    | (go_at_call 13; refine (k4 _).mono ?_; rintro e w4 ⟨q, rfl, hr, hq, hf4⟩)
    | (go_at_call 41; refine (k5 q _ hr).mono ?_; rintro e w5 ⟨rfl, hr5, hf5⟩)
    | (go_at_call 18; refine (k6 q _ hr5).mono ?_; rintro e w6 ⟨rfl, rfl⟩; have h6 : Hidden (WOwn w _ _ _ 92) := h3.past hf4 hf5 (fun k e => by rw [e]; exact hq))
    | (go_at_call 11; refine (k7 _ h6).mono ?_; rintro e w7 ⟨ao, cap, rfl, ho7, hf7⟩; have hs := run_str _ _ _ ho7.1; have h7 : Hidden (WOwn w _ _ _ 92) := WOwn.keep h6 hf7 (fun _ f => f.elim))
    | (go_at_call 10; refine (k8 _ h7).mono ?_; rintro e w8 ⟨rfl, rfl⟩))
  go_ret
  exact ⟨rfl, WOwn.fr h7⟩
end Go.Proofs.Ytflemhekoffpoaa
