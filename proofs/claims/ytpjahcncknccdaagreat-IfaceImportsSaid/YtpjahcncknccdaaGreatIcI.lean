/- iface.Encode. -/
import Derived.Test.YtpjahcncknccdaaGreatIcH
import Derived.Test.YtpjahcncknccdaaGreatWzWiLive
import Derived.Test.YtpjahcncknccdaaGreatWzWiW2
namespace Go.Proofs.YtpjahcncknccdaaGreat.Fo.Ic
open Go.RowKit Te
set_option linter.unusedSimpArgs false
set_option linter.unusedVariables false
set_option maxRecDepth 20000

theorem to_wi {S : Nat → Prop} {w w' : World} (h : Fr S w w') : Wi.Fr S w w' := ⟨h.os, h.output, h.size, h.block⟩
theorem of_wi {S : Nat → Prop} {w w' : World} (h : Wi.Fr S w w') : Fr S w w' := ⟨h.os, h.output, h.size, h.block⟩
theorem int_own (W : World) (pv : Value) (x : Int) (bs : List UInt8) (n : Nat) (w : World) (h : Wi.WOwn W pv w bs (4 + n)) :
    Calls Tryz.prog 17 #[pv, .int .i64 x] w fun e w' => e = .returned (.tuple #[]) ∧ Wi.WOwn W pv w' (bs ++ Wi.i31 x) n := by
  obtain ⟨g, a, b, d⟩ := h
  refine (Wi.int_any pv x bs g n w a).mono ?_
  rintro e w' ⟨rfl, hto⟩
  exact ⟨rfl, Wi.WOwn.step b d hto⟩
theorem long_own (W : World) (pv : Value) (N : Nat) (bs : List UInt8) (n : Nat) (w : World) (hN : N < 18446744073709551616) (h : Wi.WOwn W pv w bs (8 + n)) :
    Calls Tryz.prog 40 #[pv, .int .u64 (N : Int)] w fun e w' => e = .returned (.tuple #[]) ∧ Wi.WOwn W pv w' (bs ++ Wi.beS N 8) n := by
  obtain ⟨g, a, b, d⟩ := h
  refine (Wi.long_any pv N bs g n w hN a).mono ?_
  rintro e w' ⟨rfl, hto⟩
  exact ⟨rfl, Wi.WOwn.step b d hto⟩
theorem sl_of {w : World} {ao : Option Addr} {cap : Nat} {l : List Int} (h : Ty.InL w ao cap l) : Wi.Sl w (.slice ao l.length cap) (l.map fun x => .int .i64 x) := by
  obtain ⟨h1, h2, h3, h4⟩ := h
  refine ⟨ao, cap, by rw [List.length_map], by rw [List.length_map]; exact h1, h2, h3, ?_⟩
  rcases h4 with h4 | ⟨b, off, rfl, h4⟩
  · left; rw [h4]; rfl
  · refine Or.inr ⟨b, off, rfl, fun i x hx => ?_⟩
    rw [List.getElem?_map] at hx
    cases hy : l[i]? with
    | none => rw [hy] at hx; cases hx
    | some y =>
      rw [hy] at hx
      simp only [Option.map_some, Option.some.injEq] at hx
      subst hx
      exact h4 i y hy
theorem ints_own (W : World) (pv : Value) (ao : Option Addr) (cap : Nat) (l : List Int) (bs : List UInt8) (n : Nat) (w : World) (hl : l.length ≤ 8) (hs : Ty.InL W ao cap l) (h : Wi.WOwn W pv w bs (4 + ((l.map Wi.i31).flatten.length + n))) :
    Calls Tryz.prog 41 #[pv, .slice ao l.length cap] w fun e w' => e = .returned (.tuple #[]) ∧ Wi.WOwn W pv w' (bs ++ Wi.intsS l) n := by
  obtain ⟨g, a, b, d⟩ := h
  refine (Wi.ints_any pv (.slice ao l.length cap) l l.length rfl bs g n w (by omega) a (sl_of (hs.keep (of_wi b))) ?_).mono ?_
  · rcases hs.2.2.2 with h0 | ⟨k0, off, rfl, h4⟩
    · left; rw [h0]; rfl
    · by_cases hz : l = []
      · left; rw [hz]; rfl
      right
      intro k hk q
      have hk' : k0 = k := by simpa [Value.ownBlock] using hk
      have := d k q
      obtain ⟨x, hx⟩ : ∃ x, l[0]? = some x := by
        cases l with
        | nil => exact absurd rfl hz
        | cons x r => exact ⟨x, rfl⟩
      have := World.block_lt_of_cell? W _ (h4 0 x hx)
      simp only at this
      omega
  · rintro e w' ⟨rfl, hto⟩
    exact ⟨rfl, Wi.WOwn.step b d hto⟩
/-- A writer of the call's own, and a box beside it. -/
def WB (W : World) (pv : Value) (b : Nat) (o : Obj) (w : World) (bs : List UInt8) (n : Nat) : Prop :=
  ∃ g, Wi.WrO pv w bs g n ∧ Fr FN W w ∧ (∀ k, Wi.pblk pv = some k ∨ g = some k → W.heap.size ≤ k ∧ k ≠ b) ∧ w.heap[b]? = some o
theorem wb_step {W : World} {pv : Value} {b : Nat} {o : Obj} {w : World} {bs bs' : List UInt8} {m n : Nat} {F : FuncId} {args : Array Value} (h : WB W pv b o w bs m)
    (k : ∀ g, Wi.WrO pv w bs g m → (∀ k, Wi.pblk pv = some k ∨ g = some k → W.heap.size ≤ k ∧ k ≠ b) → Calls Tryz.prog F args w fun e w' => e = .returned (.tuple #[]) ∧ Wi.WTo pv w g w' bs' n) :
    Calls Tryz.prog F args w fun e w' => e = .returned (.tuple #[]) ∧ WB W pv b o w' bs' n := by
  obtain ⟨g, a, f, d, hb⟩ := h
  refine (k g a d).mono ?_
  rintro e w' ⟨rfl, g', a', f', hg⟩
  have f2 := of_wi f'
  refine ⟨rfl, g', a', f.over f2 (fun k hk => (d k hk).1), fun k hk => ?_, f2.heap hb (fun hk => (d b hk).2 rfl)⟩
  rcases hk with hk | hk
  · exact d k (Or.inl hk)
  · rcases hg with e | ⟨k', e, hk'⟩
    · rw [e] at hk; exact d k (Or.inr hk)
    · rw [e] at hk
      have : k' = k := by simpa using hk
      have := f.size
      have := lt_of_heap hb
      exact ⟨by omega, by omega⟩
theorem wb_open {W : World} {pv : Value} {w : World} {bs : List UInt8} {n : Nat} (h : Wi.WOwn W pv w bs n) (o : Obj) : WB W pv w.heap.size o (w.alloc o) bs n := by
  obtain ⟨g, a, f, d⟩ := h
  refine ⟨g, a.alloc o, (of_wi f).same (Fr.alloc _ _ _), fun k hk => ⟨d k hk, ?_⟩, alloc_new _ _⟩
  have := a.lt k hk
  omega
theorem wb_shut {W : World} {pv : Value} {b : Nat} {o : Obj} {w : World} {bs : List UInt8} {n : Nat} (h : WB W pv b o w bs n) : Wi.WOwn W pv w bs n := by
  obtain ⟨g, a, f, d, _⟩ := h
  exact ⟨g, a, to_wi f, fun k hk => (d k hk).1⟩
/-- An item's bytes. -/
def u8 (z : Int) : UInt8 := UInt8.ofNat z.toNat
def itemB (i : Ty.It) : List UInt8 := [u8 i.kind] ++ Wi.rawS i.name ++ [u8 i.typ] ++ Wi.beS i.bits.toNat 8 ++ Wi.intsS i.params
theorem u8_wrap {z : Int} (h0 : 0 ≤ z) (h1 : z ≤ 3) : IntKind.u8.wrap z = ((u8 z).toNat : Int) := by
  have : z = 0 ∨ z = 1 ∨ z = 2 ∨ z = 3 := by omega
  rcases this with rfl | rfl | rfl | rfl <;> rfl
theorem beS_len (n : Nat) : ∀ k, (Wi.beS n k).length = k
  | 0 => rfl
  | k + 1 => by simp [Wi.beS, beS_len n k]
theorem i31_len (x : Int) : (Wi.i31 x).length = 4 := by unfold Wi.i31; exact beS_len _ _
theorem i31s_len (l : List Int) : (l.map Wi.i31).flatten.length = 4 * l.length := by
  induction l with
  | nil => rfl
  | cons x l ih => simp only [List.map_cons, List.flatten_cons, List.length_append, ih, i31_len, List.length_cons]; omega
theorem itemB_len (i : Ty.It) : (itemB i).length = 18 + i.name.length + 4 * i.params.length := by
  unfold itemB Wi.rawS Wi.intsS
  simp only [List.length_append, List.length_singleton, i31_len, beS_len, i31s_len]
  omega
set_option maxHeartbeats 1000000 in
theorem putItem_any (W : World) (pv : Value) (i : Ty.It) (po : Option Addr) (pc : Nat) (bs : List UInt8) (n : Nat) (w : World) (hpv : ∃ a, pv = .pointer a) (h : Wi.WOwn W pv w bs (18 + i.name.length + 4 * i.params.length + n)) (hp : Ty.InL W po pc i.params) (hl : i.params.length ≤ 8) (hn : i.name.length ≤ 1048576) (hk0 : 0 ≤ i.kind) (hk1 : i.kind ≤ 3) (ht0 : 0 ≤ i.typ) (ht1 : i.typ ≤ 3) (hb : U64 i.bits) :
    Calls Tryz.prog 18 #[pv, .agg #[ci i.kind, ct i.name, ci i.typ, .int .u64 i.bits, .slice po i.params.length pc]] w fun e w' => e = .returned (.tuple #[]) ∧ Wi.WOwn W pv w' (bs ++ itemB i) n := by
  obtain ⟨kind, name, typ, bits, params⟩ := i
  obtain ⟨pa, rfl⟩ := hpv
  simp only at *
  obtain ⟨B, rfl⟩ : ∃ B : Nat, bits = (B : Int) := ⟨bits.toNat, by have := hb.1; omega⟩
  have hB : B < 18446744073709551616 := by have := hb.2; omega
  have e1 := u8_wrap hk0 hk1
  have e2 := u8_wrap ht0 ht1
  have o1 := wb_open h (.cells #[ci kind, ct name, ci typ, .int .u64 (B : Int), .slice po params.length pc] 59 (0, 0))
  obtain ⟨W1, hW1⟩ : ∃ W1, W1 = w.alloc (.cells #[ci kind, ct name, ci typ, .int .u64 (B : Int), .slice po params.length pc] 59) := ⟨_, rfl⟩
  obtain ⟨O, hO⟩ : ∃ O, O = Obj.cells #[ci kind, ct name, ci typ, .int .u64 (B : Int), .slice po params.length pc] 59 (0, 0) := ⟨_, rfl⟩
  rw [← hO] at o1
  have hW1' : W1 = w.alloc O := by rw [hO]; exact hW1
  rw [← hW1'] at o1
  have hOH : Hidden (O = _) := hO
  have k1 : ∀ u, WB W (.pointer pa) w.heap.size O u bs (18 + name.length + 4 * params.length + n) → Calls Tryz.prog 39 #[.pointer pa, .int .u8 ((u8 kind).toNat : Int)] u fun e w' => e = .returned (.tuple #[]) ∧ WB W (.pointer pa) w.heap.size O w' (bs ++ [u8 kind]) (17 + name.length + 4 * params.length + n) := fun u hu => wb_step hu fun g a _ => Wi.byte_any _ _ _ g _ u (by rw [show 1 + (17 + name.length + 4 * params.length + n) = 18 + name.length + 4 * params.length + n by omega]; exact a)
  have k2 : ∀ u, WB W (.pointer pa) w.heap.size O u (bs ++ [u8 kind]) (17 + name.length + 4 * params.length + n) → Calls Tryz.prog 16 #[.pointer pa, .string ⟨name.toArray⟩] u fun e w' => e = .returned (.tuple #[]) ∧ WB W (.pointer pa) w.heap.size O w' (bs ++ [u8 kind] ++ Wi.rawS name) (13 + 4 * params.length + n) := fun u hu => wb_step hu fun g a _ => Wi.text_any _ _ _ g _ u (by omega) (by rw [show 4 + (name.length + (13 + 4 * params.length + n)) = 17 + name.length + 4 * params.length + n by omega]; exact a) a.lt
  have k3 : ∀ u, WB W (.pointer pa) w.heap.size O u (bs ++ [u8 kind] ++ Wi.rawS name) (13 + 4 * params.length + n) → Calls Tryz.prog 39 #[.pointer pa, .int .u8 ((u8 typ).toNat : Int)] u fun e w' => e = .returned (.tuple #[]) ∧ WB W (.pointer pa) w.heap.size O w' (bs ++ [u8 kind] ++ Wi.rawS name ++ [u8 typ]) (12 + 4 * params.length + n) := fun u hu => wb_step hu fun g a _ => Wi.byte_any _ _ _ g _ u (by rw [show 1 + (12 + 4 * params.length + n) = 13 + 4 * params.length + n by omega]; exact a)
  have k4 : ∀ u, WB W (.pointer pa) w.heap.size O u (bs ++ [u8 kind] ++ Wi.rawS name ++ [u8 typ]) (12 + 4 * params.length + n) → Calls Tryz.prog 40 #[.pointer pa, .int .u64 (B : Int)] u fun e w' => e = .returned (.tuple #[]) ∧ WB W (.pointer pa) w.heap.size O w' (bs ++ [u8 kind] ++ Wi.rawS name ++ [u8 typ] ++ Wi.beS B 8) (4 + 4 * params.length + n) := fun u hu => wb_step hu fun g a _ => Wi.long_any _ _ _ g _ u hB (by rw [show 8 + (4 + 4 * params.length + n) = 12 + 4 * params.length + n by omega]; exact a)
  have k5 : ∀ u, WB W (.pointer pa) w.heap.size O u (bs ++ [u8 kind] ++ Wi.rawS name ++ [u8 typ] ++ Wi.beS B 8) (4 + 4 * params.length + n) → Calls Tryz.prog 41 #[.pointer pa, .slice po params.length pc] u fun e w' => e = .returned (.tuple #[]) ∧ Wi.WOwn W (.pointer pa) w' (bs ++ [u8 kind] ++ Wi.rawS name ++ [u8 typ] ++ Wi.beS B 8 ++ Wi.intsS params) n := fun u hu => ints_own W _ po pc params _ n u hl hp (by rw [i31s_len, ← Nat.add_assoc]; exact wb_shut hu)
  have hres : bs ++ itemB ⟨kind, name, typ, (B : Int), params⟩ = bs ++ [u8 kind] ++ Wi.rawS name ++ [u8 typ] ++ Wi.beS B 8 ++ Wi.intsS params := by unfold itemB; simp
  rw [hres]
  have boxC : ∀ {u : World} {x : List UInt8} {m : Nat}, WB W (.pointer pa) w.heap.size O u x m → u.cell? ⟨w.heap.size, 0, none⟩ = some (ci kind) ∧ u.cell? ⟨w.heap.size, 1, none⟩ = some (ct name) ∧ u.cell? ⟨w.heap.size, 2, none⟩ = some (ci typ) ∧ u.cell? ⟨w.heap.size, 3, none⟩ = some (.int .u64 (B : Int)) ∧ u.cell? ⟨w.heap.size, 4, none⟩ = some (.slice po params.length pc) := fun hu => by
    obtain ⟨_, _, _, _, hb⟩ := hu
    rw [hO] at hb
    exact Ty.box5 hb
  obtain ⟨c0, c1, c2, c3, c4⟩ := boxC o1
  have o1H : Hidden (WB W (.pointer pa) w.heap.size O W1 bs (18 + name.length + 4 * params.length + n)) := o1
  rw [hW1] at c0 c1 c2 c3 c4
  have hW1H : Hidden (W1 = _) := hW1
  clear h hp hres o1 hO hW1 hW1' hb hk0 hk1 ht0 ht1 hB hn hl
  go_enter Tryz.func18, Tryz.ntmps18
  go_wp2_with fail
  rw [← (show W1 = _ from hW1H)]
  go_at_call 39
  refine (k1 _ o1H).mono ?_
  rintro e w1 ⟨rfl, h1⟩
  obtain ⟨d0, d1, d2, d3, d4⟩ := boxC h1
  go_wp2_with fail
  go_at_call 16
  refine (k2 _ h1).mono ?_
  rintro e w2 ⟨rfl, h2⟩
  clear d0 d1 d2 d3 d4
  obtain ⟨d0, d1, d2, d3, d4⟩ := boxC h2
  go_wp2_with fail
  go_at_call 39
  refine (k3 _ h2).mono ?_
  rintro e w3 ⟨rfl, h3⟩
  clear d0 d1 d2 d3 d4
  obtain ⟨d0, d1, d2, d3, d4⟩ := boxC h3
  go_wp2_with fail
  go_at_call 40
  refine (k4 _ h3).mono ?_
  rintro e w4 ⟨rfl, h4⟩
  clear d0 d1 d2 d3 d4
  obtain ⟨d0, d1, d2, d3, d4⟩ := boxC h4
  go_wp2_with fail
  go_at_call 41
  refine (k5 _ h4).mono ?_
  rintro e w5 ⟨rfl, h5⟩
  go_wp2_with fail
  go_end0
  exact ⟨rfl, h5⟩
end Go.Proofs.YtpjahcncknccdaaGreat.Fo.Ic
