/- Texts of ours, in one. -/
import Derived.Test.YtakkiipkmogagaaGreatIcAll
import Derived.Test.YtakkiipkmogagaaGreatWzAll
import Derived.LaidEql
import Derived.Stop.Asserts
import Derived.RowKitTokens
import Derived.Lib.IfaceEq
import Derived.Test.YtakkiipkmogagaaGreatTyH2
import Derived.Test.YtakkiipkmogagaaGreatFoL
namespace Go.Proofs.YtakkiipkmogagaaGreat.Fo.Ic
open Go.RowKit Te
set_option linter.unusedSimpArgs false
set_option linter.unusedVariables false
set_option maxRecDepth 20000

theorem to_wi {S : Nat → Prop} {w w' : World} (h : Fr S w w') : Wi.Fr S w w' := ⟨h.os, h.output, h.size, h.block⟩
theorem of_wi {S : Nat → Prop} {w w' : World} (h : Wi.Fr S w w') : Fr S w w' := ⟨h.os, h.output, h.size, h.block⟩
theorem int_own (W : World) (pv : Value) (x : Int) (bs : List UInt8) (n : Nat) (w : World) (h : Wi.WOwn W pv w bs (4 + n)) :
    Calls Tryz.prog 53 #[pv, .int .i64 x] w fun e w' => e = .returned (.tuple #[]) ∧ Wi.WOwn W pv w' (bs ++ Wi.i31 x) n := by
  obtain ⟨g, a, b, d⟩ := h
  refine (Wi.int_any pv x bs g n w a).mono ?_
  rintro e w' ⟨rfl, hto⟩
  exact ⟨rfl, Wi.WOwn.step b d hto⟩
theorem long_own (W : World) (pv : Value) (N : Nat) (bs : List UInt8) (n : Nat) (w : World) (hN : N < 18446744073709551616) (h : Wi.WOwn W pv w bs (8 + n)) :
    Calls Tryz.prog 87 #[pv, .int .u64 (N : Int)] w fun e w' => e = .returned (.tuple #[]) ∧ Wi.WOwn W pv w' (bs ++ Wi.beS N 8) n := by
  obtain ⟨g, a, b, d⟩ := h
  refine (Wi.long_any pv N bs g n w hN a).mono ?_
  rintro e w' ⟨rfl, hto⟩
  exact ⟨rfl, Wi.WOwn.step b d hto⟩
theorem sl_of {w : World} {ao : Option Addr} {cap : Nat} {l : List Int} (h : Ty.InL w ao cap l) : Wi.Sl w (.slice ao l.length cap) (l.map fun x => .int .i64 x) := by
  obtain ⟨h1, h2, h3, h4⟩ := h
  refine ⟨ao, cap, by rw [List.length_map], by rw [List.length_map]; exact h1, h2, h3, ?_⟩
  rcases h4 with h4 | ⟨b, off, rfl, h4⟩
  · left; rw [h4]; rfl
  · refine Or.inr ⟨b, off, rfl, fun i x hx => ?_⟩
    rw [List.getElem?_map] at hx
    cases hy : l[i]? with
    | none => rw [hy] at hx; cases hx
    | some y =>
      rw [hy] at hx
      simp only [Option.map_some, Option.some.injEq] at hx
      subst hx
      exact h4 i y hy
theorem ints_own (W : World) (pv : Value) (ao : Option Addr) (cap : Nat) (l : List Int) (bs : List UInt8) (n : Nat) (w : World) (hl : l.length ≤ 8) (hs : Ty.InL W ao cap l) (h : Wi.WOwn W pv w bs (4 + ((l.map Wi.i31).flatten.length + n))) :
    Calls Tryz.prog 88 #[pv, .slice ao l.length cap] w fun e w' => e = .returned (.tuple #[]) ∧ Wi.WOwn W pv w' (bs ++ Wi.intsS l) n := by
  obtain ⟨g, a, b, d⟩ := h
  refine (Wi.ints_any pv (.slice ao l.length cap) l l.length rfl bs g n w (by omega) a (sl_of (hs.keep (of_wi b))) ?_).mono ?_
  · rcases hs.2.2.2 with h0 | ⟨k0, off, rfl, h4⟩
    · left; rw [h0]; rfl
    · by_cases hz : l = []
      · left; rw [hz]; rfl
      right
      intro k hk q
      have hk' : k0 = k := by simpa [Value.ownBlock] using hk
      have := d k q
      obtain ⟨x, hx⟩ : ∃ x, l[0]? = some x := by
        cases l with
        | nil => exact absurd rfl hz
        | cons x r => exact ⟨x, rfl⟩
      have := World.block_lt_of_cell? W _ (h4 0 x hx)
      simp only at this
      omega
  · rintro e w' ⟨rfl, hto⟩
    exact ⟨rfl, Wi.WOwn.step b d hto⟩
/-- A writer of the call's own, and a box beside it. -/
def WB (W : World) (pv : Value) (b : Nat) (o : Obj) (w : World) (bs : List UInt8) (n : Nat) : Prop :=
  ∃ g, Wi.WrO pv w bs g n ∧ Fr FN W w ∧ (∀ k, Wi.pblk pv = some k ∨ g = some k → W.heap.size ≤ k ∧ k ≠ b) ∧ w.heap[b]? = some o
theorem wb_step {W : World} {pv : Value} {b : Nat} {o : Obj} {w : World} {bs bs' : List UInt8} {m n : Nat} {F : FuncId} {args : Array Value} (h : WB W pv b o w bs m)
    (k : ∀ g, Wi.WrO pv w bs g m → (∀ k, Wi.pblk pv = some k ∨ g = some k → W.heap.size ≤ k ∧ k ≠ b) → Calls Tryz.prog F args w fun e w' => e = .returned (.tuple #[]) ∧ Wi.WTo pv w g w' bs' n) :
    Calls Tryz.prog F args w fun e w' => e = .returned (.tuple #[]) ∧ WB W pv b o w' bs' n := by
  obtain ⟨g, a, f, d, hb⟩ := h
  refine (k g a d).mono ?_
  rintro e w' ⟨rfl, g', a', f', hg⟩
  have f2 := of_wi f'
  refine ⟨rfl, g', a', f.over f2 (fun k hk => (d k hk).1), fun k hk => ?_, f2.heap hb (fun hk => (d b hk).2 rfl)⟩
  rcases hk with hk | hk
  · exact d k (Or.inl hk)
  · rcases hg with e | ⟨k', e, hk'⟩
    · rw [e] at hk; exact d k (Or.inr hk)
    · rw [e] at hk
      have : k' = k := by simpa using hk
      have := f.size
      have := lt_of_heap hb
      exact ⟨by omega, by omega⟩
theorem wb_open {W : World} {pv : Value} {w : World} {bs : List UInt8} {n : Nat} (h : Wi.WOwn W pv w bs n) (o : Obj) : WB W pv w.heap.size o (w.alloc o) bs n := by
  obtain ⟨g, a, f, d⟩ := h
  refine ⟨g, a.alloc o, (of_wi f).same (Fr.alloc _ _ _), fun k hk => ⟨d k hk, ?_⟩, alloc_new _ _⟩
  have := a.lt k hk
  omega
theorem wb_shut {W : World} {pv : Value} {b : Nat} {o : Obj} {w : World} {bs : List UInt8} {n : Nat} (h : WB W pv b o w bs n) : Wi.WOwn W pv w bs n := by
  obtain ⟨g, a, f, d, _⟩ := h
  exact ⟨g, a, to_wi f, fun k hk => (d k hk).1⟩
/-- An item's bytes. -/
def u8 (z : Int) : UInt8 := UInt8.ofNat z.toNat
def itemB (i : Ty.It) : List UInt8 := [u8 i.kind] ++ Wi.rawS i.name ++ [u8 i.typ] ++ Wi.beS i.bits.toNat 8 ++ Wi.intsS i.params
theorem u8_wrap {z : Int} (h0 : 0 ≤ z) (h1 : z ≤ 3) : IntKind.u8.wrap z = ((u8 z).toNat : Int) := by
  have : z = 0 ∨ z = 1 ∨ z = 2 ∨ z = 3 := by omega
  rcases this with rfl | rfl | rfl | rfl <;> rfl
theorem beS_len (n : Nat) : ∀ k, (Wi.beS n k).length = k
  | 0 => rfl
  | k + 1 => by simp [Wi.beS, beS_len n k]
theorem i31_len (x : Int) : (Wi.i31 x).length = 4 := by unfold Wi.i31; exact beS_len _ _
theorem i31s_len (l : List Int) : (l.map Wi.i31).flatten.length = 4 * l.length := by
  induction l with
  | nil => rfl
  | cons x l ih => simp only [List.map_cons, List.flatten_cons, List.length_append, ih, i31_len, List.length_cons]; omega
theorem itemB_len (i : Ty.It) : (itemB i).length = 18 + i.name.length + 4 * i.params.length := by
  unfold itemB Wi.rawS Wi.intsS
  simp only [List.length_append, List.length_singleton, i31_len, beS_len, i31s_len]
  omega
set_option maxHeartbeats 1000000 in
theorem putItem_any (W : World) (pv : Value) (i : Ty.It) (po : Option Addr) (pc : Nat) (bs : List UInt8) (n : Nat) (w : World) (hpv : ∃ a, pv = .pointer a) (h : Wi.WOwn W pv w bs (18 + i.name.length + 4 * i.params.length + n)) (hp : Ty.InL W po pc i.params) (hl : i.params.length ≤ 8) (hn : i.name.length ≤ 1048576) (hk0 : 0 ≤ i.kind) (hk1 : i.kind ≤ 3) (ht0 : 0 ≤ i.typ) (ht1 : i.typ ≤ 3) (hb : U64 i.bits) :
    Calls Tryz.prog 54 #[pv, .agg #[ci i.kind, ct i.name, ci i.typ, .int .u64 i.bits, .slice po i.params.length pc]] w fun e w' => e = .returned (.tuple #[]) ∧ Wi.WOwn W pv w' (bs ++ itemB i) n := by
  obtain ⟨kind, name, typ, bits, params⟩ := i
  obtain ⟨pa, rfl⟩ := hpv
  simp only at *
  obtain ⟨B, rfl⟩ : ∃ B : Nat, bits = (B : Int) := ⟨bits.toNat, by have := hb.1; omega⟩
  have hB : B < 18446744073709551616 := by have := hb.2; omega
  have e1 := u8_wrap hk0 hk1
  have e2 := u8_wrap ht0 ht1
  have o1 := wb_open h (.cells #[ci kind, ct name, ci typ, .int .u64 (B : Int), .slice po params.length pc] 47 (0, 0))
  obtain ⟨W1, hW1⟩ : ∃ W1, W1 = w.alloc (.cells #[ci kind, ct name, ci typ, .int .u64 (B : Int), .slice po params.length pc] 47) := ⟨_, rfl⟩
  obtain ⟨O, hO⟩ : ∃ O, O = Obj.cells #[ci kind, ct name, ci typ, .int .u64 (B : Int), .slice po params.length pc] 47 (0, 0) := ⟨_, rfl⟩
  rw [← hO] at o1
  have hW1' : W1 = w.alloc O := by rw [hO]; exact hW1
  rw [← hW1'] at o1
  have hOH : Hidden (O = _) := hO
  have k1 : ∀ u, WB W (.pointer pa) w.heap.size O u bs (18 + name.length + 4 * params.length + n) → Calls Tryz.prog 86 #[.pointer pa, .int .u8 ((u8 kind).toNat : Int)] u fun e w' => e = .returned (.tuple #[]) ∧ WB W (.pointer pa) w.heap.size O w' (bs ++ [u8 kind]) (17 + name.length + 4 * params.length + n) := fun u hu => wb_step hu fun g a _ => Wi.byte_any _ _ _ g _ u (by rw [show 1 + (17 + name.length + 4 * params.length + n) = 18 + name.length + 4 * params.length + n by omega]; exact a)
  have k2 : ∀ u, WB W (.pointer pa) w.heap.size O u (bs ++ [u8 kind]) (17 + name.length + 4 * params.length + n) → Calls Tryz.prog 52 #[.pointer pa, .string ⟨name.toArray⟩] u fun e w' => e = .returned (.tuple #[]) ∧ WB W (.pointer pa) w.heap.size O w' (bs ++ [u8 kind] ++ Wi.rawS name) (13 + 4 * params.length + n) := fun u hu => wb_step hu fun g a _ => Wi.text_any _ _ _ g _ u (by omega) (by rw [show 4 + (name.length + (13 + 4 * params.length + n)) = 17 + name.length + 4 * params.length + n by omega]; exact a) a.lt
  have k3 : ∀ u, WB W (.pointer pa) w.heap.size O u (bs ++ [u8 kind] ++ Wi.rawS name) (13 + 4 * params.length + n) → Calls Tryz.prog 86 #[.pointer pa, .int .u8 ((u8 typ).toNat : Int)] u fun e w' => e = .returned (.tuple #[]) ∧ WB W (.pointer pa) w.heap.size O w' (bs ++ [u8 kind] ++ Wi.rawS name ++ [u8 typ]) (12 + 4 * params.length + n) := fun u hu => wb_step hu fun g a _ => Wi.byte_any _ _ _ g _ u (by rw [show 1 + (12 + 4 * params.length + n) = 13 + 4 * params.length + n by omega]; exact a)
  have k4 : ∀ u, WB W (.pointer pa) w.heap.size O u (bs ++ [u8 kind] ++ Wi.rawS name ++ [u8 typ]) (12 + 4 * params.length + n) → Calls Tryz.prog 87 #[.pointer pa, .int .u64 (B : Int)] u fun e w' => e = .returned (.tuple #[]) ∧ WB W (.pointer pa) w.heap.size O w' (bs ++ [u8 kind] ++ Wi.rawS name ++ [u8 typ] ++ Wi.beS B 8) (4 + 4 * params.length + n) := fun u hu => wb_step hu fun g a _ => Wi.long_any _ _ _ g _ u hB (by rw [show 8 + (4 + 4 * params.length + n) = 12 + 4 * params.length + n by omega]; exact a)
  have k5 : ∀ u, WB W (.pointer pa) w.heap.size O u (bs ++ [u8 kind] ++ Wi.rawS name ++ [u8 typ] ++ Wi.beS B 8) (4 + 4 * params.length + n) → Calls Tryz.prog 88 #[.pointer pa, .slice po params.length pc] u fun e w' => e = .returned (.tuple #[]) ∧ Wi.WOwn W (.pointer pa) w' (bs ++ [u8 kind] ++ Wi.rawS name ++ [u8 typ] ++ Wi.beS B 8 ++ Wi.intsS params) n := fun u hu => ints_own W _ po pc params _ n u hl hp (by rw [i31s_len, ← Nat.add_assoc]; exact wb_shut hu)
  have hres : bs ++ itemB ⟨kind, name, typ, (B : Int), params⟩ = bs ++ [u8 kind] ++ Wi.rawS name ++ [u8 typ] ++ Wi.beS B 8 ++ Wi.intsS params := by unfold itemB; simp
  rw [hres]
  have boxC : ∀ {u : World} {x : List UInt8} {m : Nat}, WB W (.pointer pa) w.heap.size O u x m → u.cell? ⟨w.heap.size, 0, none⟩ = some (ci kind) ∧ u.cell? ⟨w.heap.size, 1, none⟩ = some (ct name) ∧ u.cell? ⟨w.heap.size, 2, none⟩ = some (ci typ) ∧ u.cell? ⟨w.heap.size, 3, none⟩ = some (.int .u64 (B : Int)) ∧ u.cell? ⟨w.heap.size, 4, none⟩ = some (.slice po params.length pc) := fun hu => by
    obtain ⟨_, _, _, _, hb⟩ := hu
    rw [hO] at hb
    exact Ty.box5 hb
  obtain ⟨c0, c1, c2, c3, c4⟩ := boxC o1
  have o1H : Hidden (WB W (.pointer pa) w.heap.size O W1 bs (18 + name.length + 4 * params.length + n)) := o1
  rw [hW1] at c0 c1 c2 c3 c4
  have hW1H : Hidden (W1 = _) := hW1
  clear h hp hres o1 hO hW1 hW1' hb hk0 hk1 ht0 ht1 hB hn hl
  go_enter Tryz.func54, Tryz.ntmps54
  go_wp2_with fail
  rw [← (show W1 = _ from hW1H)]
  go_at_call 86
  refine (k1 _ o1H).mono ?_
  rintro e w1 ⟨rfl, h1⟩
  obtain ⟨d0, d1, d2, d3, d4⟩ := boxC h1
  go_wp2_with fail
  go_at_call 52
  refine (k2 _ h1).mono ?_
  rintro e w2 ⟨rfl, h2⟩
  clear d0 d1 d2 d3 d4
  obtain ⟨d0, d1, d2, d3, d4⟩ := boxC h2
  go_wp2_with fail
  go_at_call 86
  refine (k3 _ h2).mono ?_
  rintro e w3 ⟨rfl, h3⟩
  clear d0 d1 d2 d3 d4
  obtain ⟨d0, d1, d2, d3, d4⟩ := boxC h3
  go_wp2_with fail
  go_at_call 87
  refine (k4 _ h3).mono ?_
  rintro e w4 ⟨rfl, h4⟩
  clear d0 d1 d2 d3 d4
  obtain ⟨d0, d1, d2, d3, d4⟩ := boxC h4
  go_wp2_with fail
  go_at_call 88
  refine (k5 _ h4).mono ?_
  rintro e w5 ⟨rfl, h5⟩
  go_wp2_with fail
  go_end0
  exact ⟨rfl, h5⟩
end Go.Proofs.YtakkiipkmogagaaGreat.Fo.Ic

namespace Go.Proofs.YtakkiipkmogagaaGreat.Fo.Ic
open Go.RowKit Te
set_option linter.unusedSimpArgs false
set_option linter.unusedVariables false
set_option maxRecDepth 20000

def encS (f : Ty.Fc) : List UInt8 := Wi.rawS f.name ++ Wi.i31 (f.items.length : Int) ++ (f.items.map itemB).flatten
theorem nameR {s : Bs} (h : N.rightS s = 0) : s.length ≤ 32 := by
  unfold N.rightS at h
  split at h
  · split at h
    · cases h
    · omega
  · cases h
theorem rightI_ok {i : Ty.It} (h : Ty.rightI i = 0) : 0 ≤ i.kind ∧ i.kind ≤ 3 ∧ 0 ≤ i.typ ∧ i.typ ≤ 3 ∧ i.params.length ≤ 8 ∧ i.name.length ≤ 32 := by
  unfold Ty.rightI at h
  split at h
  · cases h
  · rename_i hk
    have hk : i.kind = 1 ∨ i.kind = 3 := by omega
    split at h
    · rename_i h1; exact absurd h h1
    · rename_i hn
      split at h
      · cases h
      · rename_i hp
        have hn := nameR (by simpa using hn)
        have ht : 0 ≤ i.typ ∧ i.typ ≤ 3 := by
          split at h
          · split at h
            · rename_i hf
              simp only [Ty.fitsConst, Bool.and_eq_true] at hf
              have := hf.1
              unfold Ty.rightV at this
              split at this
              · omega
              · split at this
                · omega
                · split at this
                  · omega
                  · cases this
            · cases h
          · split at h
            · rename_i hf
              simp only [Ty.fitsFn, Bool.and_eq_true, Bool.or_eq_true] at hf
              rcases hf.1.1 with q | q
              · simp at q; omega
              · rw [Ty.valued_iff] at q; omega
            · cases h
        exact ⟨by omega, by omega, ht.1, ht.2, by omega, hn⟩
theorem rightL_all : ∀ (a : Bs) (l : List Ty.It), Ty.rightL a l = 0 → ∀ i ∈ l, Ty.rightI i = 0
  | _, [], _, i, hi => by simp at hi
  | a, x :: r, h, i, hi => by
    unfold Ty.rightL at h
    split at h
    · rename_i h1; exact absurd h h1
    · rename_i h1
      split at h
      · cases h
      · split at h
        · cases h
        · rcases List.mem_cons.1 hi with rfl | hi
          · simpa using h1
          · exact rightL_all _ r h i hi
theorem rightF_ok {f : Ty.Fc} (h : Ty.rightF f = 0) : f.name.length ≤ 32 ∧ f.items.length ≤ 64 ∧ ∀ i ∈ f.items, Ty.rightI i = 0 := by
  have h0 := h
  unfold Ty.rightF at h
  split at h
  · rename_i h1; exact absurd h h1
  · rename_i h1
    split at h
    · cases h
    · exact ⟨nameR (by simpa using h1), rightF_len h0, rightL_all _ _ h⟩
set_option maxHeartbeats 2000000 in
theorem encode_any (f : Ty.Fc) (v : Value) (w : World) (hf : Ty.FcI w f v) (hn : Ty.OkN f.name) (hok : ∀ i ∈ f.items, Ty.OkI i) :
    Calls Tryz.prog 25 #[v] w fun e w' => ∃ ao cap, e = .returned (.tuple #[.slice ao (if Ty.rightF f = 0 then encS f else []).length cap, ci (Ty.rightF f)]) ∧ Wi.Ow w' w.heap.size (.slice ao (if Ty.rightF f = 0 then encS f else []).length cap) (Wi.bc (if Ty.rightF f = 0 then encS f else [])) ∧ Fr FN w w' := by
  obtain ⟨nm, l⟩ := f
  have kr : ∀ u, Fr FN w u → Calls Tryz.prog 12 #[v] u fun e w' => e = .returned (ci (Ty.rightF ⟨nm, l⟩)) ∧ Fr FN u w' := fun u hu => Ty.rightIface_any ⟨nm, l⟩ v u (hf.keep hu) hn hok
  obtain ⟨ao, ca, rfl, hl⟩ := hf
  have m1 : ca ≤ 9223372036854775807 := by have := hl.2.1; unfold maxLen at this; omega
  have n1 := hl.1
  obtain ⟨rf, hrf⟩ : ∃ r, Ty.rightF ⟨nm, l⟩ = r := ⟨_, rfl⟩
  rw [hrf] at kr ⊢
  have f0 := Fr.alloc FN w (.cells #[ct nm, .slice ao l.length ca] 25)
  have hbx : (w.alloc (.cells #[ct nm, .slice ao l.length ca] 25)).heap[w.heap.size]? = some (.cells #[ct nm, .slice ao l.length ca] 25 (0, 0)) := alloc_new _ _
  simp only at kr hl n1 m1 ⊢
  by_cases h0 : rf = 0
  · subst h0
    rw [if_pos rfl]
    obtain ⟨r1, r2, r3⟩ := rightF_ok hrf
    simp only at r1 r2 r3
    obtain ⟨E, hE⟩ : ∃ E, encS ⟨nm, l⟩ = E := ⟨_, rfl⟩
    have hEH : Hidden (Wi.rawS nm ++ Wi.i31 (l.length : Int) ++ (l.map itemB).flatten = E) := hE
    rw [hE]
    have kN : ∀ u : World, Wi.WOwn u (.pointer (some ⟨u.heap.size, 0, none⟩)) (u.alloc (.cells #[.slice none 0 0] 99)) [] (4 + (nm.length + (4 + 64 * 82))) := fun u => Wi.WOwn.new u _ (by omega)
    have kT : ∀ (W u : World) (p : Nat), Wi.WOwn W (.pointer (some ⟨p, 0, none⟩)) u [] (4 + (nm.length + (4 + 64 * 82))) → Calls Tryz.prog 52 #[.pointer (some ⟨p, 0, none⟩), .string ⟨nm.toArray⟩] u fun e w' => e = .returned (.tuple #[]) ∧ Wi.WOwn W (.pointer (some ⟨p, 0, none⟩)) w' (Wi.rawS nm) (4 + 64 * 82) := fun W u p h => Wi.text_own W _ nm [] _ u (by omega) h
    have kZ : ∀ (W u : World) (p : Nat), Wi.WOwn W (.pointer (some ⟨p, 0, none⟩)) u (Wi.rawS nm) (4 + 64 * 82) → Calls Tryz.prog 53 #[.pointer (some ⟨p, 0, none⟩), .int .i64 (l.length : Int)] u fun e w' => e = .returned (.tuple #[]) ∧ Wi.WOwn W (.pointer (some ⟨p, 0, none⟩)) w' (Wi.rawS nm ++ Wi.i31 (l.length : Int)) (64 * 82) := fun W u p h => int_own W _ _ _ _ u h
    have hlH : Hidden (Ty.ItL w ao ca l) := hl
    have r3H : Hidden (∀ i ∈ l, Ty.rightI i = 0) := r3
    have hokH : Hidden (∀ i ∈ l, Ty.OkI i) := hok
    have r2H : Hidden (l.length ≤ 64) := r2
    have f0H : Hidden (Fr FN w (w.alloc (.cells #[ct nm, .slice ao l.length ca] 25))) := f0
    have hbxH : Hidden ((w.alloc (.cells #[ct nm, .slice ao l.length ca] 25)).heap[w.heap.size]? = some (.cells #[ct nm, .slice ao l.length ca] 25 (0, 0))) := hbx
    clear hrf hl hE r1 r3 hok hn hbx r2
    go_enter Tryz.func25, Tryz.ntmps25
    go_wp2_with fail
    go_at_call 12
    refine Calls.mono (kr _ f0) ?_
    rintro e w1 ⟨rfl, f1⟩
    have g1 : Fr FN w w1 := (show Fr FN w _ from f0H).same f1
    have bx1 := f1.heap (show (w.alloc _).heap[w.heap.size]? = _ from hbxH) (fun f => f)
    have o1 := kN w1
    have bxa := (Fr.alloc FN w1 (.cells #[.slice none 0 0] 99)).heap bx1 (fun f => f)
    obtain ⟨c0, c1⟩ := Ty.box2 bxa
    go_wp2_with fail
    go_at_call 52
    refine Calls.mono (kT w1 _ _ o1) ?_
    rintro e w2 ⟨rfl, o2⟩
    have g2 : Fr FN w1 w2 := of_wi o2.fr
    obtain ⟨d0, d1⟩ := Ty.box2 (g2.heap bx1 (fun f => f))
    go_wp2_with fail
    go_at_call 53
    refine Calls.mono (kZ w1 _ _ o2) ?_
    rintro e w3 ⟨rfl, o3⟩
    have g3 : Fr FN w1 w3 := of_wi o3.fr
    obtain ⟨e0, e1⟩ := Ty.box2 (g3.heap bx1 (fun f => f))
    have g1H : Hidden (Fr FN w w1) := g1
    have o3H : Hidden (Wi.WOwn w1 (.pointer (some ⟨w1.heap.size, 0, none⟩)) w3 (Wi.rawS nm ++ Wi.i31 (l.length : Int)) (64 * 82)) := o3
    clear g1 g2 g3 o1 o2 o3 bx1 bxa c0 c1 d0 d1 f1 kr f0 kN kT kZ
    go_wp2_with fail
    go_loopg [23] l.length (fun k iv wr => ∃ j : Nat, iv = ci (j : Int) ∧ j ≤ l.length ∧ k = l.length - j ∧ Wi.WOwn w1 (.pointer (some ⟨w1.heap.size, 0, none⟩)) wr (Wi.rawS nm ++ Wi.i31 (l.length : Int) ++ ((l.take j).map itemB).flatten) ((64 - j) * 82))
    case atStart => exact ⟨0, rfl, by omega, rfl, by have h := (show Wi.WOwn w1 _ w3 _ _ from o3H); simpa using h⟩
    case round =>
      obtain ⟨j, rfl, hj, hgk, ho⟩ := hrel
      have hgkH : Hidden (gk = l.length - j) := hgk
      have hoH : Hidden (Wi.WOwn w1 (.pointer (some ⟨w1.heap.size, 0, none⟩)) wr (Wi.rawS nm ++ Wi.i31 (l.length : Int) ++ ((l.take j).map itemB).flatten) ((64 - j) * 82)) := ho
      have gr : Fr FN w1 wr := of_wi ho.fr
      clear hgk ho
      by_cases hjl : j < l.length
      · obtain ⟨x, hx⟩ : ∃ x, l[j]? = some x := ⟨l[j], List.getElem?_eq_getElem hjl⟩
        have hmem := List.mem_of_getElem? hx
        obtain ⟨q1, q2, q3, q4, q5, q6⟩ := rightI_ok ((show ∀ i ∈ l, Ty.rightI i = 0 from r3H) x hmem)
        have hxo := (show ∀ i ∈ l, Ty.OkI i from hokH) x hmem
        obtain ⟨b, off, ap, cp, rfl, hin, d0, d1, d2, d3, d4⟩ := Ty.ItL.at (show Ty.ItL w _ ca l from hlH) hx
        have gw : Fr FN w wr := (show Fr FN w w1 from g1H).same gr
        replace d0 := gw.cellN d0
        replace d1 := gw.cellN d1
        replace d2 := gw.cellN d2
        replace d3 := gw.cellN d3
        replace d4 := gw.cellN d4
        have oB : Wi.WOwn w1 (.pointer (some ⟨w1.heap.size, 0, none⟩)) (wr.alloc (.cells #[ci x.kind, ct x.name, ci x.typ, .int .u64 x.bits, .slice ap x.params.length cp] 47)) (Wi.rawS nm ++ Wi.i31 (l.length : Int) ++ ((l.take j).map itemB).flatten) (18 + x.name.length + 4 * x.params.length + (64 - (j + 1)) * 82) := by
          refine ((show Wi.WOwn w1 _ wr _ _ from hoH).keep (to_wi (Fr.alloc FN wr _)) (fun k f => False.elim f)).less ?_
          have : l.length ≤ 64 := r2H
          obtain ⟨t, ht⟩ : ∃ t, 64 - j = t + 1 := ⟨63 - j, by omega⟩
          rw [ht, show 64 - (j + 1) = t by omega]
          omega
        have kP := putItem_any w1 (.pointer (some ⟨w1.heap.size, 0, none⟩)) x ap cp _ _ _ ⟨_, rfl⟩ oB (hin.keep g1H) q5 (by omega) q1 q2 q3 q4 hxo.bits
        have htk : Hidden (((l.take (j + 1)).map itemB).flatten = ((l.take j).map itemB).flatten ++ itemB x) := by show _ = _; rw [take_snoc hx]; simp
        obtain ⟨xk, xn, xt, xb, xp⟩ := x
        simp only at d0 d1 d2 d3 d4 kP htk
        clear hx hmem q1 q2 q3 q4 q5 q6 hxo hin gw oB gr
        go_wp2_with (go_at_call 54; refine Calls.mono kP ?_; rintro e w5 ⟨rfl, o5⟩)
        go_roundg (l.length - (j + 1))
        case measure => have : gk = l.length - j := hgkH; omega
        case rel => exact ⟨j + 1, by go_num, by omega, rfl, by rw [(show ((l.take (j + 1)).map itemB).flatten = _ from htk), ← List.append_assoc]; exact o5⟩
      · obtain rfl : j = l.length := by omega
        have ho := (show Wi.WOwn w1 _ wr _ _ from hoH)
        rw [List.take_length, (show Wi.rawS nm ++ Wi.i31 (l.length : Int) ++ (l.map itemB).flatten = E from hEH)] at ho
        have kb := Wi.bytes_own w1 w1.heap.size E _ wr ho
        clear ho
        go_wp2_with (go_at_call 55; refine Calls.mono kb ?_; rintro e w5 ⟨ba, bc, rfl, o5, f5⟩)
        go_ret2
        refine ⟨ba, bc, rfl, ?_, ((show Fr FN w w1 from g1H).same gr).same (of_wi f5)⟩
        obtain ⟨p1, ao5, len5, cap5, e5, p2⟩ := o5
        refine ⟨p1, ao5, len5, cap5, e5, ?_⟩
        rcases p2 with p2 | ⟨g5, off5, p3, p4, p5⟩
        · exact Or.inl p2
        · exact Or.inr ⟨g5, off5, p3, by have := (show Fr FN w w1 from g1H).size; have := gr.size; omega, p5⟩
  · rw [if_neg h0]
    have b1 : (rf != 0) = true := by simpa using h0
    clear h0 hrf hl hbx
    go_enter Tryz.func25, Tryz.ntmps25
    go_wp2_with (go_at_call 12; refine Calls.mono (kr _ f0) ?_; rintro e w1 ⟨rfl, f1⟩)
    go_ret2
    exact ⟨none, 0, rfl, Wi.Ow.nil _ _, f0.same f1⟩
end Go.Proofs.YtakkiipkmogagaaGreat.Fo.Ic

namespace Go.Proofs.YtakkiipkmogagaaGreat.Fo.Ic
open Go.RowKit Te
set_option linter.unusedSimpArgs false
set_option linter.unusedVariables false
set_option maxRecDepth 20000

theorem take_app {a b : List UInt8} {n : Nat} (h : a.length = n) : (a ++ b).take n = a := by rw [← h]; exact List.take_left
theorem drop_app {a b : List UInt8} {n : Nat} (h : a.length = n) : (a ++ b).drop n = b := by rw [← h]; exact List.drop_left
/-- A value was read. -/
abbrev Tk (q : Nat) (w : World) (v : Value) (rest : List UInt8) (e : Ending) (w' : World) : Prop := e = .returned v ∧ Wi.Rd w' q rest 0 ∧ Fr (fun k => k = q) w w'
theorem tk_of {q : Nat} {w : World} {v : Value} {rest : List UInt8} {e : Ending} {w' : World} (h : Wi.Took q w (Wi.Is v) rest e w') : Tk q w v rest e w' := by
  obtain ⟨⟨x, rfl, hx⟩, h2, h3⟩ := h
  have hx : x = v := hx
  subst hx
  exact ⟨rfl, h2, of_wi h3⟩
theorem byte_in (q : Nat) (c : UInt8) (more : List UInt8) (w : World) (hr : Wi.Rd w q ([c] ++ more) 0) : Calls Tryz.prog 61 #[Wi.rp q] w (Tk q w (.int .u8 (c.toNat : Int)) more) :=
  (Wi.rd_Byte_in q _ more (Wi.Is (.int .u8 (c.toNat : Int))) w hr (fun w1 h => Wi.takeByte_in q c more w1 h)).mono fun _ _ => tk_of
theorem long_in (q : Nat) (N : Nat) (more : List UInt8) (w : World) (hN : N < 18446744073709551616) (hr : Wi.Rd w q (Wi.beS N 8 ++ more) 0) : Calls Tryz.prog 62 #[Wi.rp q] w (Tk q w (.int .u64 (N : Int)) more) :=
  (Wi.rd_Long_in q _ more (Wi.Is (.int .u64 (N : Int))) w hr (fun w1 h => by have := Wi.takeLong_in q _ w1 (by rw [List.length_append, beS_len]; omega) h; rw [take_app (beS_len _ _), drop_app (beS_len _ _), Wi.num_be, Nat.mod_eq_of_lt (by omega)] at this; exact this)).mono fun _ _ => tk_of
theorem int_in (q : Nat) (N : Nat) (more : List UInt8) (w : World) (hN : N < 2147483648) (hr : Wi.Rd w q (Wi.i31 (N : Int) ++ more) 0) : Calls Tryz.prog 30 #[Wi.rp q] w (Tk q w (ci (N : Int)) more) :=
  (Wi.rd_Int_in q _ more (Wi.Is (ci (N : Int))) w hr (fun w1 h => by have := Wi.takeInt_in q _ N w1 (by rw [List.length_append, i31_len]; omega) (by show Wi.numS _ = _; rw [take_app (i31_len _)]; exact Wi.num_len N hN) hN h; rw [drop_app (i31_len _)] at this; exact this)).mono fun _ _ => tk_of
theorem text_in (q : Nat) (s more : List UInt8) (w : World) (hs : s.length ≤ 32) (hr : Wi.Rd w q (Wi.rawS s ++ more) 0) : Calls Tryz.prog 9 #[Wi.rp q, ci 32] w (Tk q w (.string ⟨s.toArray⟩) more) := by
  refine (Wi.rd_Text_in q _ more (Wi.Is (.string ⟨s.toArray⟩)) w hr (fun w1 _ h => ?_)).mono fun _ _ => tk_of
  have e4 : (Wi.rawS s ++ more).drop 4 = s ++ more := by rw [Wi.rawS, List.append_assoc]; exact drop_app (i31_len _)
  have := Wi.takeText_in q (Wi.rawS s ++ more) s.length 32 w1 (by rw [Wi.rawS, List.length_append, List.length_append, i31_len]; omega) (by show Wi.numS _ = _; rw [Wi.rawS, List.append_assoc, take_app (i31_len _)]; exact Wi.num_len _ (by omega)) (by omega) (by omega) h (by rw [e4]; simp)
  rw [e4, take_app rfl, drop_app rfl] at this
  exact this
/-- Ints were read, into a row of the call's own. -/
abbrev Tki (q : Nat) (w : World) (l : List Int) (rest : List UInt8) (e : Ending) (w' : World) : Prop := ∃ ao cap, e = .returned (.slice ao l.length cap) ∧ Ty.InL w' ao cap l ∧ (l = [] ∨ ∀ k, (Value.slice ao l.length cap).ownBlock = some k → w.heap.size ≤ k ∧ k < w'.heap.size) ∧ Wi.Rd w' q rest 0 ∧ Fr (fun k => k = q) w w'
theorem u31 {x : Int} (h0 : 0 ≤ x) (h1 : x < 2147483648) : ((Wi.u64 x % 2147483648 : Nat) : Int) = x := by unfold Wi.u64; omega
theorem map_u31 (l : List Int) (h : ∀ x ∈ l, 0 ≤ x ∧ x < 2147483648) : (l.map fun x : Int => Value.int .i64 ((Wi.u64 x % 2147483648 : Nat) : Int)) = l.map ci := by
  apply List.map_congr_left
  intro x hx
  rw [u31 (h x hx).1 (h x hx).2]
theorem ints_in (q : Nat) (l : List Int) (more : List UInt8) (w : World) (hl : l.length ≤ 8) (hx : ∀ x ∈ l, 0 ≤ x ∧ x < 2147483648) (hr : Wi.Rd w q (Wi.intsS l ++ more) 0) : Calls Tryz.prog 63 #[Wi.rp q, ci 8] w (Tki q w l more) := by
  refine (Wi.rd_Ints_in q _ more (Wi.NewL w.heap.size (l.map fun x : Int => Value.int .i64 ((Wi.u64 x % 2147483648 : Nat) : Int))) w hr (fun w1 hf1 h => ?_)).mono ?_
  · refine (Wi.list_int_in w1 q l l.length rfl 8 more (by rw [Wi.intsS, List.append_assoc] at h; exact h) (by omega) (by omega) (fun x mr w2 _ _ h => ?_)).mono ?_
    · have := Wi.takeInt_in q (Wi.i31 x ++ mr) (Wi.u64 x % 2147483648) w2 (by rw [List.length_append, i31_len]; omega) (by show Wi.numS _ = _; rw [take_app (i31_len _)]; exact Wi.num_i31 x) (Nat.mod_lt _ (by omega)) h
      rw [drop_app (i31_len _)] at this
      exact this
    · rintro e w' ⟨⟨v, rfl, ao, cap, q1, q2, q3, q4, q5⟩, q6, q7⟩
      refine ⟨⟨v, rfl, ao, cap, q1, q2, q3, q4, fun k hk => ?_⟩, q6, q7⟩
      have := q5 k hk
      have := hf1.size
      simp at this
      omega
  · rintro e w' ⟨⟨v, rfl, ao, cap, rfl, q2, q3, q4, q5⟩, q6, q7⟩
    rw [map_u31 l hx] at q4 q5
    rw [List.length_map] at q4 q5 q2 ⊢
    obtain ⟨ao', cap', e, p1, p2, p3, p4⟩ := q4
    simp only [Value.slice.injEq] at e
    obtain ⟨rfl, _, rfl⟩ := e
    have hin : Ty.InL w' ao cap l := by
      refine ⟨q2, q3, p3, ?_⟩
      rcases p4 with p4 | ⟨b, off, rfl, p4⟩
      · left; simpa using p4
      · exact Or.inr ⟨b, off, rfl, fun i x hx => p4 i (ci x) (by rw [List.getElem?_map, hx]; rfl)⟩
    refine ⟨ao, cap, rfl, hin, ?_, q6, of_wi q7⟩
    by_cases hz : l = []
    · exact Or.inl hz
    right
    intro k hk
    refine ⟨q5 k hk, ?_⟩
    obtain ⟨x, hx0⟩ : ∃ x, l[0]? = some x := by
      cases l with
      | nil => exact absurd rfl hz
      | cons x r => exact ⟨x, rfl⟩
    rcases hin.2.2.2 with h0 | ⟨b, off, rfl, h4⟩
    · exact absurd h0 hz
    · have := World.block_lt_of_cell? w' _ (h4 0 x hx0)
      have hk : b = k := by simpa [Value.ownBlock] using hk
      simp only at this
      omega
/-- A reader, and a box that was made beside it. -/
def RB (w : World) (g q : Nat) (t : TypeId) (rest : List UInt8) (c : Array Value) (wx : World) : Prop := Wi.Rd wx q rest 0 ∧ wx.heap[g]? = some (.cells c t (0, 0)) ∧ Fr (fun k => k = q) w wx ∧ q < w.heap.size ∧ w.heap.size ≤ g
theorem RB.next {w : World} {g q : Nat} {t : TypeId} {rest rest' : List UInt8} {c : Array Value} {wx wy : World} (h : RB w g q t rest c wx) (hr : Wi.Rd wy q rest' 0) (hf : Fr (fun k => k = q) wx wy) : RB w g q t rest' c wy :=
  ⟨hr, hf.heap h.2.1 (fun e => by have := h.2.2.2; have e : g = q := e; omega), h.2.2.1.same hf, h.2.2.2⟩
theorem RB.put {w : World} {g q : Nat} {t : TypeId} {rest : List UInt8} {c : Array Value} {wx : World} (h : RB w g q t rest c wx) (i : Nat) (v : Value) : RB w g q t rest (c.setIfInBounds i v) (wx.setCell ⟨g, i, none⟩ v) := by
  have hf := Fr.setCell wx ⟨g, i, none⟩ v
  have h4 := h.2.2.2
  refine ⟨h.1.aside (to_wi hf) (fun k hk => by have hk : k = g := hk; omega), heap_setCell_same wx _ i _ _ _ h.2.1, h.2.2.1.trans hf (fun k hk e => by have e : k = g := e; omega), h.2.2.2⟩
theorem rightI_par {i : Ty.It} (h : Ty.rightI i = 0) : ∀ x ∈ i.params, 0 ≤ x ∧ x < 2147483648 := by
  unfold Ty.rightI at h
  split at h
  · cases h
  · split at h
    · rename_i h1; exact absurd h h1
    · split at h
      · cases h
      · split at h
        · split at h
          · rename_i hf
            simp only [Ty.fitsConst, Bool.and_eq_true, decide_eq_true_eq] at hf
            rw [List.eq_nil_of_length_eq_zero hf.2]
            simp
          · cases h
        · split at h
          · rename_i hf
            simp only [Ty.fitsFn, Bool.and_eq_true, Bool.or_eq_true] at hf
            intro x hx
            have := hf.2
            simp only [List.all_eq_true] at this
            have := this x hx
            rw [Ty.valued_iff] at this
            omega
          · cases h
theorem u8_nat {z : Int} (h0 : 0 ≤ z) (h1 : z ≤ 3) : ((u8 z).toNat : Int) = z := by
  have : z = 0 ∨ z = 1 ∨ z = 2 ∨ z = 3 := by omega
  rcases this with rfl | rfl | rfl | rfl <;> rfl
end Go.Proofs.YtakkiipkmogagaaGreat.Fo.Ic

namespace Go.Proofs.YtakkiipkmogagaaGreat.Fo.Ic
open Go.RowKit Te
set_option linter.unusedSimpArgs false
set_option linter.unusedVariables false
set_option maxRecDepth 20000

theorem results_cell1 {fn : Func} {p : Tmp} {ty : TypeId} (h : fn.results = #[.cell p ty]) (tmps : Array Value) (P : Program) (w : World) :
    (results fn tmps).run P w = ((asAddr (tmps.getD p undef)).run P w).andThen fun a w₁ => (loadVar ty a).run P w₁ := by
  simp only [results, h]
  simp [Sem.run_bind, Result.andThen]
theorem post_cell1 {fn : Func} {R : Ending → World → Prop} {a : Act} {w : World} {p : Tmp} {ty : TypeId} (h : fn.results = #[.cell p ty]) (hd : a.defers = []) (g : Nat) (cs : Array Value)
    (hp : a.tmps.getD p undef = .pointer (some ⟨g, 0, none⟩)) (hl : (loadVar ty ⟨g, 0, none⟩).run Tryz.prog w = .ok (.agg cs) w)
    (hR : R (.returned (.agg cs)) w) : bodyPost Tryz.prog fn R .ret a w := by
  refine ⟨hd, _, ?_, hR⟩
  rw [results_cell1 h, hp]
  simp [asAddr, hl, Result.andThen]
theorem size_item5 : (Tryz.prog.info? 47).map (·.size) = some 5 := by kernel_rfl
theorem i64_small {z : Int} (h0 : 0 ≤ z) (h1 : z ≤ 3) : IntKind.i64.wrap z = z := by
  have : z = 0 ∨ z = 1 ∨ z = 2 ∨ z = 3 := by omega
  rcases this with rfl | rfl | rfl | rfl <;> rfl
set_option maxHeartbeats 2000000 in
theorem takeItem_in (i : Ty.It) (q : Nat) (rest : List UInt8) (w : World) (hr : Wi.Rd w q (itemB i ++ rest) 0) (hi : Ty.rightI i = 0) (hb : U64 i.bits) :
    Calls Tryz.prog 31 #[Wi.rp q] w fun e w' => ∃ po pc, e = .returned (.agg #[ci i.kind, ct i.name, ci i.typ, .int .u64 i.bits, .slice po i.params.length pc]) ∧ Ty.InL w' po pc i.params ∧ (i.params = [] ∨ ∀ k, (Value.slice po i.params.length pc).ownBlock = some k → w.heap.size ≤ k ∧ k < w'.heap.size) ∧ Wi.Rd w' q rest 0 ∧ Fr (fun k => k = q) w w' := by
  obtain ⟨hk0, hk1, ht0, ht1, hpl, hnl⟩ := rightI_ok hi
  have hpar := rightI_par hi
  obtain ⟨kind, name, typ, bits, params⟩ := i
  simp only at *
  obtain ⟨B, rfl⟩ : ∃ B : Nat, bits = (B : Int) := ⟨bits.toNat, by have := hb.1; omega⟩
  have hB : B < 18446744073709551616 := by have := hb.2; omega
  have e0 : itemB ⟨kind, name, typ, (B : Int), params⟩ ++ rest = [u8 kind] ++ (Wi.rawS name ++ ([u8 typ] ++ (Wi.beS B 8 ++ (Wi.intsS params ++ rest)))) := by unfold itemB; simp
  rw [e0] at hr
  have hq := hr.lt
  obtain ⟨V, hV⟩ : ∃ V, V = w.alloc zIt := ⟨_, rfl⟩
  have fwV : Fr FN w V := by rw [hV]; exact Fr.alloc _ _ _
  have hsV : V.heap.size = w.heap.size + 1 := by rw [hV]; simp
  have hVz : V.heap[w.heap.size]? = some zIt := by rw [hV]; exact alloc_new _ _
  have o1 : RB V (w.heap.size + 1) q 47 ([u8 kind] ++ (Wi.rawS name ++ ([u8 typ] ++ (Wi.beS B 8 ++ (Wi.intsS params ++ rest))))) #[ci 0, .string ⟨#[]⟩, ci 0, .int .u64 0, .slice none 0 0] (V.alloc zIt) :=
    ⟨(hr.later (to_wi fwV)).later (to_wi (Fr.alloc FN V _)), by rw [← hsV]; exact alloc_new _ _, Fr.alloc _ _ _, by omega, by omega⟩
  have boxR : ∀ {r : List UInt8} {c : Array Value} {u : World}, RB V (w.heap.size + 1) q 47 r c u → u.heap[w.heap.size]? = some zIt := fun h => h.2.2.1.heap hVz (fun e => by have e : w.heap.size = q := e; omega)
  have ew1 := i64_small hk0 hk1
  have ew2 := i64_small ht0 ht1
  have en1 := u8_nat hk0 hk1
  have en2 := u8_nat ht0 ht1
  have k1 : ∀ (c : Array Value) u, RB V (w.heap.size + 1) q 47 ([u8 kind] ++ (Wi.rawS name ++ ([u8 typ] ++ (Wi.beS B 8 ++ (Wi.intsS params ++ rest))))) c u → Calls Tryz.prog 61 #[Wi.rp q] u fun e w' => e = .returned (.int .u8 kind) ∧ RB V (w.heap.size + 1) q 47 (Wi.rawS name ++ ([u8 typ] ++ (Wi.beS B 8 ++ (Wi.intsS params ++ rest)))) c w' := fun c u h => (byte_in q _ _ u h.1).mono fun _ _ ⟨a, b, c⟩ => ⟨by rw [a, en1], h.next b c⟩
  have k2 : ∀ (c : Array Value) u, RB V (w.heap.size + 1) q 47 (Wi.rawS name ++ ([u8 typ] ++ (Wi.beS B 8 ++ (Wi.intsS params ++ rest)))) c u → Calls Tryz.prog 9 #[Wi.rp q, ci 32] u fun e w' => e = .returned (.string ⟨name.toArray⟩) ∧ RB V (w.heap.size + 1) q 47 ([u8 typ] ++ (Wi.beS B 8 ++ (Wi.intsS params ++ rest))) c w' := fun c u h => (text_in q _ _ u hnl h.1).mono fun _ _ ⟨a, b, c⟩ => ⟨a, h.next b c⟩
  have k3 : ∀ (c : Array Value) u, RB V (w.heap.size + 1) q 47 ([u8 typ] ++ (Wi.beS B 8 ++ (Wi.intsS params ++ rest))) c u → Calls Tryz.prog 61 #[Wi.rp q] u fun e w' => e = .returned (.int .u8 typ) ∧ RB V (w.heap.size + 1) q 47 (Wi.beS B 8 ++ (Wi.intsS params ++ rest)) c w' := fun c u h => (byte_in q _ _ u h.1).mono fun _ _ ⟨a, b, c⟩ => ⟨by rw [a, en2], h.next b c⟩
  have k4 : ∀ (c : Array Value) u, RB V (w.heap.size + 1) q 47 (Wi.beS B 8 ++ (Wi.intsS params ++ rest)) c u → Calls Tryz.prog 62 #[Wi.rp q] u fun e w' => e = .returned (.int .u64 (B : Int)) ∧ RB V (w.heap.size + 1) q 47 (Wi.intsS params ++ rest) c w' := fun c u h => (long_in q _ _ u hB h.1).mono fun _ _ ⟨a, b, c⟩ => ⟨a, h.next b c⟩
  have k5 : ∀ (c : Array Value) u, RB V (w.heap.size + 1) q 47 (Wi.intsS params ++ rest) c u → Calls Tryz.prog 63 #[Wi.rp q, ci 8] u fun e w' => ∃ po pc, e = .returned (.slice po params.length pc) ∧ Ty.InL w' po pc params ∧ (params = [] ∨ ∀ k, (Value.slice po params.length pc).ownBlock = some k → u.heap.size ≤ k ∧ k < w'.heap.size) ∧ RB V (w.heap.size + 1) q 47 rest c w' := fun c u h => (ints_in q _ _ u hpl hpar h.1).mono fun _ _ ⟨po, pc, a, b, c, d, e⟩ => ⟨po, pc, a, b, c, h.next d e⟩
  have o1H : Hidden (RB V (w.heap.size + 1) q 47 ([u8 kind] ++ (Wi.rawS name ++ ([u8 typ] ++ (Wi.beS B 8 ++ (Wi.intsS params ++ rest))))) #[ci 0, .string ⟨#[]⟩, ci 0, .int .u64 0, .slice none 0 0] (V.alloc zIt)) := o1
  have hVH : Hidden (V = w.alloc zIt) := hV
  have hsVH : Hidden (V.heap.size = w.heap.size + 1) := hsV
  have fwVH : Hidden (Fr FN w V) := fwV
  clear hr hi hb e0 o1 hV fwV hVz hpar hpl hnl hB hk0 hk1 ht0 ht1 en1 en2 hsV
  go_enter Tryz.func31, Tryz.ntmps31
  go_wp2_with fail
  rw [← (show V = _ from hVH)]
  go_at_call 61
  refine (k1 _ _ o1H).mono ?_
  rintro e w1 ⟨rfl, h1⟩
  have f0 := Ty.frozen_row h1.2.1 0
  obtain ⟨a0, a1, a2, a3, a4⟩ := Ty.box5 h1.2.1
  go_wp2_with fail
  have h1' : RB V (w.heap.size + 1) q 47 _ #[ci kind, .string ⟨#[]⟩, ci 0, .int .u64 0, .slice none 0 0] (w1.setCell ⟨w.heap.size + 1, 0, none⟩ (ci kind)) := h1.put 0 (ci kind)
  go_at_call 9
  refine (k2 _ _ h1').mono ?_
  rintro e w2 ⟨rfl, h2⟩
  clear f0 a0 a1 a2 a3 a4
  have f1 := Ty.frozen_row h2.2.1 1
  obtain ⟨a0, a1, a2, a3, a4⟩ := Ty.box5 h2.2.1
  go_wp2_with fail
  have h2' : RB V (w.heap.size + 1) q 47 _ #[ci kind, ct name, ci 0, .int .u64 0, .slice none 0 0] (w2.setCell ⟨w.heap.size + 1, 1, none⟩ (ct name)) := h2.put 1 (ct name)
  go_at_call 61
  refine (k3 _ _ h2').mono ?_
  rintro e w3 ⟨rfl, h3⟩
  clear f1 a0 a1 a2 a3 a4
  have f2 := Ty.frozen_row h3.2.1 2
  obtain ⟨a0, a1, a2, a3, a4⟩ := Ty.box5 h3.2.1
  go_wp2_with fail
  have h3' : RB V (w.heap.size + 1) q 47 _ #[ci kind, ct name, ci typ, .int .u64 0, .slice none 0 0] (w3.setCell ⟨w.heap.size + 1, 2, none⟩ (ci typ)) := h3.put 2 (ci typ)
  go_at_call 62
  refine (k4 _ _ h3').mono ?_
  rintro e w4 ⟨rfl, h4⟩
  clear f2 a0 a1 a2 a3 a4
  have f3 := Ty.frozen_row h4.2.1 3
  obtain ⟨a0, a1, a2, a3, a4⟩ := Ty.box5 h4.2.1
  go_wp2_with fail
  have h4' : RB V (w.heap.size + 1) q 47 _ #[ci kind, ct name, ci typ, .int .u64 (B : Int), .slice none 0 0] (w4.setCell ⟨w.heap.size + 1, 3, none⟩ (.int .u64 (B : Int))) := h4.put 3 (.int .u64 (B : Int))
  go_at_call 63
  refine (k5 _ _ h4').mono ?_
  rintro e w5 ⟨po, pc, rfl, hin, hown, h5⟩
  clear f3 a0 a1 a2 a3 a4
  have hz := boxR h5
  have f4 := Ty.frozen_row h5.2.1 4
  obtain ⟨a0, a1, a2, a3, a4⟩ := Ty.box5 h5.2.1
  have h5' : RB V (w.heap.size + 1) q 47 rest #[ci kind, ct name, ci typ, .int .u64 (B : Int), .slice po params.length pc] (w5.setCell ⟨w.heap.size + 1, 4, none⟩ (.slice po params.length pc)) := h5.put 4 _
  have hz' := boxR h5'
  have h5H : Hidden (RB V (w.heap.size + 1) q 47 rest #[ci kind, ct name, ci typ, .int .u64 (B : Int), .slice po params.length pc] (w5.setCell ⟨w.heap.size + 1, 4, none⟩ (.slice po params.length pc))) := h5'
  have z0 := Ty.frozen_row hz 0
  have z1 := Ty.frozen_row hz 1
  have z2 := Ty.frozen_row hz 2
  have z3 := Ty.frozen_row hz 3
  have z4 := Ty.frozen_row hz 4
  obtain ⟨b0, b1, b2, b3, b4⟩ := Ty.box5 hz
  have hs4 : w.heap.size + 1 < w4.heap.size := by have := lt_of_heap h4.2.1; omega
  have hH : Hidden (Ty.InL w5 po pc params ∧ (params = [] ∨ ∀ k, (Value.slice po params.length pc).ownBlock = some k → w4.heap.size ≤ k ∧ k < w5.heap.size)) := ⟨hin, by simpa using hown⟩
  clear hin hown h1 h2 h3 h4 h5 h1' h2' h3' h4' h5' k1 k2 k3 k4 k5 boxR
  go_wp2_with fail
  obtain ⟨hin, hown⟩ := (show _ ∧ _ from hH)
  have h5' := (show RB V _ q _ rest _ _ from h5H)
  have g1 := Fr.setCell w5 ⟨w.heap.size + 1, 4, none⟩ (.slice po params.length pc)
  have g2 := five_at (w5.setCell ⟨w.heap.size + 1, 4, none⟩ (.slice po params.length pc)) w.heap.size (ci kind) (ct name) (ci typ) (.int .u64 (B : Int)) (.slice po params.length pc)
  have hq' : q < w.heap.size := hq
  have fV2 : Fr (fun k => k = q) w (w5.setCell ⟨w.heap.size + 1, 4, none⟩ (.slice po params.length pc)) := ((show Fr FN w V from fwVH).mono (fun _ _ f => f.elim)).same h5'.2.2.1
  refine post_cell1 rfl rfl _ _ rfl (run_loadVar_row _ _ _ _ _ _ _ (five_put hz' _ _ _ _ _) Tryz.underlying47 rfl size_item5) ⟨po, pc, rfl, ?_, ?_, ?_, ?_⟩
  · by_cases hp : params = []
    · subst hp; exact ⟨hin.1, hin.2.1, hin.2.2.1, Or.inl rfl⟩
    · have ho := hown.resolve_left hp
      refine InL_keepS (InL_keepS hin g1 fun k hk e => ?_) g2 fun k hk e => ?_
      · have := (ho k hk).1; have e : k = w.heap.size + 1 := e; omega
      · have := (ho k hk).1; have e : k = w.heap.size := e; omega
  · rcases hown with h0 | ho
    · exact Or.inl h0
    · right
      intro k hk
      exact ⟨by have := (ho k hk).1; omega, Nat.lt_of_lt_of_le (ho k hk).2 (Nat.le_trans g1.size g2.size)⟩
  · exact h5'.1.aside (to_wi g2) (fun k hk => by have hk : k = w.heap.size := hk; omega)
  · exact fV2.trans g2 (fun k hk e => by have e : k = w.heap.size := e; omega)
end Go.Proofs.YtakkiipkmogagaaGreat.Fo.Ic

namespace Go.Proofs.YtakkiipkmogagaaGreat.Fo.Ic
open Go.RowKit Te Go.Extern.Stop Go.Stop Go.Extern
set_option linter.unusedSimpArgs false
set_option linter.unusedVariables false
set_option maxRecDepth 20000

theorem isComp : (Tryz.prog.info? 26).map (·.comparable) = some true := by kernel_rfl
theorem isTypeOf (v : Value) (w : World) : (Extern.ReflectliteType.typeOf #[.iface 26 v]).run Tryz.prog w = .ok (.iface 111 (.agg #[typeHandle Tryz.prog 26])) w := by kernel_rfl
theorem isCmp : ∃ M : Array Value → Sem Value, (∀ (args : Array Value) (w : World), (callFunc 233 args).run Tryz.prog w = ((M args).run Tryz.prog w).andThen fun v w' => .ok (.value v) w') ∧ ∀ w, (M #[.agg #[typeHandle Tryz.prog 26]]).run Tryz.prog w = .ok (.bool true) w :=
  ⟨(Extern.ReflectliteType.method fun t => do Extern.Rtype.noPackHeld "Comparable" t; pure (.bool (← typeInfo t).comparable)), @run_callFunc_extern Tryz.prog 233 _ (Extern.ReflectliteType.method fun t => do Extern.Rtype.noPackHeld "Comparable" t; pure (.bool (← typeInfo t).comparable)) Tryz.func233 (by kernel_rfl) (by kernel_rfl) (by kernel_rfl) (by kernel_rfl), fun w => by kernel_rfl⟩
theorem isMeth (v : Value) (w : World) : (Go.method 382 111 v "Comparable").run Tryz.prog w = .ok (233, v) w := by kernel_rfl
theorem noIs (v : Value) (xT : TypeId) (w : World) : (Instr.typeAssert (.iface 26 v) xT 113 true).run Tryz.prog w = .ok (.tuple #[.nilIface, .bool false]) w := run_typeAssert_lacksB Tryz.underlying113 (by kernel_rfl) (by kernel_rfl) v xT w
theorem noUn (v : Value) (xT : TypeId) (w : World) : (Instr.typeAssert (.iface 26 v) xT 116 true).run Tryz.prog w = .ok (.tuple #[.nilIface, .bool false]) w := run_typeAssert_lacksB Tryz.underlying116 (by kernel_rfl) (by kernel_rfl) v xT w
theorem noUns (v : Value) (xT : TypeId) (w : World) : (Instr.typeAssert (.iface 26 v) xT 118 true).run Tryz.prog w = .ok (.tuple #[.nilIface, .bool false]) w := run_typeAssert_lacksB Tryz.underlying118 (by kernel_rfl) (by kernel_rfl) v xT w
set_option maxHeartbeats 1000000 in
theorem is_any (a : Int) (w : World) : Calls Tryz.prog 13 #[.iface 26 (ci a), .iface 26 (ci 0)] w fun e w' => e = .returned (.bool (a == 0)) ∧ w' = w := by
  have h8 := @run_callFunc_extern Tryz.prog 35 _ Extern.ReflectliteType.typeOf Tryz.func35 (by kernel_rfl) (by kernel_rfl) (by kernel_rfl) (by kernel_rfl)
  obtain ⟨M, h32, cT⟩ := isCmp
  have mR := isMeth
  have tT := isTypeOf
  have n1 := noIs
  have n2 := noUn
  have n3 := noUns
  have heq : ∀ u : World, (binOp .eql 78 (.iface 26 (ci a)) (.iface 26 (ci 0))).run Tryz.prog u = .ok (.bool (a == 0)) u := fun u => Lib.run_eql_iface_int u a 0 Tryz.underlying78 isComp Tryz.underlying26
  cases h0 : (a == 0)
  · rw [h0] at heq
    go_enter Tryz.func13, Tryz.ntmps13
    go_wp2
    refine wp_loop_rounds 1 ?_
    rw [rounds_succ]
    go_wp2
    go_ret
    exact ⟨rfl, rfl⟩
  · rw [h0] at heq
    go_enter Tryz.func13, Tryz.ntmps13
    go_wp2
    refine wp_loop_rounds 1 ?_
    rw [rounds_succ]
    go_wp2
    go_ret
    exact ⟨rfl, rfl⟩
end Go.Proofs.YtakkiipkmogagaaGreat.Fo.Ic

namespace Go.Proofs.YtakkiipkmogagaaGreat.Fo.Ic
open Go.RowKit Te
set_option linter.unusedSimpArgs false
set_option linter.unusedVariables false
set_option maxRecDepth 20000

/-- Where an item's parameters lie, if it has some. -/
def PmW (w : World) (B : Nat) (lv : Value) (x : IV) : Prop := Ty.InL w x.2.1 x.2.2 x.1.params ∧ (x.1.params = [] ∨ ∀ k, (Value.slice x.2.1 x.1.params.length x.2.2).ownBlock = some k → B ≤ k ∧ k < w.heap.size ∧ lv.ownBlock ≠ some k)
theorem InL_nil {w w' : World} {ao : Option Addr} {cap : Nat} (h : Ty.InL w ao cap []) : Ty.InL w' ao cap [] := ⟨h.1, h.2.1, h.2.2.1, Or.inl rfl⟩
theorem PmW.keep {S : Nat → Prop} {w w' : World} {B : Nat} {lv : Value} {x : IV} (h : PmW w B lv x) (hf : Fr S w w') (hn : ∀ k, B ≤ k → k < w.heap.size → lv.ownBlock ≠ some k → ¬ S k) : PmW w' B lv x := by
  obtain ⟨⟨k1, n1, t1, b1, p1⟩, a1, c1⟩ := x
  obtain ⟨h1, h2⟩ := h
  simp only at *
  rcases h2 with h0 | h2
  · subst h0
    exact ⟨InL_nil h1, Or.inl rfl⟩
  · exact ⟨InL_keepS h1 hf fun k hk => hn k (h2 k hk).1 (h2 k hk).2.1 (h2 k hk).2.2, Or.inr fun k hk => ⟨(h2 k hk).1, Nat.lt_of_lt_of_le (h2 k hk).2.1 hf.size, (h2 k hk).2.2⟩⟩
theorem PmW.grow {w w' : World} {B : Nat} {lv lv' : Value} {x : IV} (h : PmW w B lv x) (hf : Fr (fun b => lv.ownBlock = some b) w w') (hv : lv'.ownBlock = lv.ownBlock ∨ lv'.ownBlock = some w.heap.size) : PmW w' B lv' x := by
  obtain ⟨h1, h2⟩ := h.keep hf (fun k _ _ e q => e q)
  refine ⟨h1, ?_⟩
  rcases h2 with h0 | h2
  · exact Or.inl h0
  · rcases h.2 with g0 | g2
    · exact Or.inl g0
    right
    refine fun k hk => ⟨(h2 k hk).1, (h2 k hk).2.1, fun e => ?_⟩
    rcases hv with q | q
    · rw [q] at e; exact (h2 k hk).2.2 e
    · rw [q] at e
      have e : w.heap.size = k := by simpa using e
      have := (g2 k hk).2.1
      omega
/-- A row of items, read. -/
theorem row_itw {w : World} {B : Nat} {v : Value} {l : List IV} (h : Rw.Row RP 47 5 w B v l) (hp : ∀ x ∈ l, Ty.InL w x.2.1 x.2.2 x.1.params) : ∃ ao cap, v = .slice ao (l.map (·.1)).length cap ∧ Ty.ItL w ao cap (l.map (·.1)) := by
  obtain ⟨cells, h1, h2⟩ := h
  obtain ⟨ao, cap, e, hnc, hcm, hnn, hl, hh⟩ := own_slice h1 (by decide)
  refine ⟨ao, cap, by rw [List.length_map]; exact e, by rw [List.length_map]; exact hnc, hcm, hnn, ?_⟩
  rcases hh with h0 | ⟨g, rfl, hB, hg, hc⟩
  · left
    rw [List.eq_nil_of_length_eq_zero h0]; rfl
  · refine Or.inr ⟨g, 0, rfl, fun i x hx => ?_⟩
    rw [List.getElem?_map] at hx
    cases hy : l[i]? with
    | none => rw [hy] at hx; cases hx
    | some y =>
      rw [hy] at hx
      simp only [Option.map_some, Option.some.injEq] at hx
      subst hx
      obtain ⟨c, r1, r2, r3⟩ := h2.get hy
      have r1 : c = encI y := r1
      subst r1
      refine ⟨y.2.1, y.2.2, hp y (List.mem_of_getElem? hy), fun j u hu => ?_⟩
      rw [Nat.zero_add]
      exact hc _ _ (r3 j u hu)
set_option maxHeartbeats 2000000 in
theorem takeItems_in (its : List Ty.It) (q : Nat) (rest : List UInt8) (w : World) (hr : Wi.Rd w q (Wi.i31 (its.length : Int) ++ ((its.map itemB).flatten ++ rest)) 0) (hl : its.length ≤ 64) (hi : ∀ i ∈ its, Ty.rightI i = 0) (hb : ∀ i ∈ its, U64 i.bits) :
    Calls Tryz.prog 10 #[Wi.rp q] w fun e w' => ∃ ao cap, e = .returned (.slice ao its.length cap) ∧ (∀ w'', Fr (fun k => k < w.heap.size) w' w'' → Ty.ItL w'' ao cap its) ∧ Wi.Rd w' q rest 0 ∧ Fr (fun k => k = q) w w' := by
  have hq : Hidden (q < w.heap.size) := hr.lt
  have k1 := int_in q its.length _ w (by omega) hr
  have hiH : Hidden (∀ i ∈ its, Ty.rightI i = 0) := hi
  have hbH : Hidden (∀ i ∈ its, U64 i.bits) := hb
  have hl64 : ((64 : Int) < (its.length : Int)) = False := by simp; omega
  have hlH : Hidden (its.length ≤ 64) := hl
  have hn1 : its.length ≤ 9223372036854775807 := by omega
  clear hr hi hb hl
  go_enter Tryz.func10, Tryz.ntmps10
  go_wp2_with (go_at_call 30; refine k1.mono ?_; rintro e w1 ⟨rfl, r1, f1⟩)
  go_loopg [4, 12] its.length (fun g lv iv wr => ∃ (j : Nat) (acc : List IV), iv = ci (j : Int) ∧ j ≤ its.length ∧ g = its.length - j ∧ acc.map (·.1) = its.take j ∧ Rw.Row RP 47 5 wr w.heap.size lv acc ∧ (∀ x ∈ acc, PmW wr w.heap.size lv x) ∧ Wi.Rd wr q (((its.drop j).map itemB).flatten ++ rest) 0 ∧ Fr (fun k => k = q) w wr)
  case atStart => exact ⟨0, [], rfl, by omega, rfl, rfl, ⟨[], ⟨by simp, Or.inl ⟨rfl, rfl⟩⟩, rfl⟩, by simp, r1, f1⟩
  case round =>
    obtain ⟨j, acc, rfl, hj, hgk, hacc, hrow, hpm, hrd, hfr⟩ := hrel
    obtain ⟨ao2, cap2, hv, _⟩ := hrow.slice
    subst hv
    have hal : acc.length = j := by have := congrArg List.length hacc; simp at this; omega
    have hgkH : Hidden (gk = its.length - j) := hgk
    have hrowH : Hidden (Rw.Row RP 47 5 wr w.heap.size (.slice ao2 acc.length cap2) acc) := hrow
    have hpmH : Hidden (∀ x ∈ acc, PmW wr w.heap.size (.slice ao2 acc.length cap2) x) := hpm
    have hfrH : Hidden (Fr (fun k => k = q) w wr) := hfr
    have haccH : Hidden (acc.map (·.1) = its.take j) := hacc
    have halH : Hidden (acc.length = j) := hal
    clear hgk hrow hpm hfr hacc hal r1 f1 k1
    by_cases hjl : j < its.length
    · obtain ⟨x, hx⟩ : ∃ x, its[j]? = some x := ⟨its[j], List.getElem?_eq_getElem hjl⟩
      have hmem := List.mem_of_getElem? hx
      have hrd' : Wi.Rd wr q (itemB x ++ (((its.drop (j + 1)).map itemB).flatten ++ rest)) 0 := by
        rw [dropAt hx] at hrd
        simpa using hrd
      have kT := takeItem_in x q _ wr hrd' ((show ∀ i ∈ its, Ty.rightI i = 0 from hiH) x hmem) ((show ∀ i ∈ its, U64 i.bits from hbH) x hmem)
      have htk : Hidden (acc.map (·.1) ++ [x] = its.take (j + 1)) := by show _ = _; rw [take_snoc hx]; rw [(show acc.map (·.1) = its.take j from haccH)]
      have hsw : w.heap.size ≤ wr.heap.size := (show Fr (fun k => k = q) w wr from hfrH).size
      have hswH : Hidden (w.heap.size ≤ wr.heap.size) := hsw
      clear hx hmem hrd hrd' hsw
      go_wp2_with (first
        | (go_at_call 31; refine Calls.mono kT ?_; rintro e w3 ⟨po, pc, rfl, hin3, ho3, r3, f3⟩; have hrow4 : Hidden (Rw.Row RP 47 5 (w3.alloc (.cells (encI (x, po, pc)).toArray 47 (0, 0))) w.heap.size (.slice ao2 acc.length cap2) acc) := ((show Rw.Row RP _ 5 wr _ _ _ from hrowH).keep f3 (fun k hk e => by have h1 := (Rw.Row.low (show Rw.Row RP _ 5 wr _ _ _ from hrowH) k hk).1; have h2 : q < w.heap.size := hq; have e : k = q := e; omega)).keep (Fr.alloc FN _ _) (fun _ _ f => f); have hs3 : Hidden (wr.heap.size ≤ w3.heap.size) := f3.size)
        | (at_builtin; have hrow4' := hrow4; refine wpl_one (R := RP) rfl _ _ 23 47 _ 5 64 Tryz.underlying23 info_it rfl (by decide) rfl w.heap.size (.slice ao2 acc.length cap2) acc (x, po, pc) (encI (x, po, pc)) w3.heap.size 47 rfl hrow4' rfl rfl rfl (alloc_new _ _) (it_one _) ?_ ?_ ?_ ?_; (focus (simp only [maxLen]; have : its.length ≤ 64 := hlH; have : acc.length = j := halH; omega)); (focus (have : its.length ≤ 64 := hlH; have : acc.length = j := halH; omega)); (focus (have h1 : w.heap.size ≤ wr.heap.size := hswH; have h2 : wr.heap.size ≤ w3.heap.size := hs3; simp; omega)); intro v5 w5 hr5 f5 ho5))
      go_roundg (its.length - (j + 1))
      case measure => have : gk = its.length - j := hgkH; omega
      case rel =>
        have h1 : w.heap.size ≤ wr.heap.size := hswH
        have h2 : wr.heap.size ≤ w3.heap.size := hs3
        have h3 : q < w.heap.size := hq
        have low := Rw.Row.low (show Rw.Row RP _ 5 wr _ _ _ from hrowH)
        refine ⟨j + 1, acc ++ [(x, po, pc)], by go_num, by omega, rfl, by rw [List.map_append]; exact htk, hr5, ?_, ?_, ?_⟩
        · intro y hy
          have fa := Fr.alloc FN w3 (.cells (encI (x, po, pc)).toArray 47 (0, 0))
          refine PmW.grow ?_ f5 ho5
          rcases List.mem_append.1 hy with hy | hy
          · exact (((show ∀ x ∈ acc, PmW wr w.heap.size _ x from hpmH) y hy).keep f3 (fun k hk _ _ e => by have e : k = q := e; omega)).keep fa (fun _ _ _ _ f => f)
          · rw [List.mem_singleton.1 hy]
            refine PmW.keep (w := w3) ⟨hin3, ?_⟩ fa (fun _ _ _ _ f => f)
            rcases ho3 with h0 | ho3
            · exact Or.inl h0
            · refine Or.inr fun k hk => ⟨by have := (ho3 k hk).1; omega, (ho3 k hk).2, fun e => ?_⟩
              have := (low k e).2
              have := (ho3 k hk).1
              omega
        · exact (r3.later (to_wi (Fr.alloc FN w3 _))).aside (to_wi f5) (fun k hk => by have := (low k hk).1; omega)
        · refine (((show Fr (fun k => k = q) w wr from hfrH).same f3).same (Fr.alloc _ _ _)).trans f5 (fun k hk e => ?_)
          have := (low k e).1
          omega
    · obtain rfl : j = its.length := by omega
      have hrd2 : Wi.Rd wr q rest 0 := by rw [List.drop_length] at hrd; exact hrd
      have hrdH : Hidden (Wi.Rd wr q rest 0) := hrd2
      clear hrd hrd2
      go_wp2_with fail
      go_ret
      have hm := (show acc.map (·.1) = its.take its.length from haccH)
      rw [List.take_length] at hm
      have low := Rw.Row.low (show Rw.Row RP _ 5 wr _ _ _ from hrowH)
      refine ⟨ao2, cap2, by rw [(show acc.length = its.length from halH)]; rfl, fun w'' hw => ?_, hrdH, hfrH⟩
      obtain ⟨ao3, cap3, e3, h3⟩ := row_itw ((show Rw.Row RP _ 5 wr _ _ _ from hrowH).keep hw (fun k hk e => by have := (low k hk).1; have e : k < w.heap.size := e; omega)) (fun x hx => (((show ∀ x ∈ acc, PmW wr w.heap.size _ x from hpmH) x hx).keep hw (fun k hk _ _ e => by have e : k < w.heap.size := e; omega)).1)
      rw [hm] at e3 h3
      simp only [Value.slice.injEq] at e3
      obtain ⟨rfl, _, rfl⟩ := e3
      exact h3
end Go.Proofs.YtakkiipkmogagaaGreat.Fo.Ic

namespace Go.Proofs.YtakkiipkmogagaaGreat.Fo.Ic
open Go.RowKit Te
set_option linter.unusedSimpArgs false
set_option linter.unusedVariables false
set_option maxRecDepth 20000

theorem results_cell2 {fn : Func} {p u : Tmp} {ty : TypeId} (h : fn.results = #[.cell p ty, .tmp u]) (tmps : Array Value) (P : Program) (w : World) :
    (results fn tmps).run P w = ((asAddr (tmps.getD p undef)).run P w).andThen fun a w₁ => ((loadVar ty a).run P w₁).andThen fun v w₂ => .ok (.tuple #[v, tmps.getD u undef]) w₂ := by
  simp only [results, h]
  simp [Sem.run_bind, Result.andThen]
theorem post_cell2 {fn : Func} {R : Ending → World → Prop} {a : Act} {w : World} {p u : Tmp} {ty : TypeId} (h : fn.results = #[.cell p ty, .tmp u]) (hd : a.defers = []) (g : Nat) (cs : Array Value)
    (hp : a.tmps.getD p undef = .pointer (some ⟨g, 0, none⟩)) (hl : (loadVar ty ⟨g, 0, none⟩).run Tryz.prog w = .ok (.agg cs) w)
    (hR : R (.returned (.tuple #[.agg cs, a.tmps.getD u undef])) w) : bodyPost Tryz.prog fn R .ret a w := by
  refine ⟨hd, _, ?_, hR⟩
  rw [results_cell2 h, hp]
  simp [asAddr, hl, Result.andThen]
theorem fail_none (q : Nat) (rest : List UInt8) (w : World) (hr : Wi.Rd w q rest 0) : Calls Tryz.prog 11 #[Wi.rp q, ci 0] w fun e w' => e = .returned (.tuple #[]) ∧ w' = w := by
  clear hr
  go_enter Tryz.func11, Tryz.ntmps11
  go_wp2
  exact ⟨rfl, _, results_none rfl _ _ _, rfl, rfl⟩
set_option maxHeartbeats 2000000 in
theorem decode_in (f : Ty.Fc) (v : Value) (w : World) (hf : Ty.rightF f = 0) (hn : Ty.OkN f.name) (hok : ∀ i ∈ f.items, Ty.OkI i) (hs : Wi.Sl w v (Wi.bc (encS f))) :
    Calls Tryz.prog 4 #[v] w fun e w' => ∃ fv, e = .returned (.tuple #[fv, ci 0]) ∧ Ty.FcI w' f fv ∧ Fr FN w w' := by
  obtain ⟨r1, r2, r3⟩ := rightF_ok hf
  obtain ⟨nm, l⟩ := f
  simp only at *
  have hlen : (encS ⟨nm, l⟩).length ≤ 140737488355328 := by
    unfold encS Wi.rawS
    simp only [List.length_append, i31_len]
    have : ∀ (l : List Ty.It), (∀ i ∈ l, Ty.rightI i = 0) → (l.map itemB).flatten.length ≤ l.length * 82 := by
      intro l
      induction l with
      | nil => simp
      | cons x l ih =>
        intro h
        have h1 := rightI_ok (h x (by simp))
        have h2 := ih (fun i hi => h i (by simp [hi]))
        simp only [List.map_cons, List.flatten_cons, List.length_append, itemB_len, List.length_cons]
        omega
    have := this l r3
    omega
  have e0 : encS ⟨nm, l⟩ = Wi.rawS nm ++ (Wi.i31 (l.length : Int) ++ ((l.map itemB).flatten ++ [])) := by unfold encS; simp
  obtain ⟨V, hV⟩ : ∃ V, V = w.alloc zIf := ⟨_, rfl⟩
  have fwV : Fr FN w V := by rw [hV]; exact Fr.alloc _ _ _
  have hVz : V.heap[w.heap.size]? = some zIf := by rw [hV]; exact alloc_new _ _
  have kR := Wi.read_any v (encS ⟨nm, l⟩) V hlen (hs.keep (to_wi fwV) (fun _ _ f => f))
  rw [e0] at kR
  obtain ⟨ao0, cap0, rfl, _⟩ := id hs
  simp only [Wi.bc_length] at kR
  have kT : ∀ (W : World) (g q : Nat) (c : Array Value) (u : World), RB W g q 25 (Wi.rawS nm ++ (Wi.i31 (l.length : Int) ++ ((l.map itemB).flatten ++ []))) c u → Calls Tryz.prog 9 #[Wi.rp q, ci 32] u fun e w' => e = .returned (.string ⟨nm.toArray⟩) ∧ RB W g q 25 (Wi.i31 (l.length : Int) ++ ((l.map itemB).flatten ++ [])) c w' := fun W g q c u h => (text_in q _ _ u r1 h.1).mono fun _ _ ⟨a, b, c⟩ => ⟨a, h.next b c⟩
  have kI : ∀ (W : World) (g q : Nat) (c : Array Value) (u : World), RB W g q 25 (Wi.i31 (l.length : Int) ++ ((l.map itemB).flatten ++ [])) c u → Calls Tryz.prog 10 #[Wi.rp q] u fun e w' => ∃ ao cap, e = .returned (.slice ao l.length cap) ∧ (∀ w'', Fr (fun k => k < u.heap.size) w' w'' → Ty.ItL w'' ao cap l) ∧ RB W g q 25 [] c w' := fun W g q c u h => (takeItems_in l q [] u h.1 r2 r3 (fun i hi => (hok i hi).bits)).mono fun _ _ ⟨ao, cap, a, b, c, d⟩ => ⟨ao, cap, a, b, h.next c d⟩
  have kF : ∀ (ao : Option Addr) (cap : Nat) (u : World), Ty.ItL u ao cap l → Calls Tryz.prog 12 #[.agg #[ct nm, .slice ao l.length cap]] u fun e w' => e = .returned (ci 0) ∧ Fr FN u w' := fun ao cap u h => by
    have := Ty.rightIface_any ⟨nm, l⟩ (.agg #[ct nm, .slice ao l.length cap]) u ⟨ao, cap, rfl, h⟩ hn hok
    rw [hf] at this
    exact this
  have kX := is_any 0
  have hVH : Hidden (V = w.alloc zIf) := hV
  have fwVH : Hidden (Fr FN w V) := fwV
  have hVzH : Hidden (V.heap[w.heap.size]? = some zIf) := hVz
  clear hf hn hok hs hlen e0 hV fwV hVz r1 r2 r3
  go_enter Tryz.func4, Tryz.ntmps4
  go_wp2_with fail
  rw [← (show V = _ from hVH)]
  go_at_call 8
  refine Calls.mono kR ?_
  rintro e w1 ⟨q, rfl, rd1, hq1, f1⟩
  have o1 : RB w1 w1.heap.size q 25 (Wi.rawS nm ++ (Wi.i31 (l.length : Int) ++ ((l.map itemB).flatten ++ []))) #[.string ⟨#[]⟩, .slice none 0 0] (w1.alloc zIf) := ⟨rd1.later (to_wi (Fr.alloc FN _ _)), alloc_new _ _, Fr.alloc _ _ _, rd1.lt, Nat.le_refl _⟩
  go_wp2_with fail
  go_at_call 9
  refine (kT _ _ _ _ _ o1).mono ?_
  rintro e w2 ⟨rfl, h2⟩
  have p0 := Ty.frozen_row h2.2.1 0
  obtain ⟨a0, a1⟩ := Ty.box2 h2.2.1
  go_wp2_with fail
  have h2' : RB w1 w1.heap.size q 25 _ #[ct nm, .slice none 0 0] (w2.setCell ⟨w1.heap.size, 0, none⟩ (ct nm)) := h2.put 0 (ct nm)
  go_at_call 10
  refine (kI _ _ _ _ _ h2').mono ?_
  rintro e w3 ⟨ia, ic, rfl, hit, h3⟩
  clear p0 a0 a1
  have p1 := Ty.frozen_row h3.2.1 1
  obtain ⟨a0, a1⟩ := Ty.box2 h3.2.1
  have h3' : RB w1 w1.heap.size q 25 [] #[ct nm, .slice ia l.length ic] (w3.setCell ⟨w1.heap.size, 1, none⟩ (.slice ia l.length ic)) := h3.put 1 _
  have hg2 : w1.heap.size < w2.heap.size := lt_of_heap h2.2.1
  have hitA : Ty.ItL (w3.setCell ⟨w1.heap.size, 1, none⟩ (.slice ia l.length ic)) ia ic l := hit _ ((Fr.setCell w3 ⟨w1.heap.size, 1, none⟩ _).mono fun k _ e => by have e : k = w1.heap.size := e; show k < (w2.setCell _ _).heap.size; simp; omega)
  have hitW : Hidden (∀ w'', Fr (fun k => k < w2.heap.size) w3 w'' → Ty.ItL w'' ia ic l) := fun w'' h => hit w'' (h.mono fun k _ e => by simpa using e)
  have hg2H : Hidden (w1.heap.size < w2.heap.size) := hg2
  have hitH : Hidden (Ty.ItL (w3.setCell ⟨w1.heap.size, 1, none⟩ (.slice ia l.length ic)) ia ic l) := hitA
  have h3H : Hidden (RB w1 w1.heap.size q 25 [] #[ct nm, .slice ia l.length ic] (w3.setCell ⟨w1.heap.size, 1, none⟩ (.slice ia l.length ic))) := h3'
  have hmore : Hidden (V.heap.size ≤ q ∧ Fr FN V w1) := ⟨hq1, of_wi f1⟩
  obtain ⟨c0, c1⟩ := Ty.box2 h3'.2.1
  clear h2 h2' h3 o1 kT kI kR hit rd1 hitA hg2 hq1 f1
  go_wp2_with fail
  go_at_call 12
  refine Calls.mono (kF ia ic _ hitH) ?_
  rintro e w4 ⟨rfl, f4⟩
  have rd4 : Wi.Rd w4 q [] 0 := (show RB w1 _ q _ [] _ _ from h3H).1.later (to_wi f4)
  have kf := fail_none q [] w4 rd4
  have kd := Wi.done_end q w4 rd4
  obtain ⟨d0, d1⟩ := Ty.box2 (f4.heap (show RB w1 _ q _ [] _ _ from h3H).2.1 (fun f => f))
  have rd4H : Hidden (Wi.Rd w4 q [] 0) := rd4
  have hV4 : w4.heap[w.heap.size]? = some zIf := by
    have h3' := (show RB w1 _ q _ [] _ _ from h3H)
    obtain ⟨q1, q2⟩ := (show V.heap.size ≤ q ∧ Fr FN V w1 from hmore)
    have hz : w.heap.size < V.heap.size := lt_of_heap (show V.heap[w.heap.size]? = some zIf from hVzH)
    exact f4.heap (h3'.2.2.1.heap (q2.heap (show V.heap[w.heap.size]? = some zIf from hVzH) (fun f => f)) (fun e => by have e : w.heap.size = q := e; omega)) (fun f => f)
  have z0 := Ty.frozen_row hV4 0
  have z1 := Ty.frozen_row hV4 1
  obtain ⟨b0, b1⟩ := Ty.box2 hV4
  have hV4H : Hidden (w4.heap[w.heap.size]? = some zIf) := hV4
  have f4H : Hidden (Fr FN (w3.setCell ⟨w1.heap.size, 1, none⟩ (.slice ia l.length ic)) w4) := f4
  clear rd4 hV4 f4 a0 a1 c0 c1 kF
  go_wp2_with (first
    | (go_at_call 11; refine Calls.mono kf ?_; rintro e w5 ⟨rfl, rfl⟩)
    | (go_at_call 14; refine Calls.mono kd ?_; rintro e w5 ⟨rfl, rfl⟩)
    | (go_at_call 13; refine Calls.mono (kX _) ?_; rintro e w5 ⟨rfl, rfl⟩))
  have h5 := (show RB w1 _ q _ [] _ _ from h3H)
  obtain ⟨q1, q2⟩ := (show V.heap.size ≤ q ∧ Fr FN V w1 from hmore)
  have f4 := (show Fr FN (w3.setCell ⟨w1.heap.size, 1, none⟩ (.slice ia l.length ic)) w5 from f4H)
  have hz : w.heap.size < V.heap.size := lt_of_heap (show V.heap[w.heap.size]? = some zIf from hVzH)
  have hg2 : w1.heap.size < w2.heap.size := hg2H
  have hsz := q2.size
  have hfr : Fr FN w w5 := (((show Fr FN w V from fwVH).same q2).over h5.2.2.1 (fun k e => by have e : k = q := e; omega)).same f4
  refine post_cell2 rfl rfl _ _ rfl (run_loadVar_row _ _ _ _ _ _ _ (two_put hV4H _ _) Tryz.underlying25 rfl size_iface) ⟨_, rfl, ⟨ia, ic, rfl, (show ∀ w'', _ → _ from hitW) _ ?_⟩, hfr.over (two_at w5 _ _ _) (fun k e => by have e : k = w.heap.size := e; omega)⟩
  refine Fr.same (Fr.same ((Fr.setCell w3 ⟨w1.heap.size, 1, none⟩ (.slice ia l.length ic)).mono fun k _ e => ?_) (f4.mono fun _ _ f => f.elim)) ((two_at w5 w.heap.size (ct nm) (.slice ia l.length ic)).mono fun k _ e => ?_)
  · have e : k = w1.heap.size := e
    show k < w2.heap.size
    omega
  · have e : k = w.heap.size := e
    show k < w2.heap.size
    omega
end Go.Proofs.YtakkiipkmogagaaGreat.Fo.Ic

namespace Go.Proofs.YtakkiipkmogagaaGreat.Fo.Ic
open Go.RowKit Te
set_option linter.unusedSimpArgs false
set_option linter.unusedVariables false
set_option maxRecDepth 20000

set_option maxHeartbeats 2000000 in
theorem rsame_eq (f : Ty.Fc) (vf vg : Value) (w : World) (hf : Ty.FcI w f vf) (hg : Ty.FcI w f vg) : Calls Tryz.prog 6 #[vf, vg] w fun e w' => e = .returned (.bool true) ∧ Fr FN w w' := by
  obtain ⟨nm, l⟩ := f
  obtain ⟨ao, ca, rfl, h1⟩ := hf
  obtain ⟨bo, cb, rfl, h2⟩ := hg
  simp only at h1 h2 ⊢
  have m1 := h1.1
  have m2 : ca ≤ 9223372036854775807 := by have := h1.2.1; unfold maxLen at this; omega
  have m3 := h2.1
  have m4 : cb ≤ 9223372036854775807 := by have := h2.2.1; unfold maxLen at this; omega
  obtain ⟨V, hV⟩ : ∃ V, V = (w.alloc (.cells #[ct nm, .slice ao l.length ca] 25)).alloc (.cells #[ct nm, .slice bo l.length cb] 25) := ⟨_, rfl⟩
  have fV : Fr FN w V := by rw [hV]; exact (Fr.alloc _ _ _).same (Fr.alloc _ _ _)
  have hA : V.heap[w.heap.size]? = some (.cells #[ct nm, .slice ao l.length ca] 25 (0, 0)) := by rw [hV]; exact (alloc_old _ _ _ (by simp)).trans (alloc_new _ _)
  have hB : V.heap[w.heap.size + 1]? = some (.cells #[ct nm, .slice bo l.length cb] 25 (0, 0)) := by rw [hV]; exact alloc_at _ _ _ (by simp)
  have boxes : ∀ u, Fr FN V u → u.cell? ⟨w.heap.size, 0, none⟩ = some (ct nm) ∧ u.cell? ⟨w.heap.size, 1, none⟩ = some (.slice ao l.length ca) ∧ u.cell? ⟨w.heap.size + 1, 0, none⟩ = some (ct nm) ∧ u.cell? ⟨w.heap.size + 1, 1, none⟩ = some (.slice bo l.length cb) := fun u hu => by
    have p := hu.heap hA (fun f => f)
    have q := hu.heap hB (fun f => f)
    exact ⟨cell_of_row _ _ 0 _ _ _ p, cell_of_row _ _ 1 _ _ _ p, cell_of_row _ _ 0 _ _ _ q, cell_of_row _ _ 1 _ _ _ q⟩
  have boxesH : Hidden (∀ u, Fr FN V u → u.cell? ⟨w.heap.size, 0, none⟩ = some (ct nm) ∧ u.cell? ⟨w.heap.size, 1, none⟩ = some (.slice ao l.length ca) ∧ u.cell? ⟨w.heap.size + 1, 0, none⟩ = some (ct nm) ∧ u.cell? ⟨w.heap.size + 1, 1, none⟩ = some (.slice bo l.length cb)) := boxes
  have h1H : Hidden (Ty.ItL V ao ca l) := h1.keep fV
  have h2H : Hidden (Ty.ItL V bo cb l) := h2.keep fV
  have fVH : Hidden (Fr FN w V) := fV
  have hVH : Hidden (V = _) := hV
  obtain ⟨a0, a1, a2, a3⟩ := boxes V (Fr.refl _ _)
  rw [hV] at a0 a1 a2 a3
  clear h1 h2 fV hA hB boxes hV
  go_enter Tryz.func6, Tryz.ntmps6
  go_wp2_with fail
  rw [← (show V = _ from hVH)]
  go_loopg [5] l.length (fun g iv wr => ∃ j : Nat, iv = ci (j : Int) ∧ j ≤ l.length ∧ g = l.length - j ∧ Fr FN V wr)
  case atStart => exact ⟨0, rfl, by omega, rfl, Fr.refl _ _⟩
  case round =>
    obtain ⟨j, rfl, hj, hgk, hfr⟩ := hrel
    have hgkH : Hidden (gk = l.length - j) := hgk
    have hfrH : Hidden (Fr FN V wr) := hfr
    obtain ⟨b0, b1, b2, b3⟩ := (show ∀ u, Fr FN V u → _ from boxesH) wr hfr
    clear hgk a0 a1 a2 a3
    by_cases hjl : j < l.length
    · obtain ⟨x, hx⟩ : ∃ x, l[j]? = some x := ⟨l[j], List.getElem?_eq_getElem hjl⟩
      obtain ⟨b, off, ap, cp, rfl, hin, d0, d1, d2, d3, d4⟩ := Ty.ItL.at ((show Ty.ItL V _ ca l from h1H).keep hfr) hx
      obtain ⟨b', off', ap', cp', rfl, hin', c0, c1, c2, c3, c4⟩ := Ty.ItL.at ((show Ty.ItL V _ cb l from h2H).keep hfr) hx
      have ks : ∀ u, Fr FN wr u → Calls Tryz.prog 23 #[.agg #[ci x.kind, ct x.name, ci x.typ, .int .u64 x.bits, .slice ap x.params.length cp], .agg #[ci x.kind, ct x.name, ci x.typ, .int .u64 x.bits, .slice ap' x.params.length cp']] u fun e w' => e = .returned (.bool true) ∧ Fr FN wr w' := fun u hu => by
        have := Ty.rsameItem_any x x _ _ u ⟨ap, cp, rfl, hin.keep hu⟩ ⟨ap', cp', rfl, hin'.keep hu⟩
        rw [decide_eq_true rfl] at this
        exact this.mono fun _ _ ⟨q1, q2⟩ => ⟨q1, hu.same q2⟩
      clear hin hin' hx hfr
      go_wp2_with fail
      go_region_held3 (fun w' => w'.cell? ⟨w.heap.size, 1, none⟩ = some (.slice (some ⟨b, off, none⟩) l.length ca) ∧ w'.cell? ⟨w.heap.size + 1, 1, none⟩ = some (.slice (some ⟨b', off', none⟩) l.length cb) ∧ w'.cell? ⟨b, off + j * 5, none⟩ = some (ci x.kind) ∧ w'.cell? ⟨b, off + j * 5 + 1, none⟩ = some (ct x.name) ∧ w'.cell? ⟨b, off + j * 5 + 2, none⟩ = some (ci x.typ) ∧ w'.cell? ⟨b, off + j * 5 + 3, none⟩ = some (.int .u64 x.bits) ∧ w'.cell? ⟨b, off + j * 5 + 4, none⟩ = some (.slice ap x.params.length cp) ∧ w'.cell? ⟨b', off' + j * 5, none⟩ = some (ci x.kind) ∧ w'.cell? ⟨b', off' + j * 5 + 1, none⟩ = some (ct x.name) ∧ w'.cell? ⟨b', off' + j * 5 + 2, none⟩ = some (ci x.typ) ∧ w'.cell? ⟨b', off' + j * 5 + 3, none⟩ = some (.int .u64 x.bits) ∧ w'.cell? ⟨b', off' + j * 5 + 4, none⟩ = some (.slice ap' x.params.length cp')) (first | (refine ⟨by with_reducible assumption, by with_reducible assumption, by with_reducible assumption, by with_reducible assumption, by with_reducible assumption, by with_reducible assumption, by with_reducible assumption, by with_reducible assumption, by with_reducible assumption, by with_reducible assumption, by with_reducible assumption, by with_reducible assumption⟩) | go_keep) (first | (go_at_call 23; (with_reducible refine Calls.mono (ks wr.drew (Fr.drew _ _)) ?_); rintro e w7 ⟨rfl, f7⟩; have y1 := f7.cellN b1; have y3 := f7.cellN b3; have x0 := f7.cellN d0; have x1 := f7.cellN d1; have x2 := f7.cellN d2; have x3 := f7.cellN d3; have x4 := f7.cellN d4; have z0 := f7.cellN c0; have z1 := f7.cellN c1; have z2 := f7.cellN c2; have z3 := f7.cellN c3; have z4 := f7.cellN c4))
      go_wp2_with fail
      go_roundg (l.length - (j + 1))
      case measure => have : gk = l.length - j := hgkH; omega
      case rel => exact ⟨j + 1, by go_num, by omega, rfl, (show Fr FN V wr from hfrH).same f7⟩
    · obtain rfl : j = l.length := by omega
      go_wp2_with fail
      go_ret
      exact ⟨rfl, (show Fr FN w V from fVH).same hfr⟩
end Go.Proofs.YtakkiipkmogagaaGreat.Fo.Ic

namespace Go.Proofs.YtakkiipkmogagaaGreat.Fo.Ic
open Go.RowKit Te
set_option linter.unusedSimpArgs false
set_option linter.unusedVariables false

def okC (e : Ev) : Prop := e.code = 0 → ∃ v, e = .ok v
theorem flt_C {c : Int} (h : c ≠ 0) : okC (.flt c) := fun e => absurd e h
theorem bd_C {a : Ev} {f : Vl → Ev} (ha : okC a) (h : ∀ v, okC (f v)) : okC (a.bd f) := by
  cases a with
  | ok v => exact h v
  | flt c => exact fun e => by obtain ⟨v, hv⟩ := ha e; cases hv
  | trp c => exact fun e => by obtain ⟨v, hv⟩ := ha e; cases hv
theorem trapEv_C (r : Vl × Int) : okC (trapEv r) := by
  unfold trapEv
  split
  · exact fun _ => ⟨_, rfl⟩
  · rename_i h0
    intro e
    have e : errnoF r.2 = 0 := e
    unfold errnoF at e
    rw [if_neg h0] at e
    repeat' split at e
    all_goals omega
theorem findC_C (l : List Con) (m n : Bs) : okC (findC l m n) := by
  induction l with
  | nil => exact flt_C (by decide)
  | cons c r ih =>
    unfold findC
    split
    · split
      · exact fun _ => ⟨_, rfl⟩
      · exact flt_C (by decide)
    · exact ih
theorem callF_C (l : List Ev) (h : ∀ e ∈ l, okC e) : okC (callF l) := by
  induction l with
  | nil => exact flt_C (by decide)
  | cons e r ih =>
    unfold callF
    exact bd_C (h e (by simp)) fun _ => ih (fun e he => h e (by simp [he]))
theorem twoF_C (op : Int) (a b : Ev) (ha : okC a) (hb : okC b) : okC (twoF op a b) := by
  unfold twoF
  refine bd_C ha fun v => ?_
  split
  · exact flt_C (by decide)
  · exact fun _ => ⟨_, rfl⟩
  · exact bd_C hb fun u => trapEv_C _
theorem getD_C {l : List Ev} (h : ∀ e ∈ l, okC e) (i : Nat) (hi : i < l.length) : okC (l.getD i (.flt 0)) := by
  rw [List.getD_eq_getElem?_getD, List.getElem?_eq_getElem hi]
  exact h _ (List.getElem_mem hi)
theorem evF_len (l : List Con) : ∀ k : Exs, (evF l k).length = k.len
  | .nil => rfl
  | .cons h k r => by rw [evF, List.length_cons, evF_len l r]; rfl
theorem evN_C (l : List Con) (h : EH) (n : Nat) (he : errH rnS cnS h n = 0) (ks : List Ev) (hn : ks.length = n) (hk : ∀ e ∈ ks, okC e) : okC (evN l h ks) := by
  have hf : fitsE cnS h n = true := by
    have := (orE0 (show orE (if fitsE cnS h n then 0 else 1) _ = 0 from he)).1
    by_cases hf : fitsE cnS h n = true
    · exact hf
    · rw [if_neg hf] at this; cases this
  unfold evN
  split
  · exact findC_C _ _ _
  · split
    · exact callF_C _ hk
    · split
      · rename_i h6
        have : n = 1 := by
          unfold fitsE at hf
          rw [if_neg (by omega), if_neg (by omega), if_neg (by omega), if_neg (by omega), if_neg (by omega), if_pos h6] at hf
          exact (of_decide_eq_true hf).2.2.1
        exact bd_C (getD_C hk 0 (by omega)) fun v => trapEv_C _
      · split
        · rename_i h7
          have : n = 2 := by
            unfold fitsE at hf
            rw [if_neg (by omega), if_neg (by omega), if_neg (by omega), if_neg (by omega), if_neg (by omega), if_neg (by omega), if_pos h7] at hf
            exact (of_decide_eq_true hf).2.2.1
          exact twoF_C _ _ _ (getD_C hk 0 (by omega)) (getD_C hk 1 (by omega))
        · exact fun _ => ⟨_, rfl⟩
theorem evF_C (l : List Con) : ∀ (k : Exs), errL rnS cnS k = 0 → ∀ e ∈ evF l k, okC e
  | .nil, _ => by intro e he; simp [evF] at he
  | .cons h k r, hx => by
    intro e he
    have he2 := orE0 (show orE (orE (errH rnS cnS h k.len) (errL rnS cnS k)) (errL rnS cnS r) = 0 from hx)
    have he3 := orE0 he2.1
    rw [evF, List.mem_cons] at he
    rcases he with rfl | he
    · exact evN_C l h k.len he3.1 _ (evF_len l k) (evF_C l k he3.2)
    · exact evF_C l r he2.2 e he
theorem evX_C (l : List Con) (h : EH) (k : Exs) (he : errX rnS cnS h k = 0) : okC (evX l h k) := by
  have he2 := orE0 (orE0 (show orE _ _ = 0 from he)).2
  exact evN_C l h k.len he2.1 _ (evF_len l k) (evF_C l k he2.2)
end Go.Proofs.YtakkiipkmogagaaGreat.Fo.Ic

namespace Go.Proofs.YtakkiipkmogagaaGreat.Fo.Ic
open Go.RowKit Te
set_option linter.unusedSimpArgs false
set_option linter.unusedVariables false

def isCV (d : De) : Bool := d.kind == 1 || d.kind == 2
def conOf (d : De) (kn : List Con) : Con := ⟨[], d.name, (valAt d kn).1.1, (valAt d kn).1.2⟩
/-- Constants and variables alone. -/
def evGo (far : List Con) : List De → List Con → List Con → List Con × List Con × Bool
  | [], cs, vs => (cs, vs, true)
  | d :: r, cs, vs => if (valAt d (cs.reverse ++ far)).2 ≠ 0 then ([], [], false) else if d.kind = 2 then evGo far r cs (vs ++ [conOf d (cs.reverse ++ far)]) else evGo far r (cs ++ [conOf d (cs.reverse ++ far)]) vs
theorem dec_ev (far : List Con) : ∀ (l : List De) (i : Nat) (seen : List Bs) (cs vs : List Con), (decGo far l i seen cs vs).2.2.2 = 0 → (l.map (·.name)).Nodup ∧ (∀ d ∈ l, d.name ∉ seen) ∧ evGo far (l.filter isCV) cs vs = ((decGo far l i seen cs vs).1, (decGo far l i seen cs vs).2.1, true)
  | [], i, seen, cs, vs, h => ⟨by simp, by simp, rfl⟩
  | d :: r, i, seen, cs, vs, h => by
    have key : ∀ cs' vs', (decGo far r (i + 1) (d.name :: seen) cs' vs').2.2.2 = 0 → d.name ∉ seen → ((d :: r).map (·.name)).Nodup ∧ (∀ e ∈ d :: r, e.name ∉ seen) ∧ evGo far (r.filter isCV) cs' vs' = ((decGo far r (i + 1) (d.name :: seen) cs' vs').1, (decGo far r (i + 1) (d.name :: seen) cs' vs').2.1, true) := fun cs' vs' h h1 => by
      obtain ⟨a1, a2, a3⟩ := dec_ev far r (i + 1) (d.name :: seen) cs' vs' h
      refine ⟨?_, ?_, a3⟩
      · rw [List.map_cons, List.nodup_cons]
        refine ⟨fun hm => ?_, a1⟩
        obtain ⟨e, he, hn⟩ := List.mem_map.1 hm
        exact a2 e he (by rw [hn]; simp)
      · intro e he
        rcases List.mem_cons.1 he with rfl | he
        · exact h1
        · exact fun q => a2 e he (by simp [q])
    unfold decGo at h ⊢
    by_cases h1 : d.name ∈ seen
    · rw [if_pos h1] at h; cases h
    rw [if_neg h1] at h ⊢
    by_cases h2 : d.kind ≠ 1 ∧ d.kind ≠ 2
    · rw [if_pos h2] at h ⊢
      have e : (d :: r).filter isCV = r.filter isCV := by rw [List.filter_cons, if_neg (by simp [isCV, h2.1, h2.2])]
      rw [e]
      exact key _ _ h h1
    rw [if_neg h2] at h ⊢
    have hk : isCV d = true := by unfold isCV; simp; omega
    have e : (d :: r).filter isCV = d :: r.filter isCV := by rw [List.filter_cons, if_pos hk]
    rw [e]
    by_cases h3 : (valAt d (cs.reverse ++ far)).2 ≠ 0
    · rw [if_pos h3] at h; exact absurd h h3
    rw [if_neg h3] at h ⊢
    unfold evGo
    rw [if_neg h3]
    by_cases h4 : d.kind = 2
    · rw [if_pos h4] at h ⊢
      rw [if_pos h4]
      exact key _ _ h h1
    · rw [if_neg h4] at h ⊢
      rw [if_neg h4]
      exact key _ _ h h1
theorem ev_dec (far : List Con) : ∀ (l : List De) (i : Nat) (seen : List Bs) (cs vs : List Con), (l.map (·.name)).Nodup → (∀ d ∈ l, d.name ∉ seen) → (evGo far (l.filter isCV) cs vs).2.2 = true → decGo far l i seen cs vs = ((evGo far (l.filter isCV) cs vs).1, (evGo far (l.filter isCV) cs vs).2.1, 0, 0)
  | [], i, seen, cs, vs, _, _, _ => rfl
  | d :: r, i, seen, cs, vs, hn, hs, h => by
    rw [List.map_cons, List.nodup_cons] at hn
    have h1 : d.name ∉ seen := hs d (by simp)
    have hs' : ∀ e ∈ r, e.name ∉ d.name :: seen := fun e he q => by
      rcases List.mem_cons.1 q with q | q
      · exact hn.1 (by rw [← q]; exact List.mem_map_of_mem he)
      · exact hs e (by simp [he]) q
    unfold decGo
    rw [if_neg h1]
    by_cases h2 : d.kind ≠ 1 ∧ d.kind ≠ 2
    · rw [if_pos h2]
      have e : (d :: r).filter isCV = r.filter isCV := by rw [List.filter_cons, if_neg (by simp [isCV, h2.1, h2.2])]
      rw [e] at h ⊢
      exact ev_dec far r _ _ _ _ hn.2 hs' h
    rw [if_neg h2]
    have hk : isCV d = true := by unfold isCV; simp; omega
    have e : (d :: r).filter isCV = d :: r.filter isCV := by rw [List.filter_cons, if_pos hk]
    rw [e] at h ⊢
    unfold evGo at h ⊢
    by_cases h3 : (valAt d (cs.reverse ++ far)).2 ≠ 0
    · rw [if_pos h3] at h; cases h
    rw [if_neg h3] at h ⊢
    rw [if_neg h3]
    by_cases h4 : d.kind = 2
    · rw [if_pos h4] at h ⊢
      rw [if_pos h4]
      exact ev_dec far r _ _ _ _ hn.2 hs' h
    · rw [if_neg h4] at h ⊢
      rw [if_neg h4]
      exact ev_dec far r _ _ _ _ hn.2 hs' h
/-- Variables change no constant. -/
theorem ev_const (far : List Con) : ∀ (l : List De) (cs vs vs' : List Con), (∀ d ∈ l, d.kind = 1 ∨ d.kind = 2) → (evGo far l cs vs).2.2 = true → (evGo far (l.filter fun d => d.kind == 1) cs vs').2.2 = true ∧ (evGo far (l.filter fun d => d.kind == 1) cs vs').1 = (evGo far l cs vs).1
  | [], cs, vs, vs', _, _ => ⟨rfl, rfl⟩
  | d :: r, cs, vs, vs', hk, h => by
    unfold evGo at h
    by_cases h3 : (valAt d (cs.reverse ++ far)).2 ≠ 0
    · rw [if_pos h3] at h; cases h
    rw [if_neg h3] at h
    by_cases h4 : d.kind = 2
    · rw [if_pos h4] at h
      have e : (d :: r).filter (fun d => d.kind == 1) = r.filter (fun d => d.kind == 1) := by rw [List.filter_cons, if_neg (by simp [h4])]
      have e2 : evGo far (d :: r) cs vs = evGo far r cs (vs ++ [conOf d (cs.reverse ++ far)]) := by rw [evGo, if_neg h3, if_pos h4]
      rw [e, e2]
      exact ev_const far r cs _ vs' (fun x hx => hk x (by simp [hx])) h
    · rw [if_neg h4] at h
      have h1 : d.kind = 1 := by have := hk d (by simp); omega
      have e : (d :: r).filter (fun d => d.kind == 1) = d :: r.filter (fun d => d.kind == 1) := by rw [List.filter_cons, if_pos (by simp [h1])]
      have e2 : evGo far (d :: r) cs vs = evGo far r (cs ++ [conOf d (cs.reverse ++ far)]) vs := by rw [evGo, if_neg h3, if_neg h4]
      rw [e, e2, evGo, if_neg h3, if_neg h4]
      exact ev_const far r _ vs vs' (fun x hx => hk x (by simp [hx])) h
/-- A value without an error is right, and of the type that was told. -/
theorem valAt_ok {d : De} {kn : List Con} (h : (valAt d kn).2 = 0) : (valAt d kn).1.1 = d.type ∧ Ty.rightV (valAt d kn).1.1 (valAt d kn).1.2 = true := by
  unfold valAt at h ⊢
  split at h
  · rename_i hd k he
    split at h
    · rename_i h1; exact absurd h h1
    · rename_i h1
      split at h
      · cases h
      · rename_i h2
        rw [if_neg h1, if_neg h2]
        refine ⟨by simpa using h2, ?_⟩
        unfold evalS at h1 ⊢
        by_cases hx : errX rnS cnS hd k = 0
        · rw [if_pos hx] at h1 ⊢
          obtain ⟨v, hv⟩ := evX_C kn hd k hx (by simpa using h1)
          have := evX_R kn hd k hx v hv
          rw [hv]
          exact this
        · rw [if_neg hx] at h1
          exact absurd hx (by simpa using h1)
  · cases h
/-- Constants that are right, one for each declaration. -/
def Fits : List De → List Con → Prop
  | [], [] => True
  | d :: l, c :: cs => (c.t = d.type ∧ Ty.rightV c.t c.b = true) ∧ Fits l cs
  | _, _ => False
/-- Each constant is right. -/
theorem ev_right (far : List Con) : ∀ (l : List De) (cs vs : List Con), (∀ d ∈ l, d.kind = 1 ∨ d.kind = 2) → (evGo far l cs vs).2.2 = true → ∃ new, (evGo far l cs vs).1 = cs ++ new ∧ Fits (l.filter fun d => d.kind == 1) new
  | [], cs, vs, _, _ => ⟨[], by simp [evGo], trivial⟩
  | d :: r, cs, vs, hk, h => by
    unfold evGo at h ⊢
    by_cases h3 : (valAt d (cs.reverse ++ far)).2 ≠ 0
    · rw [if_pos h3] at h; cases h
    rw [if_neg h3] at h ⊢
    have hv := valAt_ok (d := d) (kn := cs.reverse ++ far) (by simpa using h3)
    by_cases h4 : d.kind = 2
    · rw [if_pos h4] at h ⊢
      have e : (d :: r).filter (fun d => d.kind == 1) = r.filter (fun d => d.kind == 1) := by rw [List.filter_cons, if_neg (by simp [h4])]
      rw [e]
      exact ev_right far r cs _ (fun x hx => hk x (by simp [hx])) h
    · rw [if_neg h4] at h ⊢
      have h1 : d.kind = 1 := by have := hk d (by simp); omega
      have e : (d :: r).filter (fun d => d.kind == 1) = d :: r.filter (fun d => d.kind == 1) := by rw [List.filter_cons, if_pos (by simp [h1])]
      obtain ⟨new, q1, q2⟩ := ev_right far r _ vs (fun x hx => hk x (by simp [hx])) h
      rw [e]
      exact ⟨conOf d (cs.reverse ++ far) :: new, by rw [q1]; simp, ⟨hv, q2⟩⟩
/-- Items in order are one list. -/
theorem sorted_one : ∀ (a b : List Ty.It), a.Perm b → (a.map (·.name)).Nodup → a.Pairwise (fun x y => ¬ y.name < x.name) → b.Pairwise (fun x y => ¬ y.name < x.name) → a = b
  | [], b, hp, _, _, _ => by simpa using hp.symm
  | x :: a, [], hp, _, _, _ => by simp at hp
  | x :: a, y :: b, hp, hn, ha, hb => by
    rw [List.map_cons, List.nodup_cons] at hn
    rw [List.pairwise_cons] at ha hb
    by_cases hxy : x = y
    · subst hxy
      rw [sorted_one a b (List.perm_cons x |>.1 hp) hn.2 ha.2 hb.2]
    · exfalso
      have h1 : y ∈ a := by
        have := hp.symm.subset (show y ∈ y :: b by simp)
        rcases List.mem_cons.1 this with q | q
        · exact absurd q.symm hxy
        · exact q
      have h2 : x ∈ b := by
        have := hp.subset (show x ∈ x :: a by simp)
        rcases List.mem_cons.1 this with q | q
        · exact absurd q hxy
        · exact q
      have q1 := ha.1 y h1
      have q2 := hb.1 x h2
      have : x.name = y.name := by
        rcases Std.lt_trichotomy x.name y.name with q | q | q
        · exact absurd q q2
        · exact q
        · exact absurd q q1
      exact hn.1 (by rw [this]; exact List.mem_map_of_mem h1)
theorem itemsS_names : ∀ (l : List De) (cs : List Con), (itemsS l cs).map (·.name) = (l.filter (·.ex)).map (·.name)
  | [], cs => rfl
  | d :: r, cs => by
    unfold itemsS
    rw [List.map_append, itemsS_names r, List.filter_cons]
    cases d.ex <;> simp [itOf]
theorem itemsS_nodup {l : List De} (cs : List Con) (h : (l.map (·.name)).Nodup) : ((itemsS l cs).map (·.name)).Nodup := by
  rw [itemsS_names]
  exact h.sublist (List.filter_sublist.map _)
theorem perm_names {a b : List Ty.It} (h : a.Perm b) (hb : (b.map (·.name)).Nodup) : (a.map (·.name)).Nodup := (h.map _).nodup_iff.2 hb
/-- Two interfaces that are drawn out of the same are one. -/
theorem isF_one {m m' : Mo} {l l' : List Ty.Fc} {f f' : Ty.Fc} (h : IsF m l f) (h' : IsF m' l' f') (hn : m.name = m'.name) (he : (exP m l).2 = 0 ↔ (exP m' l').2 = 0)
    (hs : ∀ g g', impS l m.imports = some g → impS l' m'.imports = some g' → (decS (farS g) m.decls).2.2.2 = 0 → (decS (farS g') m'.decls).2.2.2 = 0 → (itemsS m.decls (decS (farS g) m.decls).1).Perm (itemsS m'.decls (decS (farS g') m'.decls).1)) : f = f' := by
  rcases h with ⟨h1, h2⟩ | ⟨h1, h2, h3, g, h4, h5, h6, h7⟩
  · rcases h' with ⟨q1, q2⟩ | ⟨q1, _⟩
    · rw [h2, q2]
    · exact absurd (he.2 q1) h1
  · rcases h' with ⟨q1, q2⟩ | ⟨q1, q2, q3, g', q4, q5, q6, q7⟩
    · exact absurd (he.1 h1) q1
    · have hp := hs g g' h4 q4 h5 q5
      have hnd := (dec_ev (farS g) m.decls 0 [] [] [] h5).1
      have := sorted_one f.items f'.items ((h6.trans hp).trans q6.symm) (perm_names h6 (itemsS_nodup _ hnd)) h7 q7
      obtain ⟨n, i⟩ := f
      obtain ⟨n', i'⟩ := f'
      simp only at *
      rw [this, h2, q2, hn]
/-- Interfaces that are not imported, or stand behind one of the same name. -/
theorem impGo_more (l : List Ty.Fc) (x : Ty.Fc) : ∀ (imps done : List Bs) (acc : List Ty.Fc), (x.name ∈ imps → ∃ f ∈ l, f.name = x.name) → impGo (l ++ [x]) imps done acc = impGo l imps done acc
  | [], done, acc, _ => rfl
  | n :: r, done, acc, h => by
    have hr : x.name ∈ r → ∃ f ∈ l, f.name = x.name := fun q => h (by simp [q])
    unfold impGo
    split
    · exact impGo_more l x r _ _ hr
    · have hf : givenS (l ++ [x]) n = givenS l n := by
        unfold givenS
        rw [List.find?_append]
        by_cases hx : x.name = n
        · obtain ⟨f, hf, hfn⟩ := h (by simp [hx])
          have : (l.find? (fun f => f.name == n)).isSome := by
            rw [List.find?_isSome]
            exact ⟨f, hf, by simp [hfn, hx]⟩
          obtain ⟨y, hy⟩ := Option.isSome_iff_exists.1 this
          rw [hy]; rfl
        · have : [x].find? (fun f => f.name == n) = none := by simp [hx]
          rw [this]; simp
      rw [hf]
      split
      · rfl
      · split
        · rfl
        · exact impGo_more l x r _ _ hr
theorem impS_more {l : List Ty.Fc} {x : Ty.Fc} {imps : List Bs} (h : x.name ∈ imps → ∃ f ∈ l, f.name = x.name) : impS (l ++ [x]) imps = impS l imps := impGo_more l x imps _ _ h
theorem exP_more {m : Mo} {l : List Ty.Fc} {x : Ty.Fc} (h : x.name ∈ m.imports → ∃ f ∈ l, f.name = x.name) : exP m (l ++ [x]) = exP m l := by
  unfold exP
  rw [impS_more h]
theorem isF_more {m : Mo} {l : List Ty.Fc} {x f f' : Ty.Fc} (h : x.name ∈ m.imports → ∃ f ∈ l, f.name = x.name) (h1 : IsF m l f) (h2 : IsF m (l ++ [x]) f') : f = f' :=
  isF_one h1 h2 rfl (by rw [exP_more h]) (fun g g' q1 q2 _ _ => by
    rw [impS_more h, q1] at q2
    cases q2
    exact List.Perm.refl _)
end Go.Proofs.YtakkiipkmogagaaGreat.Fo.Ic

namespace Go.Proofs.YtakkiipkmogagaaGreat.Fo.Ic
open Go.RowKit Te
set_option linter.unusedSimpArgs false
set_option linter.unusedVariables false
set_option maxRecDepth 20000

abbrev liH : EH := ⟨1, 0, [], [], 1, 1⟩
abbrev liD : De := ⟨1, true, [88], 1, [], .cons liH .nil .nil, .nil⟩
abbrev liM : Mo := ⟨[109], [], [liD]⟩
abbrev liF : Ty.Fc := ⟨[109], [⟨1, [88], 1, 1, []⟩]⟩
theorem li_exP : exP liM [] = (0, 0) := by decide +kernel
theorem li_items : itemsS liM.decls (decS (farS []) liM.decls).1 = liF.items := by decide +kernel
theorem li_right : Ty.rightF liF = 0 := by decide +kernel
theorem li_len : (encS liF).length = 28 := by decide +kernel
theorem li_isF {f : Ty.Fc} (h : IsF liM [] f) : f = liF := by
  rcases h with ⟨h1, _⟩ | ⟨_, h2, _, g, h4, _, h6, _⟩
  · rw [li_exP] at h1; exact absurd rfl h1
  · have hg : g = [] := by
      have : impS [] liM.imports = some [] := rfl
      rw [this] at h4
      simpa using h4.symm
    subst hg
    rw [li_items] at h6
    obtain ⟨n, i⟩ := f
    simp only at h2 h6
    rw [h2, List.perm_singleton.1 h6]
theorem li_okI : ∀ i ∈ liF.items, Ty.OkI i := by
  intro i hi
  simp only [List.mem_singleton] at hi
  subst hi
  exact ⟨⟨by decide, by decide⟩, by simp [Ty.OkN], ⟨by decide, by decide⟩, ⟨by decide, by decide⟩, by simp, by simp⟩
theorem li_ok : OkM liM := ⟨by simp [OkN], by simp, by
  intro d hd
  simp only [List.mem_singleton] at hd
  subst hd
  exact ⟨⟨by decide, by decide⟩, ⟨by decide, by decide⟩, by simp [OkN], by simp, ⟨⟨⟨by decide, by decide⟩, ⟨by decide, by decide⟩, ⟨by decide, by decide⟩, by decide, by decide, by simp [OkN], by simp [OkN]⟩, trivial, trivial⟩, trivial⟩⟩
theorem k42 (w : World) (a b c d : Obj) : ((((w.alloc a).alloc b).alloc c).alloc d).heap[w.heap.size + 1]? = some b := (alloc_old _ _ _ (by simp <;> omega)).trans ((alloc_old _ _ _ (by simp)).trans (alloc_at _ _ _ (by simp)))
theorem k43 (w : World) (a b c d : Obj) : ((((w.alloc a).alloc b).alloc c).alloc d).heap[w.heap.size + 1 + 1]? = some c := (alloc_old _ _ _ (by simp)).trans (alloc_at _ _ _ (by simp))
theorem li_mo (W : World) (e g : Nat) (h1 : W.heap[e]? = some (.cells #[ci 1, ci 0, .string ⟨#[]⟩, .string ⟨#[]⟩, ci 1, .int .u64 1, .slice none 0 0] 55 (0, 0)))
    (h2 : W.heap[g]? = some (.cells #[ci 1, .bool true, .string ⟨#[88]⟩, ci 1, .slice none 0 0, .slice (some ⟨e, 0, none⟩) 1 1, .slice none 0 0] 59 (0, 0))) : MoI W liM (.agg #[.string ⟨#[109]⟩, .slice none 0 0, .slice (some ⟨g, 0, none⟩) 1 1]) := by
  refine ⟨none, 0, some ⟨g, 0, none⟩, 1, rfl, ⟨by simp, by simp [maxLen], Or.inl rfl⟩, by simp, by simp [maxLen], Or.inr ⟨g, 0, rfl, fun i d hd => ?_⟩⟩
  match i, hd with
  | 0, hd =>
    obtain rfl : liD = d := by simpa using hd
    refine ⟨.slice none 0 0, .slice (some ⟨e, 0, none⟩) 1 1, .slice none 0 0, ⟨none, 0, some ⟨e, 0, none⟩, 1, none, 0, rfl, rfl, rfl, ⟨by simp, by simp [maxLen], Or.inl rfl⟩, ⟨by simp [Exs.len], by simp [maxLen], Or.inr ⟨e, 0, rfl, ⟨none, 0, fun j x hx => ?_, by simp [Exs.len], by simp [maxLen], Or.inl rfl⟩, trivial⟩⟩, by simp [Sts.len], by simp [maxLen], Or.inl rfl⟩, fun j x hx => ?_⟩
    · rw [Nat.zero_add, cell_of_row W e j _ _ (0, 0) h1]
      have hx' : [ci 1, ci 0, .string ⟨#[]⟩, .string ⟨#[]⟩, ci 1, .int .u64 1, .slice none 0 0][j]? = some x := hx
      simpa using hx'
    · rw [Nat.zero_mul, Nat.zero_add, cell_of_row W g j _ _ (0, 0) h2]
      have hx' : [ci 1, .bool true, .string ⟨#[88]⟩, ci 1, .slice none 0 0, .slice (some ⟨e, 0, none⟩) 1 1, .slice none 0 0][j]? = some x := hx
      simpa using hx'
theorem li_sz (w : World) (a b c d : Obj) : Fr FN w ((((w.alloc a).alloc b).alloc c).alloc d) := (((Fr.alloc _ _ _).same (Fr.alloc _ _ _)).same (Fr.alloc _ _ _)).same (Fr.alloc _ _ _)
set_option maxHeartbeats 2000000 in
theorem live_any (w : World) : Calls Tryz.prog 7 #[] w fun e w' => e = .returned (.bool true) ∧ Fr FN w w' := by
  have kX : ∀ (W : World) (v : Value), MoI W liM v → Calls Tryz.prog 24 #[v, .slice none 0 0] W fun e w' => ∃ fo fc, e = .returned (.tuple #[.agg #[ct [109], .slice fo 1 fc], ci 0, ci 0]) ∧ Ty.ItL w' fo fc liF.items ∧ Fr FN W w' := fun W v h => (extract_any liM v [] none 0 W li_ok h (by simp) (by simp [maxLen]) (Or.inl rfl) (by simp)).mono fun e w' ⟨fv, f, h1, h2, h3, h4⟩ => by
    have hf := li_isF h3
    subst hf
    obtain ⟨fo, fc, rfl, h5⟩ := h2
    rw [li_exP] at h1
    exact ⟨fo, fc, h1, h5, h4⟩
  have kE : ∀ (W : World) (fo : Option Addr) (fc : Nat), Ty.ItL W fo fc liF.items → Calls Tryz.prog 25 #[.agg #[ct [109], .slice fo 1 fc]] W fun e w' => ∃ ao cap, e = .returned (.tuple #[.slice ao 28 cap, ci 0]) ∧ Wi.Sl w' (.slice ao 28 cap) (Wi.bc (encS liF)) ∧ 28 ≤ cap ∧ cap ≤ 9223372036854775807 ∧ Fr FN W w' := fun W fo fc h => by
    have := encode_any liF (.agg #[ct [109], .slice fo 1 fc]) W ⟨fo, fc, rfl, h⟩ (by simp [Ty.OkN]) li_okI
    rw [li_right, if_pos rfl, li_len] at this
    refine this.mono fun e w' ⟨ao, cap, h1, h2, h3⟩ => ⟨ao, cap, h1, h2.1, ?_, ?_, h3⟩
    · obtain ⟨a, c, e, q⟩ := h2.1
      simp only [Value.slice.injEq, Wi.bc_length, li_len] at e q
      obtain ⟨_, _, rfl⟩ := e
      exact q.1
    · obtain ⟨a, c, e, q⟩ := h2.1
      simp only [Value.slice.injEq, Wi.bc_length, li_len] at e q
      obtain ⟨_, _, rfl⟩ := e
      have := q.2.1
      unfold maxLen at this
      omega
  have kD : ∀ (W : World) (v : Value), Wi.Sl W v (Wi.bc (encS liF)) → Calls Tryz.prog 4 #[v] W fun e w' => ∃ fo fc, e = .returned (.tuple #[.agg #[ct [109], .slice fo 1 fc], ci 0]) ∧ Ty.ItL w' fo fc liF.items ∧ Fr FN W w' := fun W v h => (decode_in liF v W li_right (by simp [Ty.OkN]) li_okI h).mono fun e w' ⟨fv, h1, ⟨fo, fc, h2, h3⟩, h4⟩ => ⟨fo, fc, by rw [h1, h2]; rfl, h3, h4⟩
  have kS : ∀ (W : World) (fo go : Option Addr) (fc gc : Nat), Ty.ItL W fo fc liF.items → Ty.ItL W go gc liF.items → Calls Tryz.prog 6 #[.agg #[ct [109], .slice fo 1 fc], .agg #[ct [109], .slice go 1 gc]] W fun e w' => e = .returned (.bool true) ∧ Fr FN W w' := fun W fo go fc gc h1 h2 => rsame_eq liF _ _ W ⟨fo, fc, rfl, h1⟩ ⟨go, gc, rfl, h2⟩
  go_enter Tryz.func7, Tryz.ntmps7
  go_wp2_with fail
  go_at_call 24
  refine Calls.mono (kX _ _ (li_mo _ _ _ (k42 _ _ _ _ _) (k43 _ _ _ _ _))) ?_
  rintro e w1 ⟨fo, fc, rfl, hit1, f1⟩
  have g1 : Fr FN w w1 := (li_sz _ _ _ _ _).same f1
  obtain ⟨b, off, ap, cp, rfl, _, d0, d1, d2, d3, d4⟩ := Ty.ItL.at hit1 (show liF.items[0]? = some ⟨1, [88], 1, 1, []⟩ from rfl)
  simp only [Nat.zero_mul, Nat.add_zero] at d0 d1 d2 d3 d4
  have hc1 : 1 ≤ fc := hit1.1
  have hc2 : fc ≤ 9223372036854775807 := by have := hit1.2.1; unfold maxLen at this; omega
  have fa := Fr.alloc FN w1 (.cells #[ct [109], .slice (some ⟨b, off, none⟩) 1 fc] 25)
  have e1 := fa.cellN d1
  have e3 := fa.cellN d3
  have hit2 := hit1.keep fa
  have bx := alloc_new w1 (.cells #[ct [109], .slice (some ⟨b, off, none⟩) 1 fc] 25)
  have g1H : Hidden (Fr FN w w1) := g1
  have hit2H : Hidden (Ty.ItL (w1.alloc (.cells #[ct [109], .slice (some ⟨b, off, none⟩) 1 fc] 25)) (some ⟨b, off, none⟩) fc liF.items) := hit2
  have faH : Hidden (Fr FN w1 (w1.alloc (.cells #[ct [109], .slice (some ⟨b, off, none⟩) 1 fc] 25))) := fa
  have bxH : Hidden ((w1.alloc (.cells #[ct [109], .slice (some ⟨b, off, none⟩) 1 fc] 25)).heap[w1.heap.size]? = some (.cells #[ct [109], .slice (some ⟨b, off, none⟩) 1 fc] 25 (0, 0))) := bx
  clear d0 d2 d4 d1 d3 hit1 hit2 f1 g1 fa bx
  go_wp2_with fail
  go_at_call 25
  refine Calls.mono (kE _ _ _ hit2H) ?_
  rintro e w2 ⟨ba, bc, rfl, sl2, hb1, hb2, f2⟩
  have kD2 := kD w2 _ sl2
  clear e1 e3 kE sl2
  go_wp2_with fail
  go_at_call 4
  refine Calls.mono kD2 ?_
  rintro e w3 ⟨go, gc, rfl, hit3, f3⟩
  have g3 : Fr FN (w1.alloc (.cells #[ct [109], .slice (some ⟨b, off, none⟩) 1 fc] 25)) w3 := f2.same f3
  have fb := Fr.alloc FN w3 (.cells #[ct [109], .slice go 1 gc] 25)
  have kS2 := kS _ _ _ _ _ ((show Ty.ItL _ _ fc _ from hit2H).keep (g3.same fb)) (hit3.keep fb)
  obtain ⟨x0, x1⟩ := Ty.box2 ((g3.same fb).heap (show (w1.alloc _).heap[w1.heap.size]? = _ from bxH) (fun f => f))
  have gF : Hidden (Fr FN w (w3.alloc (.cells #[ct [109], .slice go 1 gc] 25))) := (((show Fr FN w w1 from g1H).same (show Fr FN w1 _ from faH)).same g3).same fb
  clear kD kD2 kS hit3 f2 f3 g3 fb kX
  go_wp2_with fail
  go_at_call 6
  refine Calls.mono kS2 ?_
  rintro e w4 ⟨rfl, f4⟩
  go_wp2_with fail
  go_ret
  exact ⟨rfl, (show Fr FN w _ from gF).same f4⟩
end Go.Proofs.YtakkiipkmogagaaGreat.Fo.Ic
