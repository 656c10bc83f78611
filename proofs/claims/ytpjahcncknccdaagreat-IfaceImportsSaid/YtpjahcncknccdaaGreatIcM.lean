/- iface.takeItem, of bytes that are there: the walk. -/
import Derived.Test.YtpjahcncknccdaaGreatIcL
namespace Go.Proofs.YtpjahcncknccdaaGreat.Fo.Ic
open Go.RowKit Te
set_option linter.unusedSimpArgs false
set_option linter.unusedVariables false
set_option maxRecDepth 20000

theorem results_cell1 {fn : Func} {p : Tmp} {ty : TypeId} (h : fn.results = #[.cell p ty]) (tmps : Array Value) (P : Program) (w : World) :
    (results fn tmps).run P w = ((asAddr (tmps.getD p undef)).run P w).andThen fun a w₁ => (loadVar ty a).run P w₁ := by
  simp only [results, h]
  simp [Sem.run_bind, Result.andThen]
theorem post_cell1 {fn : Func} {R : Ending → World → Prop} {a : Act} {w : World} {p : Tmp} {ty : TypeId} (h : fn.results = #[.cell p ty]) (hd : a.defers = []) (g : Nat) (cs : Array Value)
    (hp : a.tmps.getD p undef = .pointer (some ⟨g, 0, none⟩)) (hl : (loadVar ty ⟨g, 0, none⟩).run Tryz.prog w = .ok (.agg cs) w)
    (hR : R (.returned (.agg cs)) w) : bodyPost Tryz.prog fn R .ret a w := by
  refine ⟨hd, _, ?_, hR⟩
  rw [results_cell1 h, hp]
  simp [asAddr, hl, Result.andThen]
theorem size_item5 : (Tryz.prog.info? 59).map (·.size) = some 5 := by kernel_rfl
theorem i64_small {z : Int} (h0 : 0 ≤ z) (h1 : z ≤ 3) : IntKind.i64.wrap z = z := by
  have : z = 0 ∨ z = 1 ∨ z = 2 ∨ z = 3 := by omega
  rcases this with rfl | rfl | rfl | rfl <;> rfl
set_option maxHeartbeats 2000000 in
theorem takeItem_in (i : Ty.It) (q : Nat) (rest : List UInt8) (w : World) (hr : Wi.Rd w q (itemB i ++ rest) 0) (hi : Ty.rightI i = 0) (hb : U64 i.bits) :
    Calls Tryz.prog 52 #[Wi.rp q] w fun e w' => ∃ po pc, e = .returned (.agg #[ci i.kind, ct i.name, ci i.typ, .int .u64 i.bits, .slice po i.params.length pc]) ∧ Ty.InL w' po pc i.params ∧ (i.params = [] ∨ ∀ k, (Value.slice po i.params.length pc).ownBlock = some k → w.heap.size ≤ k ∧ k < w'.heap.size) ∧ Wi.Rd w' q rest 0 ∧ Fr (fun k => k = q) w w' := by
  obtain ⟨hk0, hk1, ht0, ht1, hpl, hnl⟩ := rightI_ok hi
  have hpar := rightI_par hi
  obtain ⟨kind, name, typ, bits, params⟩ := i
  simp only at *
  obtain ⟨B, rfl⟩ : ∃ B : Nat, bits = (B : Int) := ⟨bits.toNat, by have := hb.1; omega⟩
  have hB : B < 18446744073709551616 := by have := hb.2; omega
  have e0 : itemB ⟨kind, name, typ, (B : Int), params⟩ ++ rest = [u8 kind] ++ (Wi.rawS name ++ ([u8 typ] ++ (Wi.beS B 8 ++ (Wi.intsS params ++ rest)))) := by unfold itemB; simp
  rw [e0] at hr
  have hq := hr.lt
  obtain ⟨V, hV⟩ : ∃ V, V = w.alloc zIt := ⟨_, rfl⟩
  have fwV : Fr FN w V := by rw [hV]; exact Fr.alloc _ _ _
  have hsV : V.heap.size = w.heap.size + 1 := by rw [hV]; simp
  have hVz : V.heap[w.heap.size]? = some zIt := by rw [hV]; exact alloc_new _ _
  have o1 : RB V (w.heap.size + 1) q 59 ([u8 kind] ++ (Wi.rawS name ++ ([u8 typ] ++ (Wi.beS B 8 ++ (Wi.intsS params ++ rest))))) #[ci 0, .string ⟨#[]⟩, ci 0, .int .u64 0, .slice none 0 0] (V.alloc zIt) :=
    ⟨(hr.later (to_wi fwV)).later (to_wi (Fr.alloc FN V _)), by rw [← hsV]; exact alloc_new _ _, Fr.alloc _ _ _, by omega, by omega⟩
  have boxR : ∀ {r : List UInt8} {c : Array Value} {u : World}, RB V (w.heap.size + 1) q 59 r c u → u.heap[w.heap.size]? = some zIt := fun h => h.2.2.1.heap hVz (fun e => by have e : w.heap.size = q := e; omega)
  have ew1 := i64_small hk0 hk1
  have ew2 := i64_small ht0 ht1
  have en1 := u8_nat hk0 hk1
  have en2 := u8_nat ht0 ht1
  have k1 : ∀ (c : Array Value) u, RB V (w.heap.size + 1) q 59 ([u8 kind] ++ (Wi.rawS name ++ ([u8 typ] ++ (Wi.beS B 8 ++ (Wi.intsS params ++ rest))))) c u → Calls Tryz.prog 84 #[Wi.rp q] u fun e w' => e = .returned (.int .u8 kind) ∧ RB V (w.heap.size + 1) q 59 (Wi.rawS name ++ ([u8 typ] ++ (Wi.beS B 8 ++ (Wi.intsS params ++ rest)))) c w' := fun c u h => (byte_in q _ _ u h.1).mono fun _ _ ⟨a, b, c⟩ => ⟨by rw [a, en1], h.next b c⟩
  have k2 : ∀ (c : Array Value) u, RB V (w.heap.size + 1) q 59 (Wi.rawS name ++ ([u8 typ] ++ (Wi.beS B 8 ++ (Wi.intsS params ++ rest)))) c u → Calls Tryz.prog 24 #[Wi.rp q, ci 32] u fun e w' => e = .returned (.string ⟨name.toArray⟩) ∧ RB V (w.heap.size + 1) q 59 ([u8 typ] ++ (Wi.beS B 8 ++ (Wi.intsS params ++ rest))) c w' := fun c u h => (text_in q _ _ u hnl h.1).mono fun _ _ ⟨a, b, c⟩ => ⟨a, h.next b c⟩
  have k3 : ∀ (c : Array Value) u, RB V (w.heap.size + 1) q 59 ([u8 typ] ++ (Wi.beS B 8 ++ (Wi.intsS params ++ rest))) c u → Calls Tryz.prog 84 #[Wi.rp q] u fun e w' => e = .returned (.int .u8 typ) ∧ RB V (w.heap.size + 1) q 59 (Wi.beS B 8 ++ (Wi.intsS params ++ rest)) c w' := fun c u h => (byte_in q _ _ u h.1).mono fun _ _ ⟨a, b, c⟩ => ⟨by rw [a, en2], h.next b c⟩
  have k4 : ∀ (c : Array Value) u, RB V (w.heap.size + 1) q 59 (Wi.beS B 8 ++ (Wi.intsS params ++ rest)) c u → Calls Tryz.prog 85 #[Wi.rp q] u fun e w' => e = .returned (.int .u64 (B : Int)) ∧ RB V (w.heap.size + 1) q 59 (Wi.intsS params ++ rest) c w' := fun c u h => (long_in q _ _ u hB h.1).mono fun _ _ ⟨a, b, c⟩ => ⟨a, h.next b c⟩
  have k5 : ∀ (c : Array Value) u, RB V (w.heap.size + 1) q 59 (Wi.intsS params ++ rest) c u → Calls Tryz.prog 86 #[Wi.rp q, ci 8] u fun e w' => ∃ po pc, e = .returned (.slice po params.length pc) ∧ Ty.InL w' po pc params ∧ (params = [] ∨ ∀ k, (Value.slice po params.length pc).ownBlock = some k → u.heap.size ≤ k ∧ k < w'.heap.size) ∧ RB V (w.heap.size + 1) q 59 rest c w' := fun c u h => (ints_in q _ _ u hpl hpar h.1).mono fun _ _ ⟨po, pc, a, b, c, d, e⟩ => ⟨po, pc, a, b, c, h.next d e⟩
  have o1H : Hidden (RB V (w.heap.size + 1) q 59 ([u8 kind] ++ (Wi.rawS name ++ ([u8 typ] ++ (Wi.beS B 8 ++ (Wi.intsS params ++ rest))))) #[ci 0, .string ⟨#[]⟩, ci 0, .int .u64 0, .slice none 0 0] (V.alloc zIt)) := o1
  have hVH : Hidden (V = w.alloc zIt) := hV
  have hsVH : Hidden (V.heap.size = w.heap.size + 1) := hsV
  have fwVH : Hidden (Fr FN w V) := fwV
  clear hr hi hb e0 o1 hV fwV hVz hpar hpl hnl hB hk0 hk1 ht0 ht1 en1 en2 hsV
  go_enter Tryz.func52, Tryz.ntmps52
  go_wp2_with fail
  rw [← (show V = _ from hVH)]
  go_at_call 84
  refine (k1 _ _ o1H).mono ?_
  rintro e w1 ⟨rfl, h1⟩
  have f0 := Ty.frozen_row h1.2.1 0
  obtain ⟨a0, a1, a2, a3, a4⟩ := Ty.box5 h1.2.1
  go_wp2_with fail
  have h1' : RB V (w.heap.size + 1) q 59 _ #[ci kind, .string ⟨#[]⟩, ci 0, .int .u64 0, .slice none 0 0] (w1.setCell ⟨w.heap.size + 1, 0, none⟩ (ci kind)) := h1.put 0 (ci kind)
  go_at_call 24
  refine (k2 _ _ h1').mono ?_
  rintro e w2 ⟨rfl, h2⟩
  clear f0 a0 a1 a2 a3 a4
  have f1 := Ty.frozen_row h2.2.1 1
  obtain ⟨a0, a1, a2, a3, a4⟩ := Ty.box5 h2.2.1
  go_wp2_with fail
  have h2' : RB V (w.heap.size + 1) q 59 _ #[ci kind, ct name, ci 0, .int .u64 0, .slice none 0 0] (w2.setCell ⟨w.heap.size + 1, 1, none⟩ (ct name)) := h2.put 1 (ct name)
  go_at_call 84
  refine (k3 _ _ h2').mono ?_
  rintro e w3 ⟨rfl, h3⟩
  clear f1 a0 a1 a2 a3 a4
  have f2 := Ty.frozen_row h3.2.1 2
  obtain ⟨a0, a1, a2, a3, a4⟩ := Ty.box5 h3.2.1
  go_wp2_with fail
  have h3' : RB V (w.heap.size + 1) q 59 _ #[ci kind, ct name, ci typ, .int .u64 0, .slice none 0 0] (w3.setCell ⟨w.heap.size + 1, 2, none⟩ (ci typ)) := h3.put 2 (ci typ)
  go_at_call 85
  refine (k4 _ _ h3').mono ?_
  rintro e w4 ⟨rfl, h4⟩
  clear f2 a0 a1 a2 a3 a4
  have f3 := Ty.frozen_row h4.2.1 3
  obtain ⟨a0, a1, a2, a3, a4⟩ := Ty.box5 h4.2.1
  go_wp2_with fail
  have h4' : RB V (w.heap.size + 1) q 59 _ #[ci kind, ct name, ci typ, .int .u64 (B : Int), .slice none 0 0] (w4.setCell ⟨w.heap.size + 1, 3, none⟩ (.int .u64 (B : Int))) := h4.put 3 (.int .u64 (B : Int))
  go_at_call 86
  refine (k5 _ _ h4').mono ?_
  rintro e w5 ⟨po, pc, rfl, hin, hown, h5⟩
  clear f3 a0 a1 a2 a3 a4
  have hz := boxR h5
  have f4 := Ty.frozen_row h5.2.1 4
  obtain ⟨a0, a1, a2, a3, a4⟩ := Ty.box5 h5.2.1
  have h5' : RB V (w.heap.size + 1) q 59 rest #[ci kind, ct name, ci typ, .int .u64 (B : Int), .slice po params.length pc] (w5.setCell ⟨w.heap.size + 1, 4, none⟩ (.slice po params.length pc)) := h5.put 4 _
  have hz' := boxR h5'
  have h5H : Hidden (RB V (w.heap.size + 1) q 59 rest #[ci kind, ct name, ci typ, .int .u64 (B : Int), .slice po params.length pc] (w5.setCell ⟨w.heap.size + 1, 4, none⟩ (.slice po params.length pc))) := h5'
  have z0 := Ty.frozen_row hz 0
  have z1 := Ty.frozen_row hz 1
  have z2 := Ty.frozen_row hz 2
  have z3 := Ty.frozen_row hz 3
  have z4 := Ty.frozen_row hz 4
  obtain ⟨b0, b1, b2, b3, b4⟩ := Ty.box5 hz
  have hs4 : w.heap.size + 1 < w4.heap.size := by have := lt_of_heap h4.2.1; omega
  have hH : Hidden (Ty.InL w5 po pc params ∧ (params = [] ∨ ∀ k, (Value.slice po params.length pc).ownBlock = some k → w4.heap.size ≤ k ∧ k < w5.heap.size)) := ⟨hin, by simpa using hown⟩
  clear hin hown h1 h2 h3 h4 h5 h1' h2' h3' h4' h5' k1 k2 k3 k4 k5 boxR
  go_wp2_with fail
  obtain ⟨hin, hown⟩ := (show _ ∧ _ from hH)
  have h5' := (show RB V _ q _ rest _ _ from h5H)
  have g1 := Fr.setCell w5 ⟨w.heap.size + 1, 4, none⟩ (.slice po params.length pc)
  have g2 := five_at (w5.setCell ⟨w.heap.size + 1, 4, none⟩ (.slice po params.length pc)) w.heap.size (ci kind) (ct name) (ci typ) (.int .u64 (B : Int)) (.slice po params.length pc)
  have hq' : q < w.heap.size := hq
  have fV2 : Fr (fun k => k = q) w (w5.setCell ⟨w.heap.size + 1, 4, none⟩ (.slice po params.length pc)) := ((show Fr FN w V from fwVH).mono (fun _ _ f => f.elim)).same h5'.2.2.1
  refine post_cell1 rfl rfl _ _ rfl (run_loadVar_row _ _ _ _ _ _ _ (five_put hz' _ _ _ _ _) Tryz.underlying59 rfl size_item5) ⟨po, pc, rfl, ?_, ?_, ?_, ?_⟩
  · by_cases hp : params = []
    · subst hp; exact ⟨hin.1, hin.2.1, hin.2.2.1, Or.inl rfl⟩
    · have ho := hown.resolve_left hp
      refine InL_keepS (InL_keepS hin g1 fun k hk e => ?_) g2 fun k hk e => ?_
      · have := (ho k hk).1; have e : k = w.heap.size + 1 := e; omega
      · have := (ho k hk).1; have e : k = w.heap.size := e; omega
  · rcases hown with h0 | ho
    · exact Or.inl h0
    · right
      intro k hk
      exact ⟨by have := (ho k hk).1; omega, Nat.lt_of_lt_of_le (ho k hk).2 (Nat.le_trans g1.size g2.size)⟩
  · exact h5'.1.aside (to_wi g2) (fun k hk => by have hk : k = w.heap.size := hk; omega)
  · exact fV2.trans g2 (fun k hk e => by have e : k = w.heap.size := e; omega)
end Go.Proofs.YtpjahcncknccdaaGreat.Fo.Ic
