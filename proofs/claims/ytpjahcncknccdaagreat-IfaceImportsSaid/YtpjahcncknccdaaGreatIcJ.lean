/- iface.Encode: the walk. -/
import Derived.Test.YtpjahcncknccdaaGreatIcI
namespace Go.Proofs.YtpjahcncknccdaaGreat.Fo.Ic
open Go.RowKit Te
set_option linter.unusedSimpArgs false
set_option linter.unusedVariables false
set_option maxRecDepth 20000

def encS (f : Ty.Fc) : List UInt8 := Wi.rawS f.name ++ Wi.i31 (f.items.length : Int) ++ (f.items.map itemB).flatten
theorem nameR {s : Bs} (h : N.rightS s = 0) : s.length ≤ 32 := by
  unfold N.rightS at h
  split at h
  · split at h
    · cases h
    · omega
  · cases h
theorem rightI_ok {i : Ty.It} (h : Ty.rightI i = 0) : 0 ≤ i.kind ∧ i.kind ≤ 3 ∧ 0 ≤ i.typ ∧ i.typ ≤ 3 ∧ i.params.length ≤ 8 ∧ i.name.length ≤ 32 := by
  unfold Ty.rightI at h
  split at h
  · cases h
  · rename_i hk
    have hk : i.kind = 1 ∨ i.kind = 3 := by omega
    split at h
    · rename_i h1; exact absurd h h1
    · rename_i hn
      split at h
      · cases h
      · rename_i hp
        have hn := nameR (by simpa using hn)
        have ht : 0 ≤ i.typ ∧ i.typ ≤ 3 := by
          split at h
          · split at h
            · rename_i hf
              simp only [Ty.fitsConst, Bool.and_eq_true] at hf
              have := hf.1
              unfold Ty.rightV at this
              split at this
              · omega
              · split at this
                · omega
                · split at this
                  · omega
                  · cases this
            · cases h
          · split at h
            · rename_i hf
              simp only [Ty.fitsFn, Bool.and_eq_true, Bool.or_eq_true] at hf
              rcases hf.1.1 with q | q
              · simp at q; omega
              · rw [Ty.valued_iff] at q; omega
            · cases h
        exact ⟨by omega, by omega, ht.1, ht.2, by omega, hn⟩
theorem rightL_all : ∀ (a : Bs) (l : List Ty.It), Ty.rightL a l = 0 → ∀ i ∈ l, Ty.rightI i = 0
  | _, [], _, i, hi => by simp at hi
  | a, x :: r, h, i, hi => by
    unfold Ty.rightL at h
    split at h
    · rename_i h1; exact absurd h h1
    · rename_i h1
      split at h
      · cases h
      · split at h
        · cases h
        · rcases List.mem_cons.1 hi with rfl | hi
          · simpa using h1
          · exact rightL_all _ r h i hi
theorem rightF_ok {f : Ty.Fc} (h : Ty.rightF f = 0) : f.name.length ≤ 32 ∧ f.items.length ≤ 64 ∧ ∀ i ∈ f.items, Ty.rightI i = 0 := by
  have h0 := h
  unfold Ty.rightF at h
  split at h
  · rename_i h1; exact absurd h h1
  · rename_i h1
    split at h
    · cases h
    · exact ⟨nameR (by simpa using h1), rightF_len h0, rightL_all _ _ h⟩
set_option maxHeartbeats 2000000 in
theorem encode_any (f : Ty.Fc) (v : Value) (w : World) (hf : Ty.FcI w f v) (hn : Ty.OkN f.name) (hok : ∀ i ∈ f.items, Ty.OkI i) :
    Calls Tryz.prog 8 #[v] w fun e w' => ∃ ao cap, e = .returned (.tuple #[.slice ao (if Ty.rightF f = 0 then encS f else []).length cap, ci (Ty.rightF f)]) ∧ Wi.Ow w' w.heap.size (.slice ao (if Ty.rightF f = 0 then encS f else []).length cap) (Wi.bc (if Ty.rightF f = 0 then encS f else [])) ∧ Fr FN w w' := by
  obtain ⟨nm, l⟩ := f
  have kr : ∀ u, Fr FN w u → Calls Tryz.prog 9 #[v] u fun e w' => e = .returned (ci (Ty.rightF ⟨nm, l⟩)) ∧ Fr FN u w' := fun u hu => Ty.rightIface_any ⟨nm, l⟩ v u (hf.keep hu) hn hok
  obtain ⟨ao, ca, rfl, hl⟩ := hf
  have m1 : ca ≤ 9223372036854775807 := by have := hl.2.1; unfold maxLen at this; omega
  have n1 := hl.1
  obtain ⟨rf, hrf⟩ : ∃ r, Ty.rightF ⟨nm, l⟩ = r := ⟨_, rfl⟩
  rw [hrf] at kr ⊢
  have f0 := Fr.alloc FN w (.cells #[ct nm, .slice ao l.length ca] 24)
  have hbx : (w.alloc (.cells #[ct nm, .slice ao l.length ca] 24)).heap[w.heap.size]? = some (.cells #[ct nm, .slice ao l.length ca] 24 (0, 0)) := alloc_new _ _
  simp only at kr hl n1 m1 ⊢
  by_cases h0 : rf = 0
  · subst h0
    rw [if_pos rfl]
    obtain ⟨r1, r2, r3⟩ := rightF_ok hrf
    simp only at r1 r2 r3
    obtain ⟨E, hE⟩ : ∃ E, encS ⟨nm, l⟩ = E := ⟨_, rfl⟩
    have hEH : Hidden (Wi.rawS nm ++ Wi.i31 (l.length : Int) ++ (l.map itemB).flatten = E) := hE
    rw [hE]
    have kN : ∀ u : World, Wi.WOwn u (.pointer (some ⟨u.heap.size, 0, none⟩)) (u.alloc (.cells #[.slice none 0 0] 61)) [] (4 + (nm.length + (4 + 64 * 82))) := fun u => Wi.WOwn.new u _ (by omega)
    have kT : ∀ (W u : World) (p : Nat), Wi.WOwn W (.pointer (some ⟨p, 0, none⟩)) u [] (4 + (nm.length + (4 + 64 * 82))) → Calls Tryz.prog 16 #[.pointer (some ⟨p, 0, none⟩), .string ⟨nm.toArray⟩] u fun e w' => e = .returned (.tuple #[]) ∧ Wi.WOwn W (.pointer (some ⟨p, 0, none⟩)) w' (Wi.rawS nm) (4 + 64 * 82) := fun W u p h => Wi.text_own W _ nm [] _ u (by omega) h
    have kZ : ∀ (W u : World) (p : Nat), Wi.WOwn W (.pointer (some ⟨p, 0, none⟩)) u (Wi.rawS nm) (4 + 64 * 82) → Calls Tryz.prog 17 #[.pointer (some ⟨p, 0, none⟩), .int .i64 (l.length : Int)] u fun e w' => e = .returned (.tuple #[]) ∧ Wi.WOwn W (.pointer (some ⟨p, 0, none⟩)) w' (Wi.rawS nm ++ Wi.i31 (l.length : Int)) (64 * 82) := fun W u p h => int_own W _ _ _ _ u h
    have hlH : Hidden (Ty.ItL w ao ca l) := hl
    have r3H : Hidden (∀ i ∈ l, Ty.rightI i = 0) := r3
    have hokH : Hidden (∀ i ∈ l, Ty.OkI i) := hok
    have r2H : Hidden (l.length ≤ 64) := r2
    have f0H : Hidden (Fr FN w (w.alloc (.cells #[ct nm, .slice ao l.length ca] 24))) := f0
    have hbxH : Hidden ((w.alloc (.cells #[ct nm, .slice ao l.length ca] 24)).heap[w.heap.size]? = some (.cells #[ct nm, .slice ao l.length ca] 24 (0, 0))) := hbx
    clear hrf hl hE r1 r3 hok hn hbx r2
    go_enter Tryz.func8, Tryz.ntmps8
    go_wp2_with fail
    go_at_call 9
    refine Calls.mono (kr _ f0) ?_
    rintro e w1 ⟨rfl, f1⟩
    have g1 : Fr FN w w1 := (show Fr FN w _ from f0H).same f1
    have bx1 := f1.heap (show (w.alloc _).heap[w.heap.size]? = _ from hbxH) (fun f => f)
    have o1 := kN w1
    have bxa := (Fr.alloc FN w1 (.cells #[.slice none 0 0] 61)).heap bx1 (fun f => f)
    obtain ⟨c0, c1⟩ := Ty.box2 bxa
    go_wp2_with fail
    go_at_call 16
    refine Calls.mono (kT w1 _ _ o1) ?_
    rintro e w2 ⟨rfl, o2⟩
    have g2 : Fr FN w1 w2 := of_wi o2.fr
    obtain ⟨d0, d1⟩ := Ty.box2 (g2.heap bx1 (fun f => f))
    go_wp2_with fail
    go_at_call 17
    refine Calls.mono (kZ w1 _ _ o2) ?_
    rintro e w3 ⟨rfl, o3⟩
    have g3 : Fr FN w1 w3 := of_wi o3.fr
    obtain ⟨e0, e1⟩ := Ty.box2 (g3.heap bx1 (fun f => f))
    have g1H : Hidden (Fr FN w w1) := g1
    have o3H : Hidden (Wi.WOwn w1 (.pointer (some ⟨w1.heap.size, 0, none⟩)) w3 (Wi.rawS nm ++ Wi.i31 (l.length : Int)) (64 * 82)) := o3
    clear g1 g2 g3 o1 o2 o3 bx1 bxa c0 c1 d0 d1 f1 kr f0 kN kT kZ
    go_wp2_with fail
    go_loopg [23] l.length (fun k iv wr => ∃ j : Nat, iv = ci (j : Int) ∧ j ≤ l.length ∧ k = l.length - j ∧ Wi.WOwn w1 (.pointer (some ⟨w1.heap.size, 0, none⟩)) wr (Wi.rawS nm ++ Wi.i31 (l.length : Int) ++ ((l.take j).map itemB).flatten) ((64 - j) * 82))
    case atStart => exact ⟨0, rfl, by omega, rfl, by have h := (show Wi.WOwn w1 _ w3 _ _ from o3H); simpa using h⟩
    case round =>
      obtain ⟨j, rfl, hj, hgk, ho⟩ := hrel
      have hgkH : Hidden (gk = l.length - j) := hgk
      have hoH : Hidden (Wi.WOwn w1 (.pointer (some ⟨w1.heap.size, 0, none⟩)) wr (Wi.rawS nm ++ Wi.i31 (l.length : Int) ++ ((l.take j).map itemB).flatten) ((64 - j) * 82)) := ho
      have gr : Fr FN w1 wr := of_wi ho.fr
      clear hgk ho
      by_cases hjl : j < l.length
      · obtain ⟨x, hx⟩ : ∃ x, l[j]? = some x := ⟨l[j], List.getElem?_eq_getElem hjl⟩
        have hmem := List.mem_of_getElem? hx
        obtain ⟨q1, q2, q3, q4, q5, q6⟩ := rightI_ok ((show ∀ i ∈ l, Ty.rightI i = 0 from r3H) x hmem)
        have hxo := (show ∀ i ∈ l, Ty.OkI i from hokH) x hmem
        obtain ⟨b, off, ap, cp, rfl, hin, d0, d1, d2, d3, d4⟩ := Ty.ItL.at (show Ty.ItL w _ ca l from hlH) hx
        have gw : Fr FN w wr := (show Fr FN w w1 from g1H).same gr
        replace d0 := gw.cellN d0
        replace d1 := gw.cellN d1
        replace d2 := gw.cellN d2
        replace d3 := gw.cellN d3
        replace d4 := gw.cellN d4
        have oB : Wi.WOwn w1 (.pointer (some ⟨w1.heap.size, 0, none⟩)) (wr.alloc (.cells #[ci x.kind, ct x.name, ci x.typ, .int .u64 x.bits, .slice ap x.params.length cp] 59)) (Wi.rawS nm ++ Wi.i31 (l.length : Int) ++ ((l.take j).map itemB).flatten) (18 + x.name.length + 4 * x.params.length + (64 - (j + 1)) * 82) := by
          refine ((show Wi.WOwn w1 _ wr _ _ from hoH).keep (to_wi (Fr.alloc FN wr _)) (fun k f => False.elim f)).less ?_
          have : l.length ≤ 64 := r2H
          obtain ⟨t, ht⟩ : ∃ t, 64 - j = t + 1 := ⟨63 - j, by omega⟩
          rw [ht, show 64 - (j + 1) = t by omega]
          omega
        have kP := putItem_any w1 (.pointer (some ⟨w1.heap.size, 0, none⟩)) x ap cp _ _ _ ⟨_, rfl⟩ oB (hin.keep g1H) q5 (by omega) q1 q2 q3 q4 hxo.bits
        have htk : Hidden (((l.take (j + 1)).map itemB).flatten = ((l.take j).map itemB).flatten ++ itemB x) := by show _ = _; rw [take_snoc hx]; simp
        obtain ⟨xk, xn, xt, xb, xp⟩ := x
        simp only at d0 d1 d2 d3 d4 kP htk
        clear hx hmem q1 q2 q3 q4 q5 q6 hxo hin gw oB gr
        go_wp2_with (go_at_call 18; refine Calls.mono kP ?_; rintro e w5 ⟨rfl, o5⟩)
        go_roundg (l.length - (j + 1))
        case measure => have : gk = l.length - j := hgkH; omega
        case rel => exact ⟨j + 1, by go_num, by omega, rfl, by rw [(show ((l.take (j + 1)).map itemB).flatten = _ from htk), ← List.append_assoc]; exact o5⟩
      · obtain rfl : j = l.length := by omega
        have ho := (show Wi.WOwn w1 _ wr _ _ from hoH)
        rw [List.take_length, (show Wi.rawS nm ++ Wi.i31 (l.length : Int) ++ (l.map itemB).flatten = E from hEH)] at ho
        have kb := Wi.bytes_own w1 w1.heap.size E _ wr ho
        clear ho
        go_wp2_with (go_at_call 19; refine Calls.mono kb ?_; rintro e w5 ⟨ba, bc, rfl, o5, f5⟩)
        go_ret2
        refine ⟨ba, bc, rfl, ?_, ((show Fr FN w w1 from g1H).same gr).same (of_wi f5)⟩
        obtain ⟨p1, ao5, len5, cap5, e5, p2⟩ := o5
        refine ⟨p1, ao5, len5, cap5, e5, ?_⟩
        rcases p2 with p2 | ⟨g5, off5, p3, p4, p5⟩
        · exact Or.inl p2
        · exact Or.inr ⟨g5, off5, p3, by have := (show Fr FN w w1 from g1H).size; have := gr.size; omega, p5⟩
  · rw [if_neg h0]
    have b1 : (rf != 0) = true := by simpa using h0
    clear h0 hrf hl hbx
    go_enter Tryz.func8, Tryz.ntmps8
    go_wp2_with (go_at_call 9; refine Calls.mono (kr _ f0) ?_; rintro e w1 ⟨rfl, f1⟩)
    go_ret2
    exact ⟨none, 0, rfl, Wi.Ow.nil _ _, f0.same f1⟩
end Go.Proofs.YtpjahcncknccdaaGreat.Fo.Ic
