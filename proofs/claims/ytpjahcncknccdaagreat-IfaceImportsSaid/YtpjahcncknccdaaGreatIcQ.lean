/- iface.Decode, of the bytes of a right interface. -/
import Derived.Test.YtpjahcncknccdaaGreatIcN
namespace Go.Proofs.YtpjahcncknccdaaGreat.Fo.Ic
open Go.RowKit Te
set_option linter.unusedSimpArgs false
set_option linter.unusedVariables false
set_option maxRecDepth 20000

theorem results_cell2 {fn : Func} {p u : Tmp} {ty : TypeId} (h : fn.results = #[.cell p ty, .tmp u]) (tmps : Array Value) (P : Program) (w : World) :
    (results fn tmps).run P w = ((asAddr (tmps.getD p undef)).run P w).andThen fun a w₁ => ((loadVar ty a).run P w₁).andThen fun v w₂ => .ok (.tuple #[v, tmps.getD u undef]) w₂ := by
  simp only [results, h]
  simp [Sem.run_bind, Result.andThen]
theorem post_cell2 {fn : Func} {R : Ending → World → Prop} {a : Act} {w : World} {p u : Tmp} {ty : TypeId} (h : fn.results = #[.cell p ty, .tmp u]) (hd : a.defers = []) (g : Nat) (cs : Array Value)
    (hp : a.tmps.getD p undef = .pointer (some ⟨g, 0, none⟩)) (hl : (loadVar ty ⟨g, 0, none⟩).run Tryz.prog w = .ok (.agg cs) w)
    (hR : R (.returned (.tuple #[.agg cs, a.tmps.getD u undef])) w) : bodyPost Tryz.prog fn R .ret a w := by
  refine ⟨hd, _, ?_, hR⟩
  rw [results_cell2 h, hp]
  simp [asAddr, hl, Result.andThen]
theorem fail_none (q : Nat) (rest : List UInt8) (w : World) (hr : Wi.Rd w q rest 0) : Calls Tryz.prog 26 #[Wi.rp q, ci 0] w fun e w' => e = .returned (.tuple #[]) ∧ w' = w := by
  clear hr
  go_enter Tryz.func26, Tryz.ntmps26
  go_wp2
  exact ⟨rfl, _, results_none rfl _ _ _, rfl, rfl⟩
set_option maxHeartbeats 2000000 in
theorem decode_in (f : Ty.Fc) (v : Value) (w : World) (hf : Ty.rightF f = 0) (hn : Ty.OkN f.name) (hok : ∀ i ∈ f.items, Ty.OkI i) (hs : Wi.Sl w v (Wi.bc (encS f))) :
    Calls Tryz.prog 10 #[v] w fun e w' => ∃ fv, e = .returned (.tuple #[fv, ci 0]) ∧ Ty.FcI w' f fv ∧ Fr FN w w' := by
  obtain ⟨r1, r2, r3⟩ := rightF_ok hf
  obtain ⟨nm, l⟩ := f
  simp only at *
  have hlen : (encS ⟨nm, l⟩).length ≤ 140737488355328 := by
    unfold encS Wi.rawS
    simp only [List.length_append, i31_len]
    have : ∀ (l : List Ty.It), (∀ i ∈ l, Ty.rightI i = 0) → (l.map itemB).flatten.length ≤ l.length * 82 := by
      intro l
      induction l with
      | nil => simp
      | cons x l ih =>
        intro h
        have h1 := rightI_ok (h x (by simp))
        have h2 := ih (fun i hi => h i (by simp [hi]))
        simp only [List.map_cons, List.flatten_cons, List.length_append, itemB_len, List.length_cons]
        omega
    have := this l r3
    omega
  have e0 : encS ⟨nm, l⟩ = Wi.rawS nm ++ (Wi.i31 (l.length : Int) ++ ((l.map itemB).flatten ++ [])) := by unfold encS; simp
  obtain ⟨V, hV⟩ : ∃ V, V = w.alloc zIf := ⟨_, rfl⟩
  have fwV : Fr FN w V := by rw [hV]; exact Fr.alloc _ _ _
  have hVz : V.heap[w.heap.size]? = some zIf := by rw [hV]; exact alloc_new _ _
  have kR := Wi.read_any v (encS ⟨nm, l⟩) V hlen (hs.keep (to_wi fwV) (fun _ _ f => f))
  rw [e0] at kR
  obtain ⟨ao0, cap0, rfl, _⟩ := id hs
  simp only [Wi.bc_length] at kR
  have kT : ∀ (W : World) (g q : Nat) (c : Array Value) (u : World), RB W g q 24 (Wi.rawS nm ++ (Wi.i31 (l.length : Int) ++ ((l.map itemB).flatten ++ []))) c u → Calls Tryz.prog 24 #[Wi.rp q, ci 32] u fun e w' => e = .returned (.string ⟨nm.toArray⟩) ∧ RB W g q 24 (Wi.i31 (l.length : Int) ++ ((l.map itemB).flatten ++ [])) c w' := fun W g q c u h => (text_in q _ _ u r1 h.1).mono fun _ _ ⟨a, b, c⟩ => ⟨a, h.next b c⟩
  have kI : ∀ (W : World) (g q : Nat) (c : Array Value) (u : World), RB W g q 24 (Wi.i31 (l.length : Int) ++ ((l.map itemB).flatten ++ [])) c u → Calls Tryz.prog 25 #[Wi.rp q] u fun e w' => ∃ ao cap, e = .returned (.slice ao l.length cap) ∧ (∀ w'', Fr (fun k => k < u.heap.size) w' w'' → Ty.ItL w'' ao cap l) ∧ RB W g q 24 [] c w' := fun W g q c u h => (takeItems_in l q [] u h.1 r2 r3 (fun i hi => (hok i hi).bits)).mono fun _ _ ⟨ao, cap, a, b, c, d⟩ => ⟨ao, cap, a, b, h.next c d⟩
  have kF : ∀ (ao : Option Addr) (cap : Nat) (u : World), Ty.ItL u ao cap l → Calls Tryz.prog 9 #[.agg #[ct nm, .slice ao l.length cap]] u fun e w' => e = .returned (ci 0) ∧ Fr FN u w' := fun ao cap u h => by
    have := Ty.rightIface_any ⟨nm, l⟩ (.agg #[ct nm, .slice ao l.length cap]) u ⟨ao, cap, rfl, h⟩ hn hok
    rw [hf] at this
    exact this
  have kX := is_any 0
  have hVH : Hidden (V = w.alloc zIf) := hV
  have fwVH : Hidden (Fr FN w V) := fwV
  have hVzH : Hidden (V.heap[w.heap.size]? = some zIf) := hVz
  clear hf hn hok hs hlen e0 hV fwV hVz r1 r2 r3
  go_enter Tryz.func10, Tryz.ntmps10
  go_wp2_with fail
  rw [← (show V = _ from hVH)]
  go_at_call 23
  refine Calls.mono kR ?_
  rintro e w1 ⟨q, rfl, rd1, hq1, f1⟩
  have o1 : RB w1 w1.heap.size q 24 (Wi.rawS nm ++ (Wi.i31 (l.length : Int) ++ ((l.map itemB).flatten ++ []))) #[.string ⟨#[]⟩, .slice none 0 0] (w1.alloc zIf) := ⟨rd1.later (to_wi (Fr.alloc FN _ _)), alloc_new _ _, Fr.alloc _ _ _, rd1.lt, Nat.le_refl _⟩
  go_wp2_with fail
  go_at_call 24
  refine (kT _ _ _ _ _ o1).mono ?_
  rintro e w2 ⟨rfl, h2⟩
  have p0 := Ty.frozen_row h2.2.1 0
  obtain ⟨a0, a1⟩ := Ty.box2 h2.2.1
  go_wp2_with fail
  have h2' : RB w1 w1.heap.size q 24 _ #[ct nm, .slice none 0 0] (w2.setCell ⟨w1.heap.size, 0, none⟩ (ct nm)) := h2.put 0 (ct nm)
  go_at_call 25
  refine (kI _ _ _ _ _ h2').mono ?_
  rintro e w3 ⟨ia, ic, rfl, hit, h3⟩
  clear p0 a0 a1
  have p1 := Ty.frozen_row h3.2.1 1
  obtain ⟨a0, a1⟩ := Ty.box2 h3.2.1
  have h3' : RB w1 w1.heap.size q 24 [] #[ct nm, .slice ia l.length ic] (w3.setCell ⟨w1.heap.size, 1, none⟩ (.slice ia l.length ic)) := h3.put 1 _
  have hg2 : w1.heap.size < w2.heap.size := lt_of_heap h2.2.1
  have hitA : Ty.ItL (w3.setCell ⟨w1.heap.size, 1, none⟩ (.slice ia l.length ic)) ia ic l := hit _ ((Fr.setCell w3 ⟨w1.heap.size, 1, none⟩ _).mono fun k _ e => by have e : k = w1.heap.size := e; show k < (w2.setCell _ _).heap.size; simp; omega)
  have hitW : Hidden (∀ w'', Fr (fun k => k < w2.heap.size) w3 w'' → Ty.ItL w'' ia ic l) := fun w'' h => hit w'' (h.mono fun k _ e => by simpa using e)
  have hg2H : Hidden (w1.heap.size < w2.heap.size) := hg2
  have hitH : Hidden (Ty.ItL (w3.setCell ⟨w1.heap.size, 1, none⟩ (.slice ia l.length ic)) ia ic l) := hitA
  have h3H : Hidden (RB w1 w1.heap.size q 24 [] #[ct nm, .slice ia l.length ic] (w3.setCell ⟨w1.heap.size, 1, none⟩ (.slice ia l.length ic))) := h3'
  have hmore : Hidden (V.heap.size ≤ q ∧ Fr FN V w1) := ⟨hq1, of_wi f1⟩
  obtain ⟨c0, c1⟩ := Ty.box2 h3'.2.1
  clear h2 h2' h3 o1 kT kI kR hit rd1 hitA hg2 hq1 f1
  go_wp2_with fail
  go_at_call 9
  refine Calls.mono (kF ia ic _ hitH) ?_
  rintro e w4 ⟨rfl, f4⟩
  have rd4 : Wi.Rd w4 q [] 0 := (show RB w1 _ q _ [] _ _ from h3H).1.later (to_wi f4)
  have kf := fail_none q [] w4 rd4
  have kd := Wi.done_end q w4 rd4
  obtain ⟨d0, d1⟩ := Ty.box2 (f4.heap (show RB w1 _ q _ [] _ _ from h3H).2.1 (fun f => f))
  have rd4H : Hidden (Wi.Rd w4 q [] 0) := rd4
  have hV4 : w4.heap[w.heap.size]? = some zIf := by
    have h3' := (show RB w1 _ q _ [] _ _ from h3H)
    obtain ⟨q1, q2⟩ := (show V.heap.size ≤ q ∧ Fr FN V w1 from hmore)
    have hz : w.heap.size < V.heap.size := lt_of_heap (show V.heap[w.heap.size]? = some zIf from hVzH)
    exact f4.heap (h3'.2.2.1.heap (q2.heap (show V.heap[w.heap.size]? = some zIf from hVzH) (fun f => f)) (fun e => by have e : w.heap.size = q := e; omega)) (fun f => f)
  have z0 := Ty.frozen_row hV4 0
  have z1 := Ty.frozen_row hV4 1
  obtain ⟨b0, b1⟩ := Ty.box2 hV4
  have hV4H : Hidden (w4.heap[w.heap.size]? = some zIf) := hV4
  have f4H : Hidden (Fr FN (w3.setCell ⟨w1.heap.size, 1, none⟩ (.slice ia l.length ic)) w4) := f4
  clear rd4 hV4 f4 a0 a1 c0 c1 kF
  go_wp2_with (first
    | (go_at_call 26; refine Calls.mono kf ?_; rintro e w5 ⟨rfl, rfl⟩)
    | (go_at_call 28; refine Calls.mono kd ?_; rintro e w5 ⟨rfl, rfl⟩)
    | (go_at_call 27; refine Calls.mono (kX _) ?_; rintro e w5 ⟨rfl, rfl⟩))
  have h5 := (show RB w1 _ q _ [] _ _ from h3H)
  obtain ⟨q1, q2⟩ := (show V.heap.size ≤ q ∧ Fr FN V w1 from hmore)
  have f4 := (show Fr FN (w3.setCell ⟨w1.heap.size, 1, none⟩ (.slice ia l.length ic)) w5 from f4H)
  have hz : w.heap.size < V.heap.size := lt_of_heap (show V.heap[w.heap.size]? = some zIf from hVzH)
  have hg2 : w1.heap.size < w2.heap.size := hg2H
  have hsz := q2.size
  have hfr : Fr FN w w5 := (((show Fr FN w V from fwVH).same q2).over h5.2.2.1 (fun k e => by have e : k = q := e; omega)).same f4
  refine post_cell2 rfl rfl _ _ rfl (run_loadVar_row _ _ _ _ _ _ _ (two_put hV4H _ _) Tryz.underlying24 rfl size_iface) ⟨_, rfl, ⟨ia, ic, rfl, (show ∀ w'', _ → _ from hitW) _ ?_⟩, hfr.over (two_at w5 _ _ _) (fun k e => by have e : k = w.heap.size := e; omega)⟩
  refine Fr.same (Fr.same ((Fr.setCell w3 ⟨w1.heap.size, 1, none⟩ (.slice ia l.length ic)).mono fun k _ e => ?_) (f4.mono fun _ _ f => f.elim)) ((two_at w5 w.heap.size (ct nm) (.slice ia l.length ic)).mono fun k _ e => ?_)
  · have e : k = w1.heap.size := e
    show k < w2.heap.size
    omega
  · have e : k = w.heap.size := e
    show k < w2.heap.size
    omega
end Go.Proofs.YtpjahcncknccdaaGreat.Fo.Ic
