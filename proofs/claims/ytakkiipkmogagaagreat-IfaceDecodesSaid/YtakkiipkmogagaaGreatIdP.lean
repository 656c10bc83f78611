/- IfaceDecodes. -/
import Derived.Test.YtakkiipkmogagaaGreatIdO
import Derived.Test.YtakkiipkmogagaaGreatIdAll
import Derived.Test.YtakkiipkmogagaaGreatIdIn
import Derived.Test.YtakkiipkmogagaaGreatIcBll
import Derived.Laws.AppendOwnNone
namespace Go.Proofs.YtakkiipkmogagaaGreat.Ty
open Go.RowKit Go.WideShapes Go.ChangeShapes Go.ChangeAt Go.Deep
set_option linter.unusedSimpArgs false
set_option linter.unusedVariables false
set_option maxRecDepth 20000
theorem slice_old {W : World} {base : Nat} {t e : TypeId} {v : Value} (ht : Tryz.prog.underlying t = some (.slice e)) (h : Value.okWide Tryz.prog W .any base t v) : ∀ k, v.ownBlock = some k → k < W.heap.size := by
  intro k hk
  cases v with
  | slice a n c =>
    cases a with
    | none => cases hk
    | some a =>
      have hk2 : a.block = k := by simpa [Value.ownBlock] using hk
      simp only [Value.okWide, ht, Cell.okWide, Cell.ok] at h
      obtain ⟨_, _, _, _, row, cells, hs, _⟩ := h
      unfold World.shape? at hs
      rw [← hk2]
      cases hh : W.heap[a.block]? with
      | none => rw [hh] at hs; simp at hs
      | some o => exact (Array.getElem?_eq_some_iff.1 hh).1
  | _ => cases hk
/-- Bytes that come in. -/
def BytZ (W : World) (v : Value) (l : List UInt8) : Prop := Wi.Sl W v (Wi.bc l) ∧ l.length ≤ 140737488351232 ∧ ∀ k, v.ownBlock = some k → k < W.heap.size
variable {H : Type} {enc : TypeId × Value → H} {W : World}
theorem bytz_arg {fuel base : Nat} {v : Value} {x : DataW H × List MemPlace} (hx : v.cells.toList = [v]) (hok : Value.okWide Tryz.prog W .any base 22 v) (h : DataW.trod enc Tryz.prog W 0 (fun _ => true) true fuel 22 v.cells.toList = some x) (hw : ∀ n ∈ x.1.weights Tryz.prog 22, n ≤ reachBytes) : ∃ l : List UInt8, BytZ W v l := by
  rw [hx] at h
  obtain ⟨l, hl⟩ := bytes_arg h
  exact ⟨l, hl, bytes_size h hl hw, slice_old Tryz.underlying22 hok⟩
end Go.Proofs.YtakkiipkmogagaaGreat.Ty
namespace Go.Proofs.YtakkiipkmogagaaGreat.Fo.Ic
open Go.RowKit Te
set_option linter.unusedSimpArgs false
set_option linter.unusedVariables false
set_option maxRecDepth 20000

theorem decL_rdd : ∀ (n : Nat) (s : Option (List UInt8)), ∀ i ∈ (decL n s).1, Rdd i
  | 0, s => by simp [decL]
  | n + 1, s => by
    intro i hi
    have hi : i ∈ (decI s).1 :: (decL n (decI s).2).1 := hi
    rcases List.mem_cons.1 hi with rfl | hi
    · exact decI_rdd s
    · exact decL_rdd n _ i hi
theorem docS_ok (b : List UInt8) : Ty.OkN (docS b).1.name ∧ ∀ i ∈ (docS b).1.items, Ty.OkI i := by
  unfold docS
  split
  · exact ⟨by simp [Ty.OkN], by simp⟩
  · split
    · refine ⟨?_, fun i hi => (decL_rdd _ _ i hi).ok⟩
      have := rw_len 32 (some b)
      show (rwS 32 (some b)).1.length ≤ _
      omega
    · exact ⟨by simp [Ty.OkN], by simp⟩
/-- The program's Decode answers what the document's does. -/
theorem prog_doc (b : List UInt8) (v : Value) (w : World) (hlen : b.length ≤ 140737488355328) (hs : Wi.Sl w v (Wi.bc b)) :
    Calls Tryz.prog 4 #[v] w fun e w' => ∃ fo fc, e = .returned (.tuple #[.agg #[ct (docS b).1.name, .slice fo (docS b).1.items.length fc], ci (docS b).2]) ∧ Ty.ItL w' fo fc (docS b).1.items ∧ Fr FN w w' := by
  rcases docS_sound b with ⟨h1, h2, h3⟩ | ⟨h1, h2⟩
  · obtain ⟨o1, o2⟩ := docS_ok b
    rw [h1]
    generalize (docS b).1 = f at h2 h3 o1 o2 ⊢
    subst h3
    refine (decode_in f v w h2 o1 o2 hs).mono ?_
    rintro e w' ⟨fv, rfl, ⟨fo, fc, rfl, hi⟩, hf⟩
    exact ⟨fo, fc, rfl, hi, hf⟩
  · refine (decode_st b v w hlen hs).mono ?_
    rintro e w' ⟨f, fo, fc, k, rfl, hi, hd, hf⟩
    rcases hd with ⟨k0, r0, e0, n0, i0⟩ | ⟨rfl, rfl⟩
    · exfalso
      obtain ⟨_, _, r3⟩ := rightF_ok r0
      have hc := docS_comp f r0 (fun i hi => ⟨(i0 i hi).bits, rightI_par (r3 i hi)⟩)
      rw [e0] at hc
      rw [hc] at h1
      simp at h1
    · rw [h1, h2]
      exact ⟨fo, fc, rfl, hi, hf⟩
theorem wpl_app {w : World} {ops : Array Oper} {rest : List Oper} {o : Oper} {a : Act} {Q : Exit → Act → World → Prop} (hgd : o.guard = none) (s x : Operand) (ty e : TypeId) (z : Value) (size bytes : Nat)
    (hty : Tryz.prog.underlying ty = some (.slice e)) (hinfo : (Tryz.prog.info? e).map (fun i => (i.zero, i.size, i.bytes)) = some (some z, size, bytes)) (hzs : z.cells.size = size) (hsz : 0 < size)
    (ho : o.op = .call { callee := .builtin .append, args := #[s, x], argTypes := #[ty, ty] }) (B : Nat) (v : Value) (n : Nat) (cells : List Value) (lo : Option Addr) (k c : Nat) (news : List Value)
    (hs : a.eval s = v) (hr : w.ownsRow B e size v n cells) (hx : a.eval x = .slice lo k c) (hl : news.length = k * size) (hnil : lo = none → k = 0 ∧ c = 0) (hc : ∀ ad, lo = some ad → ∀ (j : Nat) (u : Value), news[j]? = some u → w.cell? (ad.add j) = some u) (h1 : ∀ u ∈ news, u.oneCell' = true)
    (hm : n + k ≤ maxLen) (hb : (n + k) * bytes ≤ 140737488355328) (hB : B ≤ w.heap.size)
    (h : ∀ v' w', w'.ownsRow B e size v' (n + k) (cells ++ news) → Fr (fun b => v.ownBlock = some b) w w' → (v'.ownBlock = v.ownBlock ∨ v'.ownBlock = some w.heap.size) → wpList Tryz.prog ops Q rest (a.put o.dst v') w') : wpList Tryz.prog ops Q (o :: rest) a w := by
  cases lo with
  | some ad => exact wpl_append hgd s x ty e z size bytes hty hinfo hzs hsz ho B v n cells ad k c news hs hr hx hl (hc ad rfl) h1 hm hb hB h
  | none =>
    obtain ⟨rfl, rfl⟩ := hnil rfl
    have hn0 : news = [] := List.eq_nil_of_length_eq_zero (by rw [hl, Nat.zero_mul])
    subst hn0
    refine wpList_plain hgd fun K hK => ?_
    cases hi : Tryz.prog.info? e with
    | none => rw [hi] at hinfo; cases hinfo
    | some i =>
      have hrun := run_append_owned_none (P := Tryz.prog) (w := w) B ty o.type e i size hty hi v n cells hr
      unfold Oper.wp
      simp only [execOp, ho, resolve, invoke, builtin, Sem.run_bind, Sem.run_pure, Result.andThen_ok, List.map_toArray, List.map_cons, List.map_nil, hs, hx, hrun]
      exact hK _ _ (h v w (by simpa using hr) (Fr.refl _ _) (Or.inl rfl))
theorem own_new {w : World} {B g : Nat} {e : TypeId} (size : Nat) (hB : B ≤ g) (hg : w.heap[g]? = some (.cells #[] e (0, 0))) : w.ownsRow B e size (.slice (some ⟨g, 0, none⟩) 0 0) 0 [] :=
  ⟨by simp, Or.inr ⟨g, 0, #[], rfl, hB, hg, Nat.le_refl _, by decide, by simp, by simp⟩⟩
theorem sl_cells {w : World} {bo : Option Addr} {bk : Nat} {l : List UInt8} (h : Wi.Sl w (.slice bo l.length bk) (Wi.bc l)) : (bo = none → l.length = 0 ∧ bk = 0) ∧ ∀ ad, bo = some ad → ∀ (j : Nat) (u : Value), (Wi.bc l)[j]? = some u → w.cell? (ad.add j) = some u := by
  obtain ⟨ao, cap, e, h1, h2, h3, h4⟩ := h
  simp only [Value.slice.injEq] at e
  obtain ⟨rfl, _, rfl⟩ := e
  rw [Wi.bc_length] at h1
  refine ⟨fun e => ⟨by have := h3 e; omega, h3 e⟩, fun ad e j u hu => ?_⟩
  rcases h4 with h4 | ⟨b, off, e2, h4⟩
  · rw [h4] at hu; simp at hu
  · rw [e] at e2
    obtain rfl := Option.some.inj e2
    rw [Addr.add_lit]
    exact h4 j u hu
theorem bc_one (l : List UInt8) : ∀ u ∈ Wi.bc l, u.oneCell' = true := by
  intro u hu
  obtain ⟨c, _, rfl⟩ := List.mem_map.1 hu
  rfl
theorem sl_own {w : World} {B : Nat} {v : Value} {l : List UInt8} (h : w.ownsRow B 5 1 v l.length (Wi.bc l)) : Wi.Sl w v (Wi.bc l) := by
  obtain ⟨ao, cap, rfl, h1, h2, h3, _, h4⟩ := own_slice h (by decide)
  refine ⟨ao, cap, by rw [Wi.bc_length], by rw [Wi.bc_length]; exact h1, h2, h3, ?_⟩
  rcases h4 with h4 | ⟨g, rfl, _, _, h4⟩
  · left
    rw [List.eq_nil_of_length_eq_zero h4]; rfl
  · right
    exact ⟨g, 0, rfl, fun j u hu => by rw [Nat.zero_add]; exact h4 j u hu⟩
end Go.Proofs.YtakkiipkmogagaaGreat.Fo.Ic
namespace Go.Proofs.YtakkiipkmogagaaGreat.ifaceDecodes
open Go.RowKit Te Fo Fo.Ic
set_option linter.unusedSimpArgs false
set_option linter.unusedVariables false
set_option maxRecDepth 20000
set_option maxHeartbeats 4000000 in
theorem walk (v : Value) (b : List UInt8) (w : World) (hv : Ty.BytZ w v b) : Calls Tryz.prog 3 #[v] w fun e w' => e = .returned (.bool true) ∧ Fr (fun _ => False) w w' := by
  obtain ⟨hs, hb, hk⟩ := hv
  obtain ⟨bo, bk, rfl, _⟩ := id hs
  rw [Wi.bc_length] at hs hk ⊢
  obtain ⟨n, hn⟩ : ∃ n, b.length = n := ⟨_, rfl⟩
  have hcs := sl_cells hs
  have kdoc : ∀ u, Fr FN w u → Calls Tryz.prog 5 #[.slice bo b.length bk] u _ := fun u f => rdecode_any bo bk b u hb (hs.keep (to_wi f) (fun _ _ f => f)) (fun k h => Nat.lt_of_lt_of_le (hk k h) f.size)
  rw [hn] at hcs kdoc hb ⊢
  have hnH : Hidden (b.length = n) := hn
  have hcH : Hidden _ := hcs
  clear hn hcs hs hk
  go_enter Tryz.func3, Tryz.ntmps3
  go_upto_region 1 with fail
  go_wp2_with (at_builtin
               refine wpl_app rfl _ _ 22 5 (.int .u8 0) 1 1 Tryz.underlying22 info_u8 rfl (by decide) rfl w.heap.size (.slice (some ⟨w.heap.size, 0, none⟩) 0 0) 0 [] bo n bk (Wi.bc b) rfl ?c0 rfl ?c1 ?c2 ?c3 ?c4 ?c5 ?c6 ?c7 ?_
               case c0 => exact own_new 1 (Nat.le_refl _) (alloc_new w _)
               case c1 => rw [Wi.bc_length, show b.length = n from hnH, Nat.mul_one]
               case c2 => exact hcH.1
               case c3 => exact fun ad e j u hu => (Fr.alloc (fun _ => False) w _).cellN (hcH.2 ad e j u hu)
               case c4 => exact bc_one b
               case c5 => simp [maxLen]; omega
               case c6 => omega
               case c7 => simp
               intro v1 w1 r1 f1 o1
               have fw1 : Fr FN w w1 := (Fr.alloc FN w _).over f1 (fun k e => by
                 have : w.heap.size = k := by simpa [Value.ownBlock] using e
                 omega)
               have hb1 : Wi.Sl w1 v1 (Wi.bc b) := sl_own (B := w.heap.size) (by rw [show b.length = n from hnH]; simpa using r1)
               have kp := prog_doc b v1 w1 (by rw [show b.length = n from hnH]; omega) hb1
               have fw1H : Hidden (Fr FN w w1) := fw1
               clear r1 f1 o1 hb1 fw1)
  obtain ⟨D, hD⟩ : ∃ D, docS b = D := ⟨_, rfl⟩
  rw [hD] at kp kdoc
  clear hD
  obtain ⟨⟨nm, its⟩, E⟩ := D
  simp only [] at kp kdoc
  go_at_call 4
  refine kp.mono ?_
  rintro e w2 ⟨fo, fc, rfl, hi2, f2⟩
  have fw2 := (show Fr FN w w1 from fw1H).same f2
  obtain ⟨L, hL⟩ : ∃ L, its.length = L := ⟨_, rfl⟩
  have hLH : Hidden (its.length = L) := hL
  rw [hL] at kdoc ⊢
  have hi2H : Hidden (Ty.ItL w2 fo fc its) := hi2
  have fw2H : Hidden (Fr FN w w2) := fw2
  have kd2 := kdoc (w2.alloc (.cells #[ct nm, .slice fo L fc] 25 (0, 0))) (fw2.same (Fr.alloc _ _ _))
  clear kp kdoc f2 hL hi2 fw2
  go_wp2_with fail
  go_at_call 5
  refine kd2.mono ?_
  rintro e w3 ⟨go, gc, rfl, hi3, f3⟩
  have X2 := f3.heap (alloc_new w2 (.cells #[ct nm, .slice fo L fc] 25 (0, 0))) (fun f => f)
  have fw3 : Fr FN w w3 := ((show Fr FN w w2 from fw2H).same (Fr.alloc _ _ _)).same f3
  have fi3 := (show Ty.ItL w2 fo fc its from hi2H).keep ((Fr.alloc _ _ _).same f3)
  obtain ⟨V, hV⟩ : ∃ V, V = w3.alloc (.cells #[ct nm, .slice go L gc] 25 (0, 0)) := ⟨_, rfl⟩
  have fV : Fr FN w3 V := by rw [hV]; exact Fr.alloc _ _ _
  obtain ⟨x0, x1⟩ := Ty.box2 (fV.heap X2 (fun f => f))
  obtain ⟨y0, y1⟩ := Ty.box2 (show V.heap[w3.heap.size]? = some (.cells #[ct nm, .slice go L gc] 25 (0, 0)) by rw [hV]; exact alloc_new _ _)
  have kS := rsame_eq ⟨nm, its⟩ (.agg #[ct nm, .slice fo L fc]) (.agg #[ct nm, .slice go L gc]) V ⟨fo, fc, by rw [← (show its.length = L from hLH)], fi3.keep fV⟩ ⟨go, gc, by rw [← (show its.length = L from hLH)], hi3.keep fV⟩
  have fwV : Hidden (Fr FN w V) := fw3.same fV
  have hVH : Hidden (V = _) := hV
  clear kd2 f3 X2 fw3 fi3 hi3 hV fV
  go_upto_region 3 with fail
  rw [← (show V = _ from hVH)]
  generalize w2.heap.size = G2 at x0 x1 ⊢
  generalize w3.heap.size = G3 at y0 y1 ⊢
  clear hVH
  go_wp2_with fail
  go_at_call 6
  refine kS.mono ?_
  rintro e w4 ⟨rfl, f4⟩
  have kl := live_any w4
  clear kS
  go_wp2_with fail
  go_at_call 7
  refine kl.mono ?_
  rintro e w5 ⟨rfl, f5⟩
  go_wp2_with fail
  go_ret
  exact ⟨rfl, ((show Fr FN w V from fwV).same f4).same f5⟩
end Go.Proofs.YtakkiipkmogagaaGreat.ifaceDecodes
