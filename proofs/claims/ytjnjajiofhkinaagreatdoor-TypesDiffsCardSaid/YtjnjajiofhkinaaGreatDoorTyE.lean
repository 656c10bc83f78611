/- Texts of items, by the program. -/
import Derived.Test.YtjnjajiofhkinaaGreatDoorTyD2
import Derived.Test.YtjnjajiofhkinaaGreatDoorShelf3
namespace Go.Proofs.YtjnjajiofhkinaaGreatDoor.Ty
open Go.RowKit
set_option linter.unusedSimpArgs false
set_option linter.unusedVariables false


theorem catv (a b c : Bs) (hc : a ++ b = c) (h : c.length ≤ 9223372036854775807) (w : World) : (Op.stringOp .add ⟨a.toArray⟩ ⟨b.toArray⟩).run Tryz.prog w = .ok (.string ⟨c.toArray⟩) w := by
  subst hc
  rw [List.length_append] at h
  rw [run_string_add_sum w _ _ (by simp [ByteArray.size]; omega)]
  exact congrArg (fun x => Result.ok (Value.string x) w) (N.append_str a b)
theorem join_S : ∀ (l : List Bs), Lib.join l [44, 32] = joinS [44, 32] l
  | [] => rfl
  | [a] => by simp [Lib.join_one, joinS]
  | a :: b :: r => by
    have ih := join_S (b :: r)
    rw [Lib.join_cons] at *
    rw [joinS, ← ih]
    simp [Lib.joinTail]
theorem nameS_len (t : Int) : (nameS t).length ≤ 5 := by unfold nameS; (repeat' split) <;> simp
theorem joinS_len (sep : Bs) : ∀ (l : List Bs) (m : Nat), (∀ x ∈ l, x.length ≤ m) → (joinS sep l).length ≤ l.length * (m + sep.length)
  | [], m, _ => by simp [joinS]
  | [a], m, h => by have := h a (by simp); simp only [joinS, List.length_singleton]; omega
  | a :: b :: r, m, h => by
    have h1 := h a (by simp)
    have h2 := joinS_len sep (b :: r) m (fun x hx => h x (by simp [hx]))
    simp only [joinS, List.length_append, List.length_cons] at *
    rw [Nat.add_mul _ 1]
    omega
theorem paramsS_len (l : List Int) : (paramsS l).length ≤ l.length * 7 := by
  have := joinS_len [44, 32] (l.map nameS) 5 (fun x hx => by obtain ⟨t, _, rfl⟩ := List.mem_map.1 hx; exact nameS_len t)
  simpa [paramsS] using this
theorem info_str : (Tryz.prog.info? 9).map (fun i => (i.zero, i.size, i.bytes)) = some (some (.string ⟨#[]⟩), 1, 16) := by kernel_rfl
theorem add0 (b j : Nat) : (⟨b, 0, none⟩ : Addr).add j = ⟨b, j, none⟩ := by unfold Addr.add; split <;> simp_all
set_option maxRecDepth 20000 in
set_option maxHeartbeats 2000000 in
theorem params_any (ao : Option Addr) (cap : Nat) (l : List Int) (w : World) (hp : InL w ao cap l) (h8 : l.length ≤ 8000000000000) (T : Bs) (hT : Hidden (paramsS l = T)) :
    Calls Tryz.prog 59 #[.slice ao l.length cap] w fun e w' => e = .returned (ct T) ∧ Fr (fun _ => False) w w' := by
  obtain ⟨hcap, hmax, _, hcells⟩ := hp
  have m1 : cap ≤ 9223372036854775807 := by unfold maxLen at hmax; omega
  have hcH : Hidden (l = [] ∨ ∃ b off, ao = some ⟨b, off, none⟩ ∧ ∀ (i : Nat) (x : Int), l[i]? = some x → w.cell? ⟨b, off + i, none⟩ = some (ci x)) := hcells
  clear hcells hmax
  go_enter Tryz.func59, Tryz.ntmps59
  go_wp2_with fail
  go_loopg [3, 8] l.length (fun g lv iv wr => ∃ (i : Nat) (v : Value), v = lv ∧ iv = ci (i : Int) ∧ i ≤ l.length ∧ wr.ownsRow w.heap.size 9 1 v i ((l.take i).map fun t => ct (nameS t)) ∧ g = l.length - i ∧ Fr (fun _ => False) w wr)
  case atStart => exact ⟨0, _, rfl, rfl, by omega, own_nil _ _ _ _, rfl, Fr.refl _ _⟩
  case round =>
    obtain ⟨i, v, rfl, rfl, hi, hrow, hgk, hfr⟩ := hrel
    have hgkH : Hidden (gk = l.length - i) := hgk
    have hrowH : Hidden (wr.ownsRow w.heap.size 9 1 v i ((l.take i).map fun t => ct (nameS t))) := hrow
    have hfrH : Hidden (Fr (fun _ => False) w wr) := hfr
    clear hgk hrow
    by_cases hil : i < l.length
    · obtain ⟨p, hpi⟩ : ∃ p, l[i]? = some p := ⟨l[i], List.getElem?_eq_getElem hil⟩
      rcases (show l = [] ∨ _ from hcH) with h0 | ⟨b, off, rfl, hc⟩
      · rw [h0] at hil; simp at hil
      have c1 : wr.cell? ⟨b, off + i, none⟩ = some (ci p) := hfr.cellN (hc i p hpi)
      have kn := fun w => name_any p w
      have hpiH : Hidden (l[i]? = some p) := hpi
      have hb2 : Hidden (i + 1 ≤ maxLen ∧ (i + 1) * 16 ≤ 140737488355328 ∧ w.heap.size ≤ wr.heap.size) := ⟨by unfold maxLen; omega, by omega, hfr.size⟩
      obtain ⟨nm, hnm⟩ : ∃ n, nameS p = n := ⟨_, rfl⟩
      have hnmH : Hidden (nameS p = nm) := hnm
      rw [hnm] at kn
      obtain ⟨aor, capr, hv, g1, g2, _⟩ := own_slice hrowH (by decide)
      have g2' : capr ≤ 9223372036854775807 := by unfold maxLen at g2; omega
      subst hv
      clear hc hpi hnm hfr g2
      go_wp2_with (first
        | (go_at_call 37; refine (kn _).mono ?_; rintro e w1 ⟨rfl, hw1⟩; rw [hw1]; clear hw1)
        | (at_builtin
           refine wpl_append rfl _ _ 36 9 _ 1 16 Tryz.underlying36 info_str rfl (by decide) rfl w.heap.size _ i ((l.take i).map fun t => ct (nameS t)) ⟨wr.heap.size, 0, none⟩ 1 1 [ct nm] rfl (own_keep hrowH (Fr.alloc (fun _ => False) _ _) (fun _ _ f => f)) rfl rfl ?c1 ?c2 hb2.1 hb2.2.1 ?c4 ?_
           case c1 => exact fun j u hu => by rw [add0]; exact (cell_of_row _ _ j _ _ _ (alloc_new wr _)).trans (by simpa using hu)
           case c2 => exact fun u hu => by simp only [List.mem_cons, List.not_mem_nil, or_false] at hu; subst hu; rfl
           case c4 => exact Nat.le_trans hb2.2.2 (Fr.alloc (fun _ => False) wr _).size
           intro v2 w2 hr2 f2 _))
      go_wp2_with fail
      go_roundg (l.length - (i + 1))
      case measure => have : gk = l.length - i := hgkH; omega
      case rel =>
        refine ⟨i + 1, _, rfl, by go_num, by omega, ?_, rfl, ?_⟩
        · rw [List.take_add_one, (show l[i]? = some p from hpiH)]
          rw [← (show nameS p = nm from hnmH)] at hr2
          simpa using hr2
        · exact ((show Fr (fun _ => False) w wr from hfrH).same (Fr.alloc _ _ _)).over f2 (fun k hk => (own_block hrowH k hk).1)
    · obtain rfl : i = l.length := by omega
      rw [Hidden, List.take_length] at hrowH
      obtain ⟨aor, capr, rfl, g1, g2, g3, g4, g5⟩ := own_slice hrowH (by decide)
      clear hrowH
      by_cases hl0 : l.length = 0
      · have kj := Tryz.strings_Join_none aor capr ⟨#[44, 32]⟩ wr
        have hnil : l = [] := List.eq_nil_of_length_eq_zero hl0
        have hTT : Hidden ([] = T) := by rw [← (show paramsS l = T from hT), hnil]; rfl
        clear g1 g4 g5 hT hcH
        rw [hl0] at *
        clear hl0
        go_wp2_with fail
        go_at_call 80
        refine kj.mono ?_
        rintro e w2 ⟨rfl, rfl⟩
        go_wp2_with fail
        go_ret
        exact ⟨ret_ct hTT, hfrH⟩
      · rcases g5 with g5 | ⟨bk, rfl, gB, gl, gc⟩
        · exact absurd g5 hl0
        have ex : ((l.map nameS).map fun x => (⟨x.toArray⟩ : ByteArray)).map (·.data.toList) = l.map nameS := by rw [List.map_map]; simp [Function.comp_def]
        have el : ((l.map nameS).map fun x => (⟨x.toArray⟩ : ByteArray)).length = l.length := by simp
        have hcl : ∀ (j : Nat) x, ((l.map nameS).map fun x => (⟨x.toArray⟩ : ByteArray))[j]? = some x → wr.cell? ⟨bk, 0 + j, none⟩ = some (.string x) := by
          intro j x hx
          rw [Nat.zero_add]
          apply gc
          rw [List.getElem?_map, List.getElem?_map] at hx
          rw [List.getElem?_map]
          cases hj : l[j]? with
          | none => rw [hj] at hx; cases hx
          | some y => rw [hj] at hx; simp only [Option.map_some, Option.some.injEq] at hx; subst hx; rfl
        have ej : Lib.join (((l.map nameS).map fun x => (⟨x.toArray⟩ : ByteArray)).map (·.data.toList)) (⟨#[44, 32]⟩ : ByteArray).data.toList = T := by
          rw [ex, ← (show paramsS l = T from hT)]
          exact join_S _
        have hTl : T.length ≤ 140737488355328 := by rw [← (show paramsS l = T from hT)]; have := paramsS_len l; omega
        have kj := Tryz.strings_Join bk 0 capr ((l.map nameS).map fun x => (⟨x.toArray⟩ : ByteArray)) ⟨#[44, 32]⟩ wr hcl gl (by rw [el]; omega) (by rw [el]; exact g1) (by rw [ej]; exact hTl)
        rw [ej, el] at kj
        clear ej el ex hcl gc hT hTl hcH g4
        go_wp2_with fail
        go_at_call 80
        refine kj.mono ?_
        rintro e w2 ⟨rfl, b2⟩
        go_wp2_with fail
        go_ret
        exact ⟨rfl, (show Fr (fun _ => False) w wr from hfrH).same ⟨b2.os, b2.output, b2.size, fun k hk _ => b2.block k hk⟩⟩
theorem result_any (t : Int) (w : World) : Calls Tryz.prog 60 #[ci t] w fun e w' => e = .returned (ct (resultS t)) ∧ w' = w := by
  have kn := fun w => name_any t w
  obtain ⟨T, hT⟩ : ∃ T, resultS t = T := ⟨_, rfl⟩
  rw [hT]
  have hl := nameS_len t
  unfold resultS at hT
  generalize nameS t = n at kn hT hl
  by_cases hn : n = []
  · subst hn
    rw [if_pos rfl] at hT
    subst hT
    go_enter Tryz.func60, Tryz.ntmps60
    go_wp2_with (go_at_call 37; refine (kn _).mono ?_; rintro e w1 ⟨rfl, rfl⟩)
    go_ret
    exact ⟨rfl, rfl⟩
  · rw [if_neg hn] at hT
    have t1 := catv [58, 32] n T hT (by rw [← hT]; simp; omega)
    have he : List.isEmpty n = false := by cases n with | nil => exact absurd rfl hn | cons a b => rfl
    have hb : (n == []) = false := by simpa using hn
    clear hn hT hl
    go_enter Tryz.func60, Tryz.ntmps60
    go_wp2_with (go_at_call 37; refine (kn _).mono ?_; rintro e w1 ⟨rfl, rfl⟩)
    go_ret
    exact ⟨rfl, rfl⟩
theorem textS_len (b : Int) (hb : U64 b) : (F.textS b).length ≤ 4000 := by
  have hp := F.parts_bounds b ⟨hb.1, hb.2⟩
  have := F.sizeL_len (F.Fl.classS b) (F.partM b).toNat (F.partE b) hp.1 hp.2.1 hp.2.2
  unfold F.textS
  rw [List.length_append]
  split <;> simp <;> omega
theorem showS_len (t b : Int) (hb : U64 b) : (showS t b).length ≤ 4000 := by
  unfold showS
  split
  · exact Nat.le_trans (D.itoa_len _ (wrap_I b)).1 (by omega)
  · split
    · exact textS_len b hb
    · split
      · unfold truthS; split <;> simp
      · simp
set_option maxRecDepth 20000 in
set_option maxHeartbeats 4000000 in
theorem text_w (kind typ bits : Int) (name : Bs) (params : List Int) (ao : Option Addr) (cap : Nat) (hb : U64 bits) (w : World) (ht : F.Tab w) (h : InL w ao cap params) (h8 : params.length ≤ 8000000000000) (hn : name.length ≤ 1000000000000000) (T : Bs) (hT : Hidden (textI ⟨kind, name, typ, bits, params⟩ = T)) :
    Calls Tryz.prog 39 #[.agg #[ci kind, ct name, ci typ, .int .u64 bits, .slice ao params.length cap]] w fun e w' => e = .returned (ct T) ∧ Fr (fun _ => False) w w' := by
  have ko := fun w => valueOf_any ⟨kind, name, typ, bits, params⟩ (.slice ao params.length cap) w
  by_cases hk1 : kind = 1
  · subst hk1
    have kn := fun w => name_any typ w
    have ks := fun (w1 : World) (f : Fr (fun _ => False) w w1) => show_any typ bits hb w1 (tab_fr ht f)
    have hT2 : Hidden ([99, 111, 110, 115, 116, 32] ++ name ++ [58, 32] ++ nameS typ ++ [32, 61, 32] ++ showS typ bits = T) := hT
    have l1 := nameS_len typ
    have l2 := showS_len typ bits hb
    generalize nameS typ = nt at kn hT2 l1
    generalize showS typ bits = st at ks hT2 l2
    clear hT
    obtain ⟨C1, hC1⟩ : ∃ C, [99, 111, 110, 115, 116, 32] ++ name = C := ⟨_, rfl⟩
    obtain ⟨C2, hC2⟩ : ∃ C, C1 ++ [58, 32] = C := ⟨_, rfl⟩
    obtain ⟨C3, hC3⟩ : ∃ C, C2 ++ nt = C := ⟨_, rfl⟩
    obtain ⟨C4, hC4⟩ : ∃ C, C3 ++ [32, 61, 32] = C := ⟨_, rfl⟩
    have hZ := (show _ = T from hT2)
    rw [hC1] at hZ
    rw [hC2] at hZ
    rw [hC3] at hZ
    rw [hC4] at hZ
    have lhC1 := congrArg List.length hC1
    simp only [List.length_append, List.length_cons, List.length_nil] at lhC1
    have lhC2 := congrArg List.length hC2
    simp only [List.length_append, List.length_cons, List.length_nil] at lhC2
    have lhC3 := congrArg List.length hC3
    simp only [List.length_append, List.length_cons, List.length_nil] at lhC3
    have lhC4 := congrArg List.length hC4
    simp only [List.length_append, List.length_cons, List.length_nil] at lhC4
    have lhZ := congrArg List.length hZ
    simp only [List.length_append, List.length_cons, List.length_nil] at lhZ
    have t1 := catv [99, 111, 110, 115, 116, 32] name _ hC1 (by omega)
    have t2 := catv C1 [58, 32] _ hC2 (by omega)
    have t3 := catv C2 nt _ hC3 (by omega)
    have t4 := catv C3 [32, 61, 32] _ hC4 (by omega)
    have t5 := catv C4 st _ hZ (by omega)
    clear lhC1 lhC2 lhC3 lhC4 lhZ hC1 hC2 hC3 hC4 hZ hT2
    obtain ⟨W0, hW0⟩ : ∃ W, W = w.alloc (.cells #[ci 1, ct name, ci typ, .int .u64 bits, .slice ao params.length cap] 28) := ⟨_, rfl⟩
    have f0 : Fr (fun _ => False) w W0 := by rw [hW0]; exact Fr.alloc _ _ _
    have hb1 : W0.heap[w.heap.size]? = some (.cells #[ci 1, ct name, ci typ, .int .u64 bits, .slice ao params.length cap] 28 (0, 0)) := by rw [hW0]; exact alloc_new _ _
    obtain ⟨c0, c1, c2, c3, c4⟩ := box5 hb1
    clear hb1
    have hW0H : Hidden (W0 = _) := hW0
    clear hW0
    go_enter Tryz.func39, Tryz.ntmps39
    go_wp2_with fail
    rw [← (show W0 = _ from hW0H)]
    refine wp_region_grow (by kernel_rfl) (by kernel_rfl) ?_
    (repeat (first | (refine grow_op (v := ?_) ?_ ?_ ?_; rotate_left; (focus (first | exact wanted_none rfl | (go_simp; done))); (focus (intro w' hw'; have c0 := hw'.cellN c0; have c1 := hw'.cellN c1; have c2 := hw'.cellN c2; have c3 := hw'.cellN c3; have c4 := hw'.cellN c4; (go_simp; first | with_reducible rfl | (go_at_call 37; refine calls_grow hw' ?_; first | (have q := (kn w').mono (fun e w'' h => (⟨h.1, h.2 ▸ Fr.refl _ _⟩ : _ ∧ Fr (fun _ => False) w' w'')); with_reducible exact q)) | (go_at_call 58; refine calls_grow hw' ?_; first | (have q := ko w'; with_reducible exact q)) | (go_at_call 57; refine calls_grow hw' ?_; first | (have q := ks w' (f0.same hw'); with_reducible exact q))))); (intro a' ha; simp only [Act.put, List.setIfInBounds_toArray, List.set_cons_zero, List.set_cons_succ] at ha; subst ha)) | (refine grow_no ?_ ?_; (focus (go_simp; done)); (intro a' ha; simp only [Act.put, List.setIfInBounds_toArray, List.set_cons_zero, List.set_cons_succ] at ha; subst ha)))); refine grow_nil ?_; intro w1 k1
    go_wp2_with fail
    go_ret
    exact ⟨rfl, f0.same k1⟩
  by_cases hk3 : kind = 3
  · subst hk3
    have kr := fun w => result_any typ w
    have kp := fun (w1 : World) (f : Fr (fun _ => False) w w1) => params_any ao cap params w1 (h.keep f) h8 _ rfl
    have hT2 : Hidden ([102, 110, 32] ++ name ++ [40] ++ paramsS params ++ [41] ++ resultS typ = T) := hT
    have l1 : (resultS typ).length ≤ 7 := by unfold resultS; have := nameS_len typ; split <;> simp; omega
    have l2 := paramsS_len params
    generalize resultS typ = rt at kr hT2 l1
    generalize paramsS params = pt at kp hT2 l2
    clear hT hk1
    obtain ⟨C1, hC1⟩ : ∃ C, [102, 110, 32] ++ name = C := ⟨_, rfl⟩
    obtain ⟨C2, hC2⟩ : ∃ C, C1 ++ [40] = C := ⟨_, rfl⟩
    obtain ⟨C3, hC3⟩ : ∃ C, C2 ++ pt = C := ⟨_, rfl⟩
    obtain ⟨C4, hC4⟩ : ∃ C, C3 ++ [41] = C := ⟨_, rfl⟩
    have hZ := (show _ = T from hT2)
    rw [hC1] at hZ
    rw [hC2] at hZ
    rw [hC3] at hZ
    rw [hC4] at hZ
    have lhC1 := congrArg List.length hC1
    simp only [List.length_append, List.length_cons, List.length_nil] at lhC1
    have lhC2 := congrArg List.length hC2
    simp only [List.length_append, List.length_cons, List.length_nil] at lhC2
    have lhC3 := congrArg List.length hC3
    simp only [List.length_append, List.length_cons, List.length_nil] at lhC3
    have lhC4 := congrArg List.length hC4
    simp only [List.length_append, List.length_cons, List.length_nil] at lhC4
    have lhZ := congrArg List.length hZ
    simp only [List.length_append, List.length_cons, List.length_nil] at lhZ
    have t1 := catv [102, 110, 32] name _ hC1 (by omega)
    have t2 := catv C1 [40] _ hC2 (by omega)
    have t3 := catv C2 pt _ hC3 (by omega)
    have t4 := catv C3 [41] _ hC4 (by omega)
    have t5 := catv C4 rt _ hZ (by omega)
    clear lhC1 lhC2 lhC3 lhC4 lhZ hC1 hC2 hC3 hC4 hZ hT2
    obtain ⟨W0, hW0⟩ : ∃ W, W = w.alloc (.cells #[ci 3, ct name, ci typ, .int .u64 bits, .slice ao params.length cap] 28) := ⟨_, rfl⟩
    have f0 : Fr (fun _ => False) w W0 := by rw [hW0]; exact Fr.alloc _ _ _
    have hb1 : W0.heap[w.heap.size]? = some (.cells #[ci 3, ct name, ci typ, .int .u64 bits, .slice ao params.length cap] 28 (0, 0)) := by rw [hW0]; exact alloc_new _ _
    obtain ⟨c0, c1, c2, c3, c4⟩ := box5 hb1
    clear hb1
    have hW0H : Hidden (W0 = _) := hW0
    clear hW0
    go_enter Tryz.func39, Tryz.ntmps39
    go_wp2_with fail
    rw [← (show W0 = _ from hW0H)]
    refine wp_region_grow (by kernel_rfl) (by kernel_rfl) ?_
    (repeat (first | (refine grow_op (v := ?_) ?_ ?_ ?_; rotate_left; (focus (first | exact wanted_none rfl | (go_simp; done))); (focus (intro w' hw'; have c0 := hw'.cellN c0; have c1 := hw'.cellN c1; have c2 := hw'.cellN c2; have c3 := hw'.cellN c3; have c4 := hw'.cellN c4; (go_simp; first | with_reducible rfl | (go_at_call 60; refine calls_grow hw' ?_; first | (have q := (kr w').mono (fun e w'' h => (⟨h.1, h.2 ▸ Fr.refl _ _⟩ : _ ∧ Fr (fun _ => False) w' w'')); with_reducible exact q)) | (go_at_call 59; refine calls_grow hw' ?_; first | (have q := kp w' (f0.same hw'); with_reducible exact q))))); (intro a' ha; simp only [Act.put, List.setIfInBounds_toArray, List.set_cons_zero, List.set_cons_succ] at ha; subst ha)) | (refine grow_no ?_ ?_; (focus (go_simp; done)); (intro a' ha; simp only [Act.put, List.setIfInBounds_toArray, List.set_cons_zero, List.set_cons_succ] at ha; subst ha)))); refine grow_nil ?_; intro w1 k1
    go_wp2_with fail
    go_ret
    exact ⟨rfl, f0.same k1⟩
  · have hTT : Hidden ([] = T) := by rw [← (show _ = T from hT)]; unfold textI; simp [Hidden, hk1, hk3]
    have b1 : (kind == 1) = false := by simp [hk1]
    have b3 : (kind == 3) = false := by simp [hk3]
    clear hT hk1 hk3 ko
    go_enter Tryz.func39, Tryz.ntmps39
    go_wp2_with fail
    go_ret
    exact ⟨ret_ct hTT, Fr.alloc _ _ _⟩
theorem text_any (i : It) (v : Value) (w : World) (ht : F.Tab w) (hi : ItI w i v) (ho : OkI i) (h8 : i.params.length ≤ 8000000000000) (hn : i.name.length ≤ 1000000000000000) : Calls Tryz.prog 39 #[v] w fun e w' => e = .returned (ct (textI i)) ∧ Fr (fun _ => False) w w' := by
  obtain ⟨kind, name, typ, bits, la⟩ := i
  obtain ⟨ao, ca, rfl, ha⟩ := hi
  exact text_w kind typ bits name la ao ca ho.bits w ht ha h8 hn _ rfl
end Go.Proofs.YtjnjajiofhkinaaGreatDoor.Ty
