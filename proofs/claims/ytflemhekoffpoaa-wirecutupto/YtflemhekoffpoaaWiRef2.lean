/- The document's bytes of texts and lists. -/
import Derived.Test.YtflemhekoffpoaaWiRef
namespace Go.Proofs.Ytflemhekoffpoaa
open Go.RowKit
set_option linter.unusedSimpArgs false
set_option linter.unusedVariables false

theorem rint_is (x : Int) (w : World) :
    Calls Try.prog 34 #[.int .i64 x] w fun e w' => ∃ ao cap, e = .returned (.slice ao 4 cap) ∧ Made w w' (.slice ao 4 cap) (i31 x) := by
  refine (rint_any x w).mono ?_
  rintro e w' ⟨v, rfl, h⟩
  obtain ⟨ao, cap, e1, _⟩ := h.1.shape
  rw [i31_length] at e1
  subst e1
  exact ⟨_, _, rfl, h⟩

set_option maxHeartbeats 400000 in
theorem rraw_any (v : Value) (l : List UInt8) (w : World) (hb : l.length ≤ 140737488351232) (hs : Sl w v (bc l)) :
    Calls Try.prog 37 #[v] w fun e w' => ∃ v', e = .returned v' ∧ Made w w' v' (rawS l) := by
  have ki := rint_is (l.length : Int) w
  have hsH : Hidden (Sl w v (bc l)) := hs
  obtain ⟨ao0, cap0, rfl, a1, a2, a3, a4⟩ := hs
  rw [bc_length] at *
  clear a3 a4
  go_enter Try.func37, Try.ntmps37
  go_wp2_with (first
    | (go_at_call 34; refine ki.mono ?_; rintro e w1 ⟨ao, cap, rfl, hmd⟩)
    | (at_builtin; refine wpList_append_ow rfl _ _ rfl w.heap.size _ _ (i31 (l.length : Int)) l rfl hmd.1 rfl ?q2 hmd.2.size ?q4 ?_))
  case q2 => exact (show Sl w _ (bc l) from hsH).keep hmd.2 (fun _ _ f => f)
  case q4 => rw [i31_length]; omega
  intro v' w2 ho hf hw
  have hfin : Hidden (Made w w2 v' (rawS l)) := ⟨ho, hmd.2.over hf (fun k hk => (hmd.1.own k hk).1)⟩
  clear ho hf hw
  go_wp2
  go_ret
  exact ⟨_, rfl, hfin⟩

set_option maxHeartbeats 400000 in
theorem rtext_any (l : List UInt8) (w : World) (hb : l.length ≤ 140737488351232) :
    Calls Try.prog 36 #[.string ⟨l.toArray⟩] w fun e w' => ∃ v', e = .returned v' ∧ Made w w' v' (rawS l) := by
  have ki := rint_is (l.length : Int) w
  have hcv := fun w => run_conv w l
  have hlen : ((⟨l.toArray⟩ : ByteArray).size : Int) = (l.length : Int) := by simp [ByteArray.size]
  go_enter Try.func36, Try.ntmps36
  go_wp2_with (first
    | (go_at_call 34; refine ki.mono ?_; rintro e w1 ⟨ao, cap, rfl, hmd⟩)
    | (at_builtin; refine wpList_append_ow rfl _ _ rfl w.heap.size _ _ (i31 (l.length : Int)) l rfl ?q1 rfl ?q2 ?q3 ?q4 ?_))
  case q1 => exact hmd.1.keep (bconv_fr (fun _ => False) w1 l) (fun _ _ f => f)
  case q2 => exact bconv_sl w1 l (by omega)
  case q3 => rw [bconv_size]; have := hmd.2.size; omega
  case q4 => rw [i31_length]; omega
  intro v' w2 ho hf hw
  have hfin : Hidden (Made w w2 v' (rawS l)) := ⟨ho, (hmd.2.same (bconv_fr _ w1 l)).over hf (fun k hk => (hmd.1.own k hk).1)⟩
  clear ho hf hw
  go_wp2
  go_ret
  exact ⟨_, rfl, hfin⟩

/-- Behind one more of a list. -/
theorem made_step {α : Type} {f : α → List UInt8} {l : List α} {j : Nat} {x : α} {w wr w1 w2 : World} {v v' vx : Value} {hd : List UInt8} (hx : l[j]? = some x)
    (hm : Made w wr v (hd ++ ((l.take j).map f).flatten)) (h1 : Made wr w1 vx (f x)) (ho : Ow w2 w.heap.size v' (bc (hd ++ ((l.take j).map f).flatten ++ f x))) (hf : Fr (fun k => v.ownBlock = some k) w1 w2) :
    Made w w2 v' (hd ++ ((l.take (j + 1)).map f).flatten) := by
  refine ⟨?_, (hm.2.same h1.2).over hf (fun k hk => (hm.1.own k hk).1)⟩
  rw [take_next hx, List.map_append, List.flatten_append, ← List.append_assoc]
  simpa using ho

set_option maxHeartbeats 800000 in
theorem rints_any (v : Value) (l : List Int) (len : Nat) (hlen : Hidden (l.length = len)) (w : World) (hb : Hidden ((intsS l).length ≤ 140737488355328)) (hll : len ≤ 9223372036854775807) (hs : Sl w v (l.map (fun x => Value.int .i64 x))) :
    Calls Try.prog 38 #[v] w fun e w' => ∃ v', e = .returned v' ∧ Made w w' v' (intsS l) := by
  have ki := rint_is (len : Int) w
  have hsH : Hidden (Sl w v (l.map (fun x => Value.int .i64 x))) := hs
  obtain ⟨ao0, cap0, rfl, h1, h2, h3, h4⟩ := hs
  have hml : (l.map (fun x => Value.int .i64 x)).length = len := by rw [List.length_map]; exact hlen
  rw [hml] at *
  clear hml h1 h2 h3 h4
  go_enter Try.func38, Try.ntmps38
  go_wp2_with (go_at_call 34; refine ki.mono ?_; rintro e w1 ⟨ao1, cap1, rfl, hmd⟩)
  go_loopg [3, 4] len (fun k ov iv wr => ∃ j : Nat, iv = .int .i64 (j : Int) ∧ j ≤ len ∧ k = len - j ∧ Made w wr ov (i31 (len : Int) ++ ((l.take j).map i31).flatten))
  case atStart => exact ⟨0, rfl, by omega, rfl, by simpa using hmd⟩
  case round =>
    obtain ⟨j, rfl, hj, hk, hmj⟩ := hrel
    have hkH : Hidden (gk = len - j) := hk
    have hlen' : l.length = len := hlen
    obtain ⟨ao, cap, e1, hlc, hcm⟩ := hmj.1.shape
    subst e1
    obtain ⟨L, hL⟩ : ∃ L, (i31 (len : Int) ++ ((l.take j).map i31).flatten).length = L := ⟨_, rfl⟩
    rw [hL] at hmj hlc ⊢
    clear hk ki hmd
    by_cases hjl : j < len
    · obtain ⟨x, hx⟩ : ∃ x, l[j]? = some x := ⟨l[j], List.getElem?_eq_getElem (by omega)⟩
      have hs2 := (show Sl w _ (l.map (fun x => Value.int .i64 x)) from hsH).keep hmj.2 (fun _ _ f => f)
      obtain ⟨ao', cap', e1, h1, h2, h3, h4⟩ := hs2
      simp only [Value.slice.injEq] at e1
      obtain ⟨rfl, hbl, rfl⟩ := e1
      clear hbl
      rcases h4 with h4 | ⟨b, off, rfl, hc⟩
      · have : l = [] := by simpa using h4
        subst this
        simp at hx
      · have hcj : wr.cell? ⟨b, off + j, none⟩ = some (.int .i64 x) := hc j _ (by rw [List.getElem?_map, hx]; rfl)
        have kx := rint_is x wr
        have hsize : (i31 (len : Int) ++ ((l.take j).map i31).flatten).length + (i31 x).length ≤ 140737488355328 := by
          have h0 : (intsS l).length ≤ 140737488355328 := hb
          have e : l = l.take j ++ (x :: l.drop (j + 1)) := by rw [← drop_now hx, List.take_append_drop]
          have e2 : (intsS l).length = (i31 (len : Int)).length + (((l.take j).map i31).flatten.length + ((i31 x).length + ((l.drop (j + 1)).map i31).flatten.length)) := by
            rw [intsS, hlen', List.length_append]
            conv => lhs; rw [e]
            simp
          rw [List.length_append]
          omega
        have hH : Hidden (Made w wr (.slice ao L cap) (i31 (len : Int) ++ ((l.take j).map i31).flatten) ∧ l[j]? = some x ∧ (i31 (len : Int) ++ ((l.take j).map i31).flatten).length + (i31 x).length ≤ 140737488355328) := ⟨hmj, hx, hsize⟩
        clear hx h1 h2 h3 hc hlen' hmj hsize hL hlc
        go_wp2_with (first
          | (go_at_call 34; refine kx.mono ?_; rintro e w2 ⟨aox, capx, rfl, hmx⟩)
          | (at_builtin; refine wpList_append_ow rfl _ _ rfl w.heap.size _ _ (i31 (len : Int) ++ ((l.take j).map i31).flatten) (i31 x) rfl ?q1 rfl ?q2 ?q3 ?q4 ?_))
        case q1 => exact hH.1.1.keep hmx.2 (fun _ _ f => f)
        case q2 => exact hmx.1.1
        case q3 => have := hH.1.2.size; have := hmx.2.size; omega
        case q4 => exact hH.2.2
        intro v' w3 ho hf hw
        have hfin : Hidden (Made w w3 v' (i31 (len : Int) ++ ((l.take (j + 1)).map i31).flatten)) := made_step hH.2.1 hH.1 hmx (by simpa using ho) hf
        clear ho hf hw hmx
        go_wp2
        go_roundg (len - (j + 1))
        case measure =>
          have : gk = len - j := hkH
          omega
        case rel => exact ⟨j + 1, by go_num, by omega, rfl, hfin⟩
    · obtain rfl : j = len := by omega
      have hfin : Hidden (Made w wr (.slice ao L cap) (intsS l)) := by
        show Made w wr _ (intsS l)
        rw [← hlen', List.take_length] at hmj
        rw [intsS]
        exact hmj
      clear hmj hlen' hsH hL hlc
      go_wp2
      go_ret
      exact ⟨_, rfl, hfin⟩

set_option maxHeartbeats 800000 in
theorem rtexts_any (v : Value) (l : List (List UInt8)) (len : Nat) (hlen : Hidden (l.length = len)) (w : World) (hb : Hidden ((textsS l).length ≤ 140737488355328)) (hsh : Hidden (∀ x ∈ l, x.length ≤ 140737488351232)) (hll : len ≤ 9223372036854775807) (hs : Sl w v (l.map sv)) :
    Calls Try.prog 39 #[v] w fun e w' => ∃ v', e = .returned v' ∧ Made w w' v' (textsS l) := by
  have ki := rint_is (len : Int) w
  have hsH : Hidden (Sl w v (l.map sv)) := hs
  obtain ⟨ao0, cap0, rfl, h1, h2, h3, h4⟩ := hs
  have hml : (l.map sv).length = len := by rw [List.length_map]; exact hlen
  rw [hml] at *
  clear hml h1 h2 h3 h4
  go_enter Try.func39, Try.ntmps39
  go_wp2_with (go_at_call 34; refine ki.mono ?_; rintro e w1 ⟨ao1, cap1, rfl, hmd⟩)
  go_loopg [3, 4] len (fun k ov iv wr => ∃ j : Nat, iv = .int .i64 (j : Int) ∧ j ≤ len ∧ k = len - j ∧ Made w wr ov (i31 (len : Int) ++ ((l.take j).map rawS).flatten))
  case atStart => exact ⟨0, rfl, by omega, rfl, by simpa using hmd⟩
  case round =>
    obtain ⟨j, rfl, hj, hk, hmj⟩ := hrel
    have hkH : Hidden (gk = len - j) := hk
    have hlen' : l.length = len := hlen
    obtain ⟨ao, cap, e1, hlc, hcm⟩ := hmj.1.shape
    subst e1
    obtain ⟨L, hL⟩ : ∃ L, (i31 (len : Int) ++ ((l.take j).map rawS).flatten).length = L := ⟨_, rfl⟩
    rw [hL] at hmj hlc ⊢
    clear hk ki hmd
    by_cases hjl : j < len
    · obtain ⟨x, hx⟩ : ∃ x, l[j]? = some x := ⟨l[j], List.getElem?_eq_getElem (by omega)⟩
      have hs2 := (show Sl w _ (l.map sv) from hsH).keep hmj.2 (fun _ _ f => f)
      obtain ⟨ao', cap', e1, h1, h2, h3, h4⟩ := hs2
      simp only [Value.slice.injEq] at e1
      obtain ⟨rfl, hbl, rfl⟩ := e1
      clear hbl
      rcases h4 with h4 | ⟨b, off, rfl, hc⟩
      · have : l = [] := by simpa using h4
        subst this
        simp at hx
      · have hcj : wr.cell? ⟨b, off + j, none⟩ = some (.string ⟨x.toArray⟩) := hc j _ (by rw [List.getElem?_map, hx]; rfl)
        have kx := rtext_any x wr ((show ∀ x ∈ l, x.length ≤ 140737488351232 from hsh) x (List.mem_of_getElem? hx))
        have hsize : (i31 (len : Int) ++ ((l.take j).map rawS).flatten).length + (rawS x).length ≤ 140737488355328 := by
          have h0 : (textsS l).length ≤ 140737488355328 := hb
          have e : l = l.take j ++ (x :: l.drop (j + 1)) := by rw [← drop_now hx, List.take_append_drop]
          have e2 : (textsS l).length = (i31 (len : Int)).length + (((l.take j).map rawS).flatten.length + ((rawS x).length + ((l.drop (j + 1)).map rawS).flatten.length)) := by
            rw [textsS, hlen', List.length_append]
            conv => lhs; rw [e]
            simp
          rw [List.length_append]
          omega
        have hH : Hidden (Made w wr (.slice ao L cap) (i31 (len : Int) ++ ((l.take j).map rawS).flatten) ∧ l[j]? = some x ∧ (i31 (len : Int) ++ ((l.take j).map rawS).flatten).length + (rawS x).length ≤ 140737488355328) := ⟨hmj, hx, hsize⟩
        clear hx h1 h2 h3 hc hlen' hmj hsize hL hlc
        go_wp2_with (first
          | (go_at_call 36; refine kx.mono ?_; rintro e w2 ⟨vx, rfl, hmx⟩)
          | (at_builtin; refine wpList_append_ow rfl _ _ rfl w.heap.size _ _ (i31 (len : Int) ++ ((l.take j).map rawS).flatten) (rawS x) rfl ?q1 rfl ?q2 ?q3 ?q4 ?_))
        case q1 => exact hH.1.1.keep hmx.2 (fun _ _ f => f)
        case q2 => exact hmx.1.1
        case q3 => have := hH.1.2.size; have := hmx.2.size; omega
        case q4 => exact hH.2.2
        intro v' w3 ho hf hw
        have hfin : Hidden (Made w w3 v' (i31 (len : Int) ++ ((l.take (j + 1)).map rawS).flatten)) := made_step hH.2.1 hH.1 hmx (by simpa using ho) hf
        clear ho hf hw hmx
        go_wp2
        go_roundg (len - (j + 1))
        case measure =>
          have : gk = len - j := hkH
          omega
        case rel => exact ⟨j + 1, by go_num, by omega, rfl, hfin⟩
    · obtain rfl : j = len := by omega
      have hfin : Hidden (Made w wr (.slice ao L cap) (textsS l)) := by
        show Made w wr _ (textsS l)
        rw [← hlen', List.take_length] at hmj
        rw [textsS]
        exact hmj
      clear hmj hlen' hsH hL hlc
      go_wp2
      go_ret
      exact ⟨_, rfl, hfin⟩
end Go.Proofs.Ytflemhekoffpoaa
