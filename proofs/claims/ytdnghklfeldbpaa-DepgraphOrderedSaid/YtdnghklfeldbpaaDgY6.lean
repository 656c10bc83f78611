/- DepgraphOrdered. -/
import Derived.Test.YtdnghklfeldbpaaDgY5
import Derived.Test.YtdnghklfeldbpaaDgP
import Derived.Test.YtdnghklfeldbpaaDgHi
namespace Go.Proofs.Ytdnghklfeldbpaa.Dg
open Go.RowKit Go.Sort
/-- The numbers of those that were met. -/
def Placed (R : List Str) (ls : List (List Str)) (nn : Nat) (H : List Int) (done : List Str) : Prop := H.length = nn ∧ ∀ (p : Nat) (x : Str), R[p]? = some x → x ∈ done → H[p]? = some ((lv ls x : Nat) : Int)
theorem Placed.put {R : List Str} {ls : List (List Str)} {nn : Nat} {H : List Int} {done : List Str} (h : Placed R ls nn H done) (hn : R.Nodup) (hl : R.length = nn) {p a : Nat} {x : Str} (hp : R[p]? = some x) (ha : lv ls x = a) : Placed R ls nn (H.set p (a : Int)) (done ++ [x]) := by
  have hpl : p < R.length := (List.getElem?_eq_some_iff.1 hp).1
  refine ⟨by simp [h.1], fun q z hq hz => ?_⟩
  by_cases e : q = p
  · subst e
    obtain rfl : z = x := Option.some.inj (hq.symm.trans hp)
    rw [List.getElem?_set_self (by rw [h.1]; omega), ha]
  · rw [List.getElem?_set_ne (Ne.symm e)]
    refine h.2 q z hq ?_
    rcases List.mem_append.1 hz with hz | hz
    · exact hz
    · simp at hz
      subst hz
      exact absurd ((List.getElem?_inj (List.getElem?_eq_some_iff.1 hq).1 hn).1 (hq.trans hp.symm)) e
theorem at_pos {w : World} {v : Value} {l : List Str} (s : Str) (h : Tl w v l) (hs : s ∈ l) : ∃ k : Nat, l[k]? = some s ∧ ∀ W, Fr (fun _ => False) w W → Calls Try.prog 34 #[v, .string ⟨s.toArray⟩] W (fun e w' => e = .returned (.int .i64 (k : Int)) ∧ w' = W) := by
  rcases findS_spec l s with ⟨a1, _, a3⟩ | ⟨k, a1, _, a3⟩
  · exact absurd hs a1
  · exact ⟨k, a1, fun W hW => at_any v l s _ a3 W (h.later hW)⟩
theorem take_flat {ls : List (List Str)} {a : Nat} {l : List Str} (h : ls[a]? = some l) : (ls.take (a + 1)).flatten = (ls.take a).flatten ++ l := by
  rw [List.take_add_one, h]; simp
theorem im_of {nl : List Nd} (hn : (nl.map (·.1)).Nodup) {n : Nd} (h : n ∈ nl) : (gOf nl).im n.1 = setS n.2 := by
  unfold gOf
  simp only [find_nodup hn h]
theorem ahead {g : Gr} {R : List Str} (ht : Topo g [] R) (hn : R.Nodup) {p q : Nat} {x y : Str} (hp : R[p]? = some x) (hq : R[q]? = some y) (hy : y ∈ g.im x) : q < p := by
  rcases ht p x hp y hy with h | h
  · cases h
  · obtain ⟨j, hj⟩ := List.getElem?_of_mem h
    have hjp : j < p := by have := (List.getElem?_eq_some_iff.1 hj).1; simp at this; omega
    rw [List.getElem?_take_of_lt hjp] at hj
    have := (List.getElem?_inj (List.getElem?_eq_some_iff.1 hj).1 hn).1 (hj.trans hq.symm)
    omega
theorem flat_le (ls : List (List Str)) (a : Nat) : (ls.take a).flatten.length ≤ ls.flatten.length := by
  have h := congrArg List.length (congrArg List.flatten (List.take_append_drop a ls))
  rw [List.flatten_append, List.length_append] at h
  omega
end Go.Proofs.Ytdnghklfeldbpaa.Dg
namespace Go.Proofs.Ytdnghklfeldbpaa.depgraphOrdered
open Go.RowKit Go.Sort Dg
set_option linter.unusedSimpArgs false
set_option linter.unusedVariables false
set_option maxRecDepth 20000 in
set_option maxHeartbeats 4000000 in
theorem good (v : Value) (nl : List Nd) (w : World) (hm : NL w v nl) (hok : ∀ n ∈ nl, OkN n.1 ∧ ∀ x ∈ n.2, OkN x) (hsz : nl.length * 40 ≤ 140737488355328 ∧ ∀ n ∈ nl, n.2.length * 16 ≤ 140737488355328) (hE0 : newE nl = 0) (hord : ordE (gOf nl) = 0) :
    Calls Try.prog 5 #[v] w fun e w' => e = .returned (.bool true) ∧ Fr (fun _ => False) w w' := by
  obtain ⟨ao, cap, rfl, t1, t2, _⟩ := id hm
  have ko := own_any ao cap nl w hm hsz.1 hsz.2
  have hokH : Hidden (∀ n ∈ nl, OkN n.1 ∧ ∀ x ∈ n.2, OkN x) := hok
  obtain ⟨nn, hnn⟩ : ∃ n, n = nl.length := ⟨_, rfl⟩
  rw [← hnn] at ko t1 ⊢
  have hnnH : Hidden (nn = nl.length) := hnn
  have hmH : Hidden (NL w (.slice ao nl.length cap) nl) := hm
  clear hm hok hsz hnn
  go_enter Try.func5, Try.ntmps5
  go_wp2_with fail
  refine ko.mono ?_
  rintro e w1 ⟨ao1, cap1, xs, rfl, o1, f1⟩
  have f1H : Hidden (Fr (fun _ => False) w w1) := f1
  have kn := new_any ao1 cap1 nl w1 (by rw [← (show nn = nl.length from hnnH)]; exact o1.nl) hokH
  rw [← (show nn = nl.length from hnnH)] at kn
  clear ko o1 f1
  go_wp2_with fail
  refine kn.mono ?_
  rintro e w2 ⟨hR, f2⟩
  have f2H : Hidden (Fr (fun _ => False) w w2) := Fr.same f1H f2
  have ka := alive_any w2
  clear kn f2
  rcases hR with ⟨hE, rfl⟩ | ⟨_, B, rfl, hG⟩
  · exact absurd hE0 hE
  have hg : Gp w2 (.pointer (some ⟨B, 0, none⟩)) (gOf nl) := hG w2 (Fr.refl _ _)
  have hgH : Hidden (Gp w2 (.pointer (some ⟨B, 0, none⟩)) (gOf nl)) := hg
  have hsm := hg.small
  have hwf := gOf_wf nl
  clear hG hg
  go_wp2_with fail
  refine ka.mono ?_
  rintro e w3 ⟨rfl, f3⟩
  have f3H : Hidden (Fr (fun _ => False) w2 w3) := f3
  have hcmH : Hidden (Dg.Calm (gOf nl)) := calm_of hwf hord
  have hndH : Hidden (nl.map (·.1)).Nodup := newE_nodup hE0
  obtain ⟨R, hRs, hRp, hRt⟩ := (calm_of hwf hord).order
  obtain ⟨ls, hls, hlv, hlf⟩ := (calm_of hwf hord).levels
  have hRl : R.length = nl.length := by
    rw [hRp.length_eq]
    exact (List.Perm.length_eq ((List.perm_ext_iff_of_nodup (nodup_of_ss (setS_ss _)) (newE_nodup hE0)).2 fun z => mem_setS)).trans (by simp)
  have hms : missS (gOf nl) = none := by
    cases h : missS (gOf nl) with
    | none => rfl
    | some u => rw [ordE, h] at hord; cases hord
  have hrs : ringS (gOf nl) = [] := by
    rw [ordE, hms, if_neg (by simp)] at hord
    apply Classical.byContradiction
    intro h
    rw [if_neg h] at hord
    cases hord
  have hoq : ordC (some (⟨B, 0, none⟩ : Addr)) (gOf nl) = 0 := hord
  have ko := order_ok (some ⟨B, 0, none⟩) (gOf nl) w3 (Gp.later hgH f3H) hoq R hRs
  have km := fun W hW => missing_any (.pointer (some ⟨B, 0, none⟩)) (gOf nl) W (Gp.later hgH hW)
  have kr := fun W hW => ring_any (.pointer (some ⟨B, 0, none⟩)) (gOf nl) W (Gp.later hgH hW)
  have kl := fun W hW => levels_ok (some ⟨B, 0, none⟩) (gOf nl) W (Gp.later hgH hW) hoq ls hls
  rw [hms] at km
  rw [hrs] at kr
  simp only [missV] at km
  have hRpH : Hidden (R.Perm (gOf nl).ks) := hRp
  have hRtH : Hidden (Topo (gOf nl) [] R) := hRt
  have hlvH : Hidden (Lev (gOf nl) [] (gOf nl).ks ls) := hlv
  have hlfH : Hidden (ls.flatten.length = (gOf nl).ks.length) := hlf
  rw [hRl, ← (show nn = nl.length from hnnH)] at ko
  have hRlH : Hidden (R.length = nn) := hRl.trans (show nn = nl.length from hnnH).symm
  clear hRs hRp hRt hls hlv hlf hRl hms hrs hoq hord hwf ka f3
  go_wp2_with fail
  refine ko.mono ?_
  rintro e w4 ⟨⟨aoo, capo, rfl, t4⟩, f4⟩
  have f4H : Hidden (Fr (fun _ => False) w2 w4) := Fr.same f3H f4
  have t4H : Hidden (Tl w4 (.slice aoo nn capo) R) := t4.tn.tl
  have hoc : nn ≤ capo ∧ capo ≤ 9223372036854775807 := by obtain ⟨_, _, e, q1, q2, _⟩ := (show Tl w4 _ _ from t4H); have hr : R.length = nn := hRlH; cases e; exact ⟨by omega, q2⟩
  obtain ⟨hoc1, hoc2⟩ := hoc
  have km := km w4 f4H
  clear ko f4 t4
  go_wp2_with fail
  refine km.mono ?_
  rintro e w5 ⟨rfl, f5⟩
  have f5H : Hidden (Fr (fun _ => False) w2 w5) := Fr.same f4H f5
  have t5H : Hidden (Tl w5 (.slice aoo nn capo) R) := Tl.later t4H f5
  have kr := kr w5 f5H
  clear km f5 t4H
  go_wp2_with fail
  refine kr.mono ?_
  rintro e w6 ⟨⟨ao6, cap6, rfl, t6⟩, f6⟩
  have f6H : Hidden (Fr (fun _ => False) w2 w6) := Fr.same f5H f6
  have t6H : Hidden (Tl w6 (.slice aoo nn capo) R) := Tl.later t5H f6
  have kl := kl w6 f6H
  clear kr f6 t6 t5H
  go_wp2_with fail
  refine kl.mono ?_
  rintro e w7 ⟨⟨aol, capl, rfl, t7⟩, f7⟩
  have f7H : Hidden (Fr (fun _ => False) w2 w7) := Fr.same f6H f7
  have t7H : Hidden (Tl w7 (.slice aoo nn capo) R) := Tl.later t6H f7
  have ll7 : Hidden (LL w7 w6.heap.size (.slice aol ls.length capl) ls) := t7
  clear kl f7 t7 t6H
  have hnn32 : nn ≤ 32 := by
    rw [(show nn = nl.length from hnnH)]
    unfold newE at hE0
    split at hE0
    · cases hE0
    · rename_i h
      unfold bigS at h
      simp only [Bool.or_eq_true, decide_eq_true_eq, not_or] at h
      omega
  have hmk := mk_ints nn (by omega) w7
  have hll : ls.length ≤ capl ∧ capl ≤ 9223372036854775807 := by
    obtain ⟨_, _, e, q1, q2⟩ := (show LL w7 w6.heap.size (.slice aol ls.length capl) ls from ll7).shape
    cases e
    exact ⟨q1, q2⟩
  obtain ⟨hll1, hll2⟩ := hll
  go_wp2_with fail
  have f78 : Hidden (Fr (fun _ => False) w7 (w7.alloc (.cells (madeCells #[.int .i64 0] nn) 3))) := Fr.alloc _ _ _
  have hi8 : Hidden (Hi (w7.alloc (.cells (madeCells #[.int .i64 0] nn) 3)) w7.heap.size (List.replicate nn 0)) := Hi.new nn w7
  have sz8 : Hidden (w7.heap.size < (w7.alloc (.cells (madeCells #[.int .i64 0] nn) 3)).heap.size) := by show _ < _; simp
  obtain ⟨W8, hW8⟩ : ∃ W, W = w7.alloc (.cells (madeCells #[.int .i64 0] nn) 3) := ⟨_, rfl⟩
  rw [← hW8] at f78 hi8 sz8 ⊢
  have hRn : Hidden R.Nodup := (show R.Perm (gOf nl).ks from hRpH).nodup_iff.2 (nodup_of_ss (gOf_wf nl).ks)
  have hfl : Hidden (ls.flatten.length = nn) := by
    show _ = _
    rw [(show ls.flatten.length = _ from hlfH), ← (show R.Perm (gOf nl).ks from hRpH).length_eq]
    exact hRlH
  clear hW8 hmk hE0
  go_loopg [13, 14] ls.length (fun q nv iv wr => ∃ (a : Nat) (H : List Int), nv = .int .i64 (((ls.take a).flatten.length : Nat) : Int) ∧ iv = .int .i64 (a : Int) ∧ a ≤ ls.length ∧ q = ls.length - a ∧ Hi wr w7.heap.size H ∧ Placed R ls nn H (ls.take a).flatten ∧ Fr (fun _ => False) w7 wr ∧ w7.heap.size < wr.heap.size)
  case atStart => exact ⟨0, List.replicate nn 0, rfl, rfl, by omega, rfl, hi8, ⟨by simp, fun p x _ hx => by simp at hx⟩, f78, sz8⟩
  case round =>
    obtain ⟨a, H, rfl, rfl, ha, hk, hhi, hpl, hf, hsz⟩ := hrel
    have hkH : Hidden (gk = ls.length - a) := hk
    have hhiH : Hidden (Hi wr w7.heap.size H) := hhi
    have hplH : Hidden (Placed R ls nn H (ls.take a).flatten) := hpl
    have hfH : Hidden (Fr (fun _ => False) w7 wr) := hf
    have hszH : Hidden (w7.heap.size < wr.heap.size) := hsz
    clear hk hhi hpl hsz
    by_cases hal : a < ls.length
    · obtain ⟨l, hl⟩ : ∃ l, ls[a]? = some l := ⟨ls[a], List.getElem?_eq_getElem hal⟩
      obtain ⟨bl, vl, hbl, cl, tl, _⟩ := LL.at (show LL w7 w6.heap.size (.slice aol ls.length capl) ls from ll7) hl
      subst hbl
      obtain ⟨aoi, capi, rfl, i1, i2, _⟩ := id tl
      have tlH : Hidden (Tl w7 (.slice aoi l.length capi) l) := tl
      have clH : Hidden (w7.cell? ⟨bl, a, none⟩ = some (.slice aoi l.length capi)) := cl
      have hlH : Hidden (ls[a]? = some l) := hl
      have hft := take_flat hl
      have hftH : Hidden ((ls.take (a + 1)).flatten = (ls.take a).flatten ++ l) := hft
      obtain ⟨F, hF⟩ : ∃ F, F = (ls.take a).flatten.length := ⟨_, rfl⟩
      have hFl : F + l.length ≤ 32 := by
        have := flat_le ls (a + 1)
        rw [hft, List.length_append, ← hF, (show ls.flatten.length = nn from hfl)] at this
        omega
      have hFH : Hidden (F = (ls.take a).flatten.length) := hF
      rw [← hF]
      have cw := hf.cellN cl
      obtain ⟨X, hX⟩ : ∃ X, X = wr := ⟨wr, rfl⟩
      subst hX
      obtain ⟨gko, hgko⟩ : ∃ gko, gko = gk := ⟨gk, rfl⟩
      subst hgko
      clear hl tl hft hF hf cl
      go_wp2_with fail
      go_loopg [13, 15] l.length (fun q nv iv wr => ∃ (c : Nat) (H : List Int), nv = .int .i64 ((F + c : Nat) : Int) ∧ iv = .int .i64 (c : Int) ∧ c ≤ l.length ∧ q = l.length - c ∧ Hi wr w7.heap.size H ∧ Placed R ls nn H ((ls.take a).flatten ++ l.take c) ∧ Fr (fun _ => False) w7 wr ∧ w7.heap.size < wr.heap.size)
      case atStart => exact ⟨0, H, by go_num, rfl, by omega, rfl, hhiH, by rw [List.take_zero, List.append_nil]; exact hplH, hfH, hszH⟩
      case round =>
        obtain ⟨c, H2, rfl, rfl, hc, hk, hhi, hpl, hf, hsz⟩ := hrel
        have hkH2 : Hidden (gk = l.length - c) := hk
        have hhiH2 : Hidden (Hi wr w7.heap.size H2) := hhi
        have hplH2 : Hidden (Placed R ls nn H2 ((ls.take a).flatten ++ l.take c)) := hpl
        have hfH2 : Hidden (Fr (fun _ => False) w7 wr) := hf
        have hszH2 : Hidden (w7.heap.size < wr.heap.size) := hsz
        have cw2 := hf.cellN clH
        by_cases hcl : c < l.length
        · obtain ⟨x, hx⟩ : ∃ x, l[c]? = some x := ⟨l[c], List.getElem?_eq_getElem hcl⟩
          obtain ⟨bx, ox, hbx, cx⟩ := Tl.at (Tl.later tlH hf) hx
          subst hbx
          have hxR : x ∈ R := (show R.Perm (gOf nl).ks from hRpH).mem_iff.2 (((show Lev (gOf nl) [] (gOf nl).ks ls from hlvH).1 x).2 (List.mem_flatten.2 ⟨l, List.mem_of_getElem? hlH, List.mem_of_getElem? hx⟩))
          obtain ⟨p, hp, kat⟩ := at_pos x (show Tl w7 (.slice aoo nn capo) R from t7H) hxR
          have kat := kat wr hf
          have hpn : p < nn := by have h1 := (List.getElem?_eq_some_iff.1 hp).1; have h2 : R.length = nn := hRlH; omega
          have hlvx : lv ls x = a := lv_is hlvH hlH (List.mem_of_getElem? hx)
          have hpl3 : Hidden (Placed R ls nn (H2.set p (a : Int)) ((ls.take a).flatten ++ l.take (c + 1))) := by
            have := hpl.put hRn hRlH hp hlvx
            rw [List.append_assoc] at this
            rw [List.take_add_one, hx]
            exact this
          have hpH : p < H2.length := by rw [hpl.1]; exact hpn
          obtain ⟨zp, hzp⟩ : ∃ z, H2[p]? = some z := ⟨H2[p], List.getElem?_eq_getElem hpH⟩
          obtain ⟨cp, zf⟩ := hhi p zp hzp
          have hhi3 : Hidden (Hi (wr.setCell ⟨w7.heap.size, p, none⟩ (ci (a : Int))) w7.heap.size (H2.set p (a : Int))) := hhi.set hpH _
          have hpz : (p : Int) < (nn : Int) := by omega
          have hFc : ((F + c : Nat) : Int) + 1 = ((F + (c + 1) : Nat) : Int) := by omega
          have hwr : IntKind.i64.wrap (((F + c : Nat) : Int) + 1) = ((F + (c + 1) : Nat) : Int) := by rw [hFc]; exact Dg.wrap_small (by omega) (by omega)
          clear hk hhi hpl hf hsz hx hp hxR hlvx hzp
          go_wp2_with fail
          refine kat.mono ?_
          rintro e w9 ⟨rfl, hw9⟩
          replace hw9 := hw9.symm
          subst hw9
          go_wp2_with fail
          go_roundg (l.length - (c + 1))
          case measure => have := (show gk = l.length - c from hkH2); omega
          case rel => exact ⟨c + 1, H2.set p (a : Int), by go_num, by go_num, by omega, rfl, hhi3, hpl3, Fr.over hfH2 (Fr.setCell _ ⟨w7.heap.size, p, none⟩ _) (fun q hq => by have e : q = w7.heap.size := hq; omega), by have h : w7.heap.size < wr.heap.size := hszH2; simpa using h⟩
        · obtain rfl : c = l.length := by omega
          clear hk hhi hpl hf hsz
          go_wp2_with fail
          go_roundg (ls.length - (a + 1))
          case measure => have := (show gko = ls.length - a from hkH); omega
          case rel =>
            refine ⟨a + 1, H2, ?_, by go_num, by omega, rfl, hhiH2, ?_, hfH2, hszH2⟩
            · rw [(show (ls.take (a + 1)).flatten = (ls.take a).flatten ++ l from hftH), List.length_append, ← (show F = (ls.take a).flatten.length from hFH)]
            · rw [(show (ls.take (a + 1)).flatten = (ls.take a).flatten ++ l from hftH)]
              have h : Placed R ls nn H2 ((ls.take a).flatten ++ l.take l.length) := hplH2
              rw [List.take_length] at h
              exact h
    · obtain rfl : a = ls.length := by omega
      rw [List.take_length] at hplH ⊢
      rw [(show ls.flatten.length = nn from hfl)]
      have fw9 : Hidden (Fr (fun _ => False) w wr) := Fr.same f2H (Fr.same f7H hf)
      clear hf
      obtain ⟨W9, hW9⟩ : ∃ X, X = wr := ⟨wr, rfl⟩
      subst hW9
      go_wp2_with fail
      go_loopg [17] nn (fun q iv wr => ∃ a : Nat, iv = .int .i64 (a : Int) ∧ a ≤ nn ∧ q = nn - a ∧ wr = W9)
      case atStart => exact ⟨0, rfl, by omega, rfl, rfl⟩
      case round =>
        obtain ⟨a, rfl, ha2, hk, hw⟩ := hrel
        replace hw := hw.symm
        subst hw
        have hkH9 : Hidden (gk = nn - a) := hk
        clear hk
        by_cases hal2 : a < nn
        · obtain ⟨n, hn⟩ : ∃ n, nl[a]? = some n := ⟨nl[a]'(by rw [← (show nn = nl.length from hnnH)]; exact hal2), List.getElem?_eq_getElem _⟩
          have hnm := List.mem_of_getElem? hn
          obtain ⟨bn, on, aoi, capi, hbn, c1, c2, c3⟩ := NL.at (NL.later hmH fw9) hn
          subst hbn
          have hnk : n.1 ∈ (gOf nl).ks := mem_setS.2 (List.mem_map_of_mem hnm)
          have him := im_of hndH hnm
          have hmemR : ∀ z, z ∈ (gOf nl).ks → z ∈ R := fun z hz => (show R.Perm (gOf nl).ks from hRpH).mem_iff.2 hz
          obtain ⟨p, hp, kat⟩ := at_pos n.1 (Tl.later t7H hfH) (hmemR _ hnk)
          have kat := kat W9 (Fr.refl _ _)
          have hpn : p < nn := by have h1 := (List.getElem?_eq_some_iff.1 hp).1; have h2 : R.length = nn := hRlH; omega
          have hHp : H[p]? = some ((lv ls n.1 : Nat) : Int) := (show Placed R ls nn H ls.flatten from hplH).2 p n.1 hp (((show Lev (gOf nl) [] (gOf nl).ks ls from hlvH).1 _).1 hnk)
          obtain ⟨cp, _⟩ := (show Hi W9 w7.heap.size H from hhiH) p _ hHp
          obtain ⟨hsp1, hsp2⟩ := lv_spec hlvH hnk
          obtain ⟨L, hL⟩ : ∃ L, L = lv ls n.1 := ⟨_, rfl⟩
          have hLb : L ≤ ls.length := by rw [hL]; exact List.findIdx_le_length
          rw [← hL] at cp hsp1 hsp2
          have hsp1H : Hidden (∀ y ∈ (gOf nl).im n.1, lv ls y < L) := hsp1
          have hsp2H : Hidden (0 < L → ∃ y ∈ (gOf nl).im n.1, lv ls y + 1 = L) := hsp2
          have himH : Hidden ((gOf nl).im n.1 = setS n.2) := him
          have hpH : Hidden (R[p]? = some n.1) := hp
          have hnkH : Hidden (n.1 ∈ (gOf nl).ks) := hnk
          have c3H : Hidden (Tl W9 (.slice aoi n.2.length capi) n.2) := c3
          have hmemRH : Hidden (∀ z, z ∈ (gOf nl).ks → z ∈ R) := hmemR
          have hic : n.2.length ≤ capi ∧ capi ≤ 9223372036854775807 := by obtain ⟨_, _, e, q1, q2, _⟩ := id c3; cases e; exact ⟨q1, q2⟩
          obtain ⟨hic1, hic2⟩ := hic
          have hpz : (p : Int) < (nn : Int) := by omega
          obtain ⟨gko, hgko⟩ : ∃ gko, gko = gk := ⟨gk, rfl⟩
          subst hgko
          clear hn hnm hnk him hmemR hp hHp hsp1 hsp2 hL c3
          go_wp2_with fail
          refine kat.mono ?_
          rintro e w9' ⟨rfl, hw9⟩
          replace hw9 := hw9.symm
          subst hw9
          clear kat
          go_wp2_with fail
          go_loopg [19, 20] n.2.length (fun q mv iv wr => ∃ (c : Nat) (mo : Int), mv = .int .i64 mo ∧ iv = .int .i64 (c : Int) ∧ c ≤ n.2.length ∧ q = n.2.length - c ∧ wr = W9 ∧ -1 ≤ mo ∧ mo < (L : Int) ∧ ∀ y ∈ n.2.take c, ((lv ls y : Nat) : Int) ≤ mo)
          case atStart => exact ⟨0, -1, rfl, rfl, by omega, rfl, rfl, by omega, by omega, by simp⟩
          case round =>
            obtain ⟨c, mo, rfl, rfl, hc, hk, hw, hm1, hm2, hm3⟩ := hrel
            replace hw := hw.symm
            subst hw
            have hkH10 : Hidden (gk = n.2.length - c) := hk
            have hm3H : Hidden (∀ y ∈ n.2.take c, ((lv ls y : Nat) : Int) ≤ mo) := hm3
            clear hk
            by_cases hcl : c < n.2.length
            · obtain ⟨y, hy⟩ : ∃ y, n.2[c]? = some y := ⟨n.2[c], List.getElem?_eq_getElem hcl⟩
              have hyim : y ∈ (gOf nl).im n.1 := by rw [(show (gOf nl).im n.1 = setS n.2 from himH)]; exact mem_setS.2 (List.mem_of_getElem? hy)
              have hyk : y ∈ (gOf nl).ks := (show Dg.Calm (gOf nl) from hcmH).there _ hnkH y hyim
              obtain ⟨by', oy, hby, cy⟩ := Tl.at c3H hy
              subst hby
              obtain ⟨q, hq, kat⟩ := at_pos y (Tl.later t7H hfH) ((show ∀ z, z ∈ (gOf nl).ks → z ∈ R from hmemRH) _ hyk)
              have kat := kat W9 (Fr.refl _ _)
              have hqp : q < p := Dg.ahead hRtH hRn hpH hq hyim
              have hHq : H[q]? = some ((lv ls y : Nat) : Int) := (show Placed R ls nn H ls.flatten from hplH).2 q y hq (((show Lev (gOf nl) [] (gOf nl).ks ls from hlvH).1 _).1 hyk)
              obtain ⟨cq, _⟩ := (show Hi W9 w7.heap.size H from hhiH) q _ hHq
              have hly : lv ls y < L := (show ∀ y ∈ (gOf nl).im n.1, lv ls y < L from hsp1H) y hyim
              have htk : Hidden (n.2.take (c + 1) = n.2.take c ++ [y]) := by show _ = _; rw [List.take_add_one, hy]; rfl
              obtain ⟨ly, hlyy⟩ : ∃ z, z = lv ls y := ⟨_, rfl⟩
              have hlyH : Hidden (ly = lv ls y) := hlyy
              rw [← hlyy] at cq hly
              have hqz : (q : Int) < (nn : Int) := by omega
              have hqpz : (q : Int) < (p : Int) := by omega
              clear hy hyim hyk hq hHq hm3 hlyy
              go_wp2_with fail
              refine kat.mono ?_
              rintro e w9' ⟨rfl, hw9⟩
              replace hw9 := hw9.symm
              subst hw9
              clear kat
              go_wp2_with fail
              go_roundg (n.2.length - (c + 1))
              case measure => have := (show gk = n.2.length - c from hkH10); omega
              case rel =>
                refine ⟨c + 1, max mo (ly : Int), rfl, by go_num, by omega, rfl, rfl, by omega, by omega, fun z hz => ?_⟩
                rw [(show n.2.take (c + 1) = n.2.take c ++ [y] from htk)] at hz
                rcases List.mem_append.1 hz with hz | hz
                · have := (show ∀ y ∈ n.2.take c, ((lv ls y : Nat) : Int) ≤ mo from hm3H) z hz
                  omega
                · simp at hz
                  subst hz
                  have := (show ly = lv ls z from hlyH)
                  omega
            · obtain rfl : c = n.2.length := by omega
              have hmo : mo + 1 = (L : Int) := by
                by_cases hL0 : L = 0
                · omega
                · obtain ⟨y, hy1, hy2⟩ := (show 0 < L → ∃ y ∈ (gOf nl).im n.1, lv ls y + 1 = L from hsp2H) (by omega)
                  rw [(show (gOf nl).im n.1 = setS n.2 from himH)] at hy1
                  have := hm3 y (by rw [List.take_length]; exact mem_setS.1 hy1)
                  omega
              have hwm : IntKind.i64.wrap (mo + 1) = (L : Int) := by rw [hmo]; exact Dg.wrap_small (by omega) (by omega)
              clear hm3 hmo
              go_wp2_with fail
              go_roundg (nn - (a + 1))
              case measure => have := (show gko = nn - a from hkH9); omega
              case rel => exact ⟨a + 1, by go_num, by omega, rfl, rfl⟩
        · obtain rfl : a = nn := by omega
          go_wp2
          go_ret
          exact ⟨rfl, fw9⟩
theorem walk (v : Value) (nl : List Nd) (w : World) (hm : NL w v nl) (hok : ∀ n ∈ nl, OkN n.1 ∧ ∀ x ∈ n.2, OkN x) (hsz : nl.length * 40 ≤ 140737488355328 ∧ ∀ n ∈ nl, n.2.length * 16 ≤ 140737488355328) :
    Calls Try.prog 5 #[v] w fun e w' => e = .returned (.bool true) ∧ Fr (fun _ => False) w w' := by
  by_cases h1 : newE nl = 0
  · by_cases h2 : ordE (gOf nl) = 0
    · exact good v nl w hm hok hsz h1 h2
    · exact err v nl w hm hok hsz (fun _ => h2)
  · exact err v nl w hm hok hsz (fun h => absurd h h1)
end Go.Proofs.Ytdnghklfeldbpaa.depgraphOrdered
