/- The document's Join and Same, of tokens that come in. -/
import Derived.Test.YtdhiombagbiffaaDoorLxI
import Derived.Laws.IdiomStrings
namespace Go.Proofs.YtdhiombagbiffaaDoor.J
open Go.RowKit Lx
set_option linter.unusedSimpArgs false
set_option linter.unusedVariables false

abbrev Yr (w : World) (B : Nat) (v : Value) (l : By) : Prop := w.ownsRow B 5 1 v l.length (Lib.byteCells l)
theorem Yr.keepN {w w' : World} {B : Nat} {v : Value} {l : By} (h : Yr w B v l) (hf : Fr (fun _ => False) w w') : Yr w' B v l := by
  obtain ⟨h1, h2⟩ := h
  refine ⟨h1, ?_⟩
  rcases h2 with h0 | ⟨g, cap, cur, rfl, hb, hg, hr⟩
  · exact Or.inl h0
  · exact Or.inr ⟨g, cap, cur, rfl, hb, hf.heap hg (fun f => f), hr⟩
theorem conv_own {w : World} {B : Nat} {v : Value} {l : By} (h : Yr w B v l) : (convert 53 9 v).run Tryd.prog w = .ok (.string ⟨l.toArray⟩) w := by
  have hh := h
  obtain ⟨h1, h2⟩ := h
  rcases h2 with ⟨rfl, h0⟩ | ⟨g, cap, cur, rfl, hb, hg, hr⟩
  · obtain rfl : l = [] := List.eq_nil_of_length_eq_zero h0
    rw [run_convert_bytes_string w 53 9 5 none 0 0 Tryd.underlying53 Tryd.underlying5 Tryd.underlying9]
    rfl
  · exact run_convert_bytes_back w 53 9 5 ⟨g, 0, none⟩ cap l Tryd.underlying53 Tryd.underlying5 Tryd.underlying9 (fun j hj => hh.cells rfl j _ (by simp [Lib.byteCells, hj]))

set_option maxRecDepth 20000 in
set_option maxHeartbeats 2000000 in
theorem rjoin_walk (v : Value) (ts : List Tok) (J : By) (hJ : Hidden (joinS ts = J)) (hl : J.length ≤ 140737488355328) (hn : ts.length ≤ 281474976710656) (w : World) (hv : Tk w v ts) :
    Calls Tryd.prog 15 #[v] w fun e w' => e = .returned (.string ⟨J.toArray⟩) ∧ Fr (fun _ => False) w w' := by
  have hvH : Hidden (Tk w v ts) := hv
  obtain ⟨ao, cap, rfl, hcap, hcm, _⟩ := hv
  obtain ⟨i0, hi0, hz⟩ := Option.map_eq_some_iff.1 info_byte
  simp only [Prod.mk.injEq] at hz
  go_enter Tryd.func15, Tryd.ntmps15
  go_wp2_with fail
  go_loopg [3, 4] ts.length (fun k lv iv wr => ∃ (i : Nat) (acc : By), iv = .int .i64 (i : Int) ∧ i ≤ ts.length ∧ Yr wr w.heap.size lv acc ∧ ((i = 0 ∧ acc = []) ∨ (0 < i ∧ acc ++ tailJ (ts.drop i) = J)) ∧ k = ts.length - i ∧ Fr (fun _ => False) w wr)
  case atStart => exact ⟨0, [], rfl, by omega, World.ownsRow_nil _ _ _ _, Or.inl ⟨rfl, rfl⟩, rfl, Fr.refl _ _⟩
  case round =>
    rename_i lv
    obtain ⟨i, acc, rfl, hi, hrow, hac, hgk, hfr⟩ := hrel
    have hgkH : Hidden (gk = ts.length - i) := hgk
    have hsz := hfr.size
    have hrowH : Hidden (Yr wr w.heap.size _ acc) := hrow
    clear hgk
    by_cases hil : i < ts.length
    · obtain ⟨t, ht⟩ : ∃ t, ts[i]? = some t := ⟨ts[i], List.getElem?_eq_getElem hil⟩
      obtain ⟨_, _, hv1, _, _, h3⟩ := (show Tk w _ ts from hvH)
      simp only [Value.slice.injEq, true_and] at hv1
      obtain ⟨rfl, rfl⟩ := hv1
      rcases h3 with h3 | ⟨g, off, rfl, hc⟩
      · rw [h3] at ht; simp at ht
      have hdr := drop_at ht
      obtain ⟨k, x, ty, b, p⟩ := t
      have d1w : w.cell? ⟨g, off + i * 5 + 1, none⟩ = some (.string ⟨x.toArray⟩) := hc i _ ht 1 _ rfl
      have hgw : g < w.heap.size := World.block_lt_of_cell? w _ d1w
      have d1 : wr.cell? ⟨g, off + i * 5 + 1, none⟩ = some (.string ⟨x.toArray⟩) := hfr.cellN d1w
      have hbl : (Lib.byteCells acc).length = acc.length := Lib.byteCells_length acc
      have hsx : (⟨x.toArray⟩ : ByteArray).size = x.length := by simp [ByteArray.size]
      clear hc ht
      rcases hac with ⟨rfl, rfl⟩ | ⟨h0, hacc⟩
      · have hj : Hidden (x ++ tailJ (ts.drop 1) = J) := by
          show _ = _
          rw [← (show joinS ts = J from hJ)]
          have : ts = ⟨k, x, ty, b, p⟩ :: ts.drop 1 := by simpa using hdr
          rw [this, joinS_cons]
          simp
        have hxl : x.length ≤ J.length := by rw [← (show _ = J from hj), List.length_append]; omega
        clear hdr hJ
        simp only [Nat.zero_mul, Nat.add_zero] at d1
        go_wp2_with (at_builtin
                     refine Lib.wpList_append_own_string _ rfl _ _ 53 9 rfl w.heap.size 5 i0 Tryd.underlying53 Tryd.underlying9 hi0 hz.1 hz.2.1 hz.2.2 _ _ _ rfl hrowH ⟨x.toArray⟩ rfl ?c3 ?c4 ?c5 ?_
                     case c3 => unfold maxLen; simp; omega
                     case c4 => simp; omega
                     case c5 => omega
                     intro v2 W2 hown2 hgrow2 _)
        go_roundg (ts.length - 1)
        case measure =>
          have : gk = ts.length - 0 := hgkH
          omega
        case rel =>
          refine ⟨1, x, by go_num, by omega, ?_, Or.inr ⟨by omega, hj⟩, rfl, ?_⟩
          · have hz2 : W2.ownsRow w.heap.size 5 1 v2 x.length (x.map fun b => Value.int IntKind.u8 (b.toNat : Int)) := by simpa [Lib.strCells, Lib.byteCells, hsx] using hown2
            exact hz2
          · refine hfr.over (Fr.grown hgrow2) (fun k hk => ?_)
            exact (bs_row (show Yr wr w.heap.size _ [] from hrowH) k hk.symm).1
      · have hj : Hidden (acc ++ [32] ++ x ++ tailJ (ts.drop (i + 1)) = J) := by
          show _ = _
          rw [← hacc, hdr]
          simp [tailJ]
        have hxl : acc.length + 1 + x.length ≤ J.length := by rw [← (show _ = J from hj)]; simp only [List.length_append, List.length_cons, List.length_nil]; omega
        have hpos : decide (0 < (i : Int)) = true := by simp; omega
        clear hdr hJ hacc
        go_wp2_with (first
          | (at_builtin
             refine wpList_append_own _ rfl _ _ 53 rfl w.heap.size 5 i0 (.int .u8 0) 1 1 Tryd.underlying53 hi0 hz.1 hz.2.1 hz.2.2 rfl (by decide) _ _ _ rfl ((show Yr wr w.heap.size _ acc from hrowH).alloc _) ⟨wr.heap.size, 0, none⟩ 1 1 [.int .u8 32] rfl rfl ?c1 ?c2 ?c3 ?c4 ?c5 ?_
             case c1 =>
               intro j u hj
               match j, hj with
               | 0, hj => simp at hj; subst hj; simp [Addr.add]
             case c2 => intro u hu; simp at hu; subst hu; rfl
             case c3 => unfold maxLen; omega
             case c4 => omega
             case c5 => simp; omega
             intro v1 W1 hown1 hgrow1 _
             have hy1 : Hidden (Yr W1 w.heap.size v1 (acc ++ [32])) := (by
               have e : Lib.byteCells (acc ++ [32]) = Lib.byteCells acc ++ [.int .u8 32] := by simp [Lib.byteCells]
               show W1.ownsRow w.heap.size 5 1 v1 (acc ++ [32]).length (Lib.byteCells (acc ++ [32]))
               rw [e, List.length_append]
               simpa using hown1)
             have f1 : Fr (fun _ => False) w W1 := (hfr.same (Fr.alloc _ _ _)).over (Fr.grown hgrow1) (fun k hk => (bs_row (show Yr wr w.heap.size _ acc from hrowH) k hk.symm).1)
             have d2 : W1.cell? ⟨g, off + i * 5 + 1, none⟩ = some (.string ⟨x.toArray⟩) := f1.cellN d1w
             have hz1 := f1.size)
          | (at_builtin
             refine Lib.wpList_append_own_string _ rfl _ _ 53 9 rfl w.heap.size 5 i0 Tryd.underlying53 Tryd.underlying9 hi0 hz.1 hz.2.1 hz.2.2 _ _ _ rfl hy1 ⟨x.toArray⟩ rfl ?e3 ?e4 ?e5 ?_
             case e3 => unfold maxLen; simp; omega
             case e4 => simp; omega
             case e5 => omega
             intro v2 W2 hown2 hgrow2 _))
        go_roundg (ts.length - (i + 1))
        case measure =>
          have : gk = ts.length - i := hgkH
          omega
        case rel =>
          refine ⟨i + 1, acc ++ [32] ++ x, by go_num, by omega, ?_, Or.inr ⟨by omega, hj⟩, rfl, ?_⟩
          · have e : Lib.byteCells (acc ++ [32] ++ x) = Lib.byteCells (acc ++ [32]) ++ Lib.strCells ⟨x.toArray⟩ := by simp [Lib.byteCells, Lib.strCells]
            show W2.ownsRow w.heap.size 5 1 v2 (acc ++ [32] ++ x).length (Lib.byteCells (acc ++ [32] ++ x))
            rw [e, List.length_append, ← hsx]
            exact hown2
          · exact f1.over (Fr.grown hgrow2) (fun k hk => (bs_row (show Yr W1 w.heap.size _ (acc ++ [32]) from hy1) k hk.symm).1)
    · obtain rfl : i = ts.length := by omega
      have hJ2 : acc = J := by
        rcases hac with ⟨h0, rfl⟩ | ⟨h0, h1⟩
        · have : ts = [] := List.eq_nil_of_length_eq_zero h0
          rw [← (show joinS ts = J from hJ), this]
          rfl
        · rw [List.drop_length] at h1
          simpa [tailJ] using h1
      subst hJ2
      have hcv := conv_own hrow
      clear hac hJ hrow
      go_wp2_with fail
      go_ret
      exact ⟨rfl, hfr⟩

theorem rsame_len (v v' : Value) (ts ts' : List Tok) (hlen : ts.length ≠ ts'.length) (w : World) (hv : Tk w v ts) (hv' : Tk w v' ts') :
    Calls Tryd.prog 17 #[v, v'] w fun e w' => e = .returned (.bool false) ∧ w' = w := by
  obtain ⟨ao, cap, rfl, hcap, hcm, _⟩ := hv
  obtain ⟨ao', cap', rfl, hcap', hcm', _⟩ := hv'
  have h1 : ((ts.length : Int) != (ts'.length : Int)) = true := by rw [bne_iff_ne]; omega
  clear hlen
  go_enter Tryd.func17, Tryd.ntmps17
  go_wp2_with fail
  go_ret
  exact ⟨rfl, rfl⟩

set_option maxRecDepth 20000 in
set_option maxHeartbeats 4000000 in
theorem rsame_walk (v v' : Value) (ts ts' : List Tok) (r : Bool) (hr : Hidden (decide (ts.map Tok.core = ts'.map Tok.core) = r)) (hlen : Hidden (ts.length = ts'.length)) (hn : ts.length ≤ 281474976710656) (w : World) (hv : Tk w v ts) (hv' : Tk w v' ts') :
    Calls Tryd.prog 17 #[v, v'] w fun e w' => e = .returned (.bool r) ∧ Fr (fun _ => False) w w' := by
  have hvH : Hidden (Tk w v ts) := hv
  have hvH' : Hidden (Tk w v' ts') := hv'
  obtain ⟨ao, cap, rfl, hcap, hcm, _⟩ := hv
  obtain ⟨ao', cap', rfl, hcap', hcm', _⟩ := hv'
  obtain ⟨n, hnn⟩ : ∃ n, ts.length = n := ⟨_, rfl⟩
  have hnn' : ts'.length = n := by rw [← hnn]; exact (show ts.length = ts'.length from hlen).symm
  rw [hnn] at hcap hn
  rw [hnn'] at hcap'
  rw [hnn, hnn']
  have hnH : Hidden (ts.length = n) := hnn
  have hnH' : Hidden (ts'.length = n) := hnn'
  clear hnn hnn' hlen
  go_enter Tryd.func17, Tryd.ntmps17
  go_wp2_with fail
  go_loopg [5] n (fun k iv wr => ∃ (i : Nat), iv = .int .i64 (i : Int) ∧ i ≤ n ∧ (ts.take i).map Tok.core = (ts'.take i).map Tok.core ∧ k = n - i ∧ Fr (fun _ => False) w wr)
  case atStart => exact ⟨0, rfl, by omega, by simp, rfl, Fr.refl _ _⟩
  case round =>
    obtain ⟨i, rfl, hi, hco, hgk, hfr⟩ := hrel
    have hgkH : Hidden (gk = n - i) := hgk
    have hcoH : Hidden ((ts.take i).map Tok.core = (ts'.take i).map Tok.core) := hco
    clear hgk hco
    have hnn : ts.length = n := hnH
    have hnn' : ts'.length = n := hnH'
    by_cases hil : i < n
    · obtain ⟨t, ht⟩ : ∃ t, ts[i]? = some t := ⟨ts[i]'(by omega), List.getElem?_eq_getElem (by omega)⟩
      obtain ⟨t', ht'⟩ : ∃ t', ts'[i]? = some t' := ⟨ts'[i]'(by omega), List.getElem?_eq_getElem (by omega)⟩
      obtain ⟨_, _, hv1, _, _, h3⟩ := (show Tk w _ ts from hvH).keepN hfr
      obtain ⟨_, _, hv1', _, _, h3'⟩ := (show Tk w _ ts' from hvH').keepN hfr
      rw [hnn] at hv1
      rw [hnn'] at hv1'
      simp only [Value.slice.injEq, true_and] at hv1 hv1'
      obtain ⟨rfl, rfl⟩ := hv1
      obtain ⟨rfl, rfl⟩ := hv1'
      rcases h3 with h3 | ⟨g, off, rfl, hc⟩
      · rw [h3] at ht; simp at ht
      rcases h3' with h3' | ⟨g', off', rfl, hc'⟩
      · rw [h3'] at ht'; simp at ht'
      have hcc := hc i t ht
      have hcc' := hc' i t' ht'
      have htH : Hidden (ts[i]? = some t) := ht
      have htH' : Hidden (ts'[i]? = some t') := ht'
      obtain ⟨k, x, ty, b, p⟩ := t
      obtain ⟨k', x', ty', b', p'⟩ := t'
      have d0 : wr.cell? ⟨g, off + i * 5, none⟩ = some (.int .i64 (k : Int)) := hcc 0 _ rfl
      have d1 : wr.cell? ⟨g, off + i * 5 + 1, none⟩ = some (.string ⟨x.toArray⟩) := hcc 1 _ rfl
      have d2 : wr.cell? ⟨g, off + i * 5 + 2, none⟩ = some (.int .i64 ty) := hcc 2 _ rfl
      have d3 : wr.cell? ⟨g, off + i * 5 + 3, none⟩ = some (.int .u64 b) := hcc 3 _ rfl
      have c0 : wr.cell? ⟨g', off' + i * 5, none⟩ = some (.int .i64 (k' : Int)) := hcc' 0 _ rfl
      have c1 : wr.cell? ⟨g', off' + i * 5 + 1, none⟩ = some (.string ⟨x'.toArray⟩) := hcc' 1 _ rfl
      have c2 : wr.cell? ⟨g', off' + i * 5 + 2, none⟩ = some (.int .i64 ty') := hcc' 2 _ rfl
      have c3 : wr.cell? ⟨g', off' + i * 5 + 3, none⟩ = some (.int .u64 b') := hcc' 3 _ rfl
      have i1 : (0 : Int) ≤ (i : Int) := by omega
      have i2 : (i : Int) < (n : Int) := by omega
      clear hc hc' hcc hcc' ht ht' hnn hnn'
      by_cases he : Tok.core ⟨k, x, ty, b, p⟩ = Tok.core ⟨k', x', ty', b', p'⟩
      · have heH : Hidden (Tok.core ⟨k, x, ty, b, p⟩ = Tok.core ⟨k', x', ty', b', p'⟩) := he
        simp only [Tok.core, Prod.mk.injEq] at he
        obtain ⟨rfl, rfl, rfl, rfl⟩ := he
        have s0 : (k != k) = false := by simp
        have s1 : (x != x) = false := by simp
        go_wp2_with fail
        go_quiet (fail)
        go_wp2_with fail
        go_roundg (n - (i + 1))
        case measure =>
          have : gk = n - i := hgkH
          omega
        case rel => exact ⟨i + 1, by go_num, by omega, core_step htH htH' heH hcoH, rfl, hfr.same (fr_dn0 _ _)⟩
      · have hne := core_at htH htH' he
        have hrr : Hidden (false = r) := by show _ = _; rw [← (show _ = r from hr)]; exact (decide_eq_false hne).symm
        clear hne
        by_cases hk : k = k'
        · subst hk
          have s0 : (k != k) = false := by simp
          by_cases hx : x = x'
          · subst hx
            have s1 : (x != x) = false := by simp
            by_cases hty : ty = ty'
            · subst hty
              have hb : b ≠ b' := fun e => he (by rw [e]; rfl)
              have s2 : (b == b') = false := by rw [beq_eq_false_iff_ne]; exact hb
              clear he
              go_wp2_with fail
              go_quiet (fail)
              go_wp2_with fail
              go_ret
              exact ⟨by cases (show false = r from hrr); rfl, hfr.same (fr_dn0 _ _)⟩
            · have s2 : (ty == ty') = false := by rw [beq_eq_false_iff_ne]; exact hty
              clear he
              go_wp2_with fail
              go_quiet (fail)
              go_wp2_with fail
              go_ret
              exact ⟨by cases (show false = r from hrr); rfl, hfr.same (fr_dn0 _ _)⟩
          · have s1 : (x != x') = true := by rw [bne_iff_ne]; exact hx
            clear he
            go_wp2_with fail
            go_quiet (fail)
            go_wp2_with fail
            go_ret
            exact ⟨by cases (show false = r from hrr); rfl, hfr.same (fr_dn0 _ _)⟩
        · have s0 : (k != k') = true := by rw [bne_iff_ne]; exact hk
          clear he
          go_wp2_with fail
          go_quiet (fail)
          go_wp2_with fail
          go_ret
          exact ⟨by cases (show false = r from hrr); rfl, hfr.same (fr_dn0 _ _)⟩
    · obtain rfl : i = n := by omega
      have hrr : Hidden (true = r) := by
        show _ = _
        rw [← (show _ = r from hr)]
        have h := (show (ts.take i).map Tok.core = (ts'.take i).map Tok.core from hcoH)
        rw [List.take_of_length_le (by omega), List.take_of_length_le (by omega)] at h
        exact (decide_eq_true h).symm
      clear hnn hnn'
      go_wp2_with fail
      go_ret
      exact ⟨by cases (show true = r from hrr); rfl, hfr⟩
theorem rsame_any (v v' : Value) (ts ts' : List Tok) (r : Bool) (hr : decide (ts.map Tok.core = ts'.map Tok.core) = r) (hn : ts.length ≤ 281474976710656) (w : World) (hv : Tk w v ts) (hv' : Tk w v' ts') :
    Calls Tryd.prog 17 #[v, v'] w fun e w' => e = .returned (.bool r) ∧ Fr (fun _ => False) w w' := by
  by_cases hl : ts.length = ts'.length
  · exact rsame_walk v v' ts ts' r hr hl hn w hv hv'
  · have : r = false := by
      rw [← hr]
      refine decide_eq_false fun e => hl ?_
      have := congrArg List.length e
      simpa using this
    rw [this]
    exact (rsame_len v v' ts ts' hl w hv hv').mono fun e w' ⟨h1, h2⟩ => ⟨h1, by rw [h2]; exact Fr.refl _ _⟩
end Go.Proofs.YtdhiombagbiffaaDoor.J
