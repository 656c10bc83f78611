/- The program's Same. -/
import Derived.Test.YtdhiombagbiffaaDoorLxJoin
namespace Go.Proofs.YtdhiombagbiffaaDoor
open Go.RowKit Lx
set_option linter.unusedSimpArgs false
set_option linter.unusedVariables false

set_option maxRecDepth 20000 in
set_option maxHeartbeats 1000000 in
theorem alike_walk (k k' : Nat) (x x' : By) (t t' b b' : Int) (p p' : Nat) (r : Bool) (hr : Hidden (decide (Tok.core ⟨k, x, t, b, p⟩ = Tok.core ⟨k', x', t', b', p'⟩) = r)) (w : World) :
    Calls Tryd.prog 29 #[.agg #[.int .i64 (k : Int), .string ⟨x.toArray⟩, .int .i64 t, .int .u64 b, .int .i64 (p : Int)], .agg #[.int .i64 (k' : Int), .string ⟨x'.toArray⟩, .int .i64 t', .int .u64 b', .int .i64 (p' : Int)]] w
      fun e w' => e = .returned (.bool r) ∧ Fr (fun _ => False) w w' := by
  go_enter Tryd.func29, Tryd.ntmps29
  go_wp2_with fail
  all_goals
    go_ret
    refine ⟨?_, (Fr.alloc _ _ _).same (Fr.alloc _ _ _)⟩
    rw [← (show _ = r from hr)]
    clear hr
    refine ret_bool ?_
    simp only [Tok.core, decide_eq_true_eq, Prod.mk.injEq]
    (try simp only [Int.natCast_inj] at *)
    simp [*]

theorem core_at {ts ts' : List Tok} {i : Nat} {t t' : Tok} (h1 : ts[i]? = some t) (h2 : ts'[i]? = some t') (hne : Tok.core t ≠ Tok.core t') : ts.map Tok.core ≠ ts'.map Tok.core := by
  intro e
  have := congrArg (fun l => l[i]?) e
  simp only [List.getElem?_map, h1, h2, Option.map_some, Option.some.injEq] at this
  exact hne this
theorem core_step {ts ts' : List Tok} {i : Nat} {t t' : Tok} (h1 : ts[i]? = some t) (h2 : ts'[i]? = some t') (he : Tok.core t = Tok.core t') (h : (ts.take i).map Tok.core = (ts'.take i).map Tok.core) : (ts.take (i + 1)).map Tok.core = (ts'.take (i + 1)).map Tok.core := by
  rw [List.take_add_one, List.take_add_one, h1, h2, List.map_append, List.map_append, h]
  simp [he]

set_option maxRecDepth 20000 in
set_option maxHeartbeats 1000000 in
theorem eqf_walk (v v' : Value) (ts ts' : List Tok) (r : Bool) (hr : Hidden (decide (ts.map Tok.core = ts'.map Tok.core) = r)) (hlen : Hidden (ts.length = ts'.length)) (hn : ts.length ≤ 281474976710656) (w : World) (hv : Tk w v ts) (hv' : Tk w v' ts') :
    Calls Tryd.prog 28 #[v, v', .func (.func 29) #[] #[]] w fun e w' => e = .returned (.bool r) ∧ Fr (fun _ => False) w w' := by
  have hvH : Hidden (Tk w v ts) := hv
  have hvH' : Hidden (Tk w v' ts') := hv'
  obtain ⟨ao, cap, rfl, hcap, hcm, _⟩ := hv
  obtain ⟨ao', cap', rfl, hcap', hcm', _⟩ := hv'
  have hl0 : Hidden (ts.length = ts'.length) := hlen
  obtain ⟨n, hnn⟩ : ∃ n, ts.length = n := ⟨_, rfl⟩
  have hnn' : ts'.length = n := by rw [← hnn]; exact (show ts.length = ts'.length from hlen).symm
  rw [hnn] at hcap hn
  rw [hnn'] at hcap'
  rw [hnn, hnn']
  have hnH : Hidden (ts.length = n) := hnn
  have hnH' : Hidden (ts'.length = n) := hnn'
  clear hnn hnn' hlen
  go_enter Tryd.func28, Tryd.ntmps28
  go_wp2_with fail
  go_loopg [17] n (fun k iv wr => ∃ (i : Nat), iv = .int .i64 (i : Int) ∧ i ≤ n ∧ (ts.take i).map Tok.core = (ts'.take i).map Tok.core ∧ k = n - i ∧ Fr (fun _ => False) w wr)
  case atStart => exact ⟨0, rfl, by omega, by simp, rfl, Fr.refl _ _⟩
  case round =>
    obtain ⟨i, rfl, hi, hco, hgk, hfr⟩ := hrel
    have hgkH : Hidden (gk = n - i) := hgk
    have hcoH : Hidden ((ts.take i).map Tok.core = (ts'.take i).map Tok.core) := hco
    clear hgk hco
    have hnn : ts.length = n := hnH
    have hnn' : ts'.length = n := hnH'
    by_cases hil : i < n
    · obtain ⟨t, ht⟩ : ∃ t, ts[i]? = some t := ⟨ts[i]'(by omega), List.getElem?_eq_getElem (by omega)⟩
      obtain ⟨t', ht'⟩ : ∃ t', ts'[i]? = some t' := ⟨ts'[i]'(by omega), List.getElem?_eq_getElem (by omega)⟩
      obtain ⟨_, _, hv1, _, _, h3⟩ := (show Tk w _ ts from hvH).keepN hfr
      obtain ⟨_, _, hv1', _, _, h3'⟩ := (show Tk w _ ts' from hvH').keepN hfr
      rw [hnn] at hv1
      rw [hnn'] at hv1'
      simp only [Value.slice.injEq, true_and] at hv1 hv1'
      obtain ⟨rfl, rfl⟩ := hv1
      obtain ⟨rfl, rfl⟩ := hv1'
      rcases h3 with h3 | ⟨g, off, rfl, hc⟩
      · rw [h3] at ht; simp at ht
      rcases h3' with h3' | ⟨g', off', rfl, hc'⟩
      · rw [h3'] at ht'; simp at ht'
      have hcc := hc i t ht
      have hcc' := hc' i t' ht'
      have htH : Hidden (ts[i]? = some t) := ht
      have htH' : Hidden (ts'[i]? = some t') := ht'
      obtain ⟨k, x, ty, b, p⟩ := t
      obtain ⟨k', x', ty', b', p'⟩ := t'
      have d0 : wr.cell? ⟨g, off + i * 5, none⟩ = some (.int .i64 (k : Int)) := hcc 0 _ rfl
      have d1 : wr.cell? ⟨g, off + i * 5 + 1, none⟩ = some (.string ⟨x.toArray⟩) := hcc 1 _ rfl
      have d2 : wr.cell? ⟨g, off + i * 5 + 2, none⟩ = some (.int .i64 ty) := hcc 2 _ rfl
      have d3 : wr.cell? ⟨g, off + i * 5 + 3, none⟩ = some (.int .u64 b) := hcc 3 _ rfl
      have d4 : wr.cell? ⟨g, off + i * 5 + 4, none⟩ = some (.int .i64 (p : Int)) := hcc 4 _ rfl
      have c0 : wr.cell? ⟨g', off' + i * 5, none⟩ = some (.int .i64 (k' : Int)) := hcc' 0 _ rfl
      have c1 : wr.cell? ⟨g', off' + i * 5 + 1, none⟩ = some (.string ⟨x'.toArray⟩) := hcc' 1 _ rfl
      have c2 : wr.cell? ⟨g', off' + i * 5 + 2, none⟩ = some (.int .i64 ty') := hcc' 2 _ rfl
      have c3 : wr.cell? ⟨g', off' + i * 5 + 3, none⟩ = some (.int .u64 b') := hcc' 3 _ rfl
      have c4 : wr.cell? ⟨g', off' + i * 5 + 4, none⟩ = some (.int .i64 (p' : Int)) := hcc' 4 _ rfl
      have g0 : g' < wr.heap.size := World.block_lt_of_cell? wr _ c0
      clear hc hc' hcc hcc' ht ht' hnn hnn'
      by_cases he : Tok.core ⟨k, x, ty, b, p⟩ = Tok.core ⟨k', x', ty', b', p'⟩
      · have ka := alike_walk k k' x x' ty ty' b b' p p' true (decide_eq_true he)
        have heH : Hidden (Tok.core ⟨k, x, ty, b, p⟩ = Tok.core ⟨k', x', ty', b', p'⟩) := he
        clear he
        go_wp2_with (go_at_call 29; refine (ka _).mono ?_; rintro e W2 ⟨rfl, f2⟩)
        go_roundg (n - (i + 1))
        case measure =>
          have : gk = n - i := hgkH
          omega
        case rel => exact ⟨i + 1, by go_num, by omega, core_step htH htH' heH hcoH, rfl, (hfr.same ((Fr.alloc _ _ _).same (Fr.alloc _ _ _))).same f2⟩
      · have ka := alike_walk k k' x x' ty ty' b b' p p' false (decide_eq_false he)
        have hne := core_at htH htH' he
        have hrr : Hidden (false = r) := by show _ = _; rw [← (show _ = r from hr)]; exact (decide_eq_false hne).symm
        clear he hne
        go_wp2_with (go_at_call 29; refine (ka _).mono ?_; rintro e W2 ⟨rfl, f2⟩)
        go_ret
        exact ⟨by cases (show false = r from hrr); rfl, (hfr.same ((Fr.alloc _ _ _).same (Fr.alloc _ _ _))).same f2⟩
    · obtain rfl : i = n := by omega
      have hrr : Hidden (true = r) := by
        show _ = _
        rw [← (show _ = r from hr)]
        have h := (show (ts.take i).map Tok.core = (ts'.take i).map Tok.core from hcoH)
        rw [List.take_of_length_le (by omega), List.take_of_length_le (by omega)] at h
        exact (decide_eq_true h).symm
      clear hnn hnn'
      go_wp2_with fail
      go_ret
      exact ⟨by cases (show true = r from hrr); rfl, hfr⟩
theorem eqf_len (v v' : Value) (ts ts' : List Tok) (hlen : ts.length ≠ ts'.length) (hn : ts.length ≤ 281474976710656) (w : World) (hv : Tk w v ts) (hv' : Tk w v' ts') :
    Calls Tryd.prog 28 #[v, v', .func (.func 29) #[] #[]] w fun e w' => e = .returned (.bool false) ∧ w' = w := by
  obtain ⟨ao, cap, rfl, hcap, hcm, _⟩ := hv
  obtain ⟨ao', cap', rfl, hcap', hcm', _⟩ := hv'
  have h1 : ((ts.length : Int) != (ts'.length : Int)) = true := by rw [bne_iff_ne]; omega
  clear hlen
  go_enter Tryd.func28, Tryd.ntmps28
  go_wp2_with fail
  go_ret
  exact ⟨rfl, rfl⟩
theorem same_any (v v' : Value) (ts ts' : List Tok) (r : Bool) (hr : decide (ts.map Tok.core = ts'.map Tok.core) = r) (hn : ts.length ≤ 281474976710656) (w : World) (hv : Tk w v ts) (hv' : Tk w v' ts') :
    Calls Tryd.prog 16 #[v, v'] w fun e w' => e = .returned (.bool r) ∧ Fr (fun _ => False) w w' := by
  have ke : Calls Tryd.prog 28 #[v, v', .func (.func 29) #[] #[]] w fun e w' => e = .returned (.bool r) ∧ Fr (fun _ => False) w w' := by
    by_cases hl : ts.length = ts'.length
    · exact eqf_walk v v' ts ts' r hr hl hn w hv hv'
    · have : r = false := by
        rw [← hr]
        refine decide_eq_false fun e => hl ?_
        have := congrArg List.length e
        simpa using this
      rw [this]
      exact (eqf_len v v' ts ts' hl hn w hv hv').mono fun e w' ⟨h1, h2⟩ => ⟨h1, by rw [h2]; exact Fr.refl _ _⟩
  obtain ⟨ao, cap, rfl, _⟩ := hv
  obtain ⟨ao', cap', rfl, _⟩ := hv'
  clear hr
  go_enter Tryd.func16, Tryd.ntmps16
  go_wp2_with (go_at_call 28; refine ke.mono ?_; rintro e W2 ⟨rfl, f2⟩)
  go_ret
  exact ⟨rfl, f2⟩
end Go.Proofs.YtdhiombagbiffaaDoor
