/- Tokens whose kind and place are any ints: rows of them, own, Join, Same. -/
import Derived.Test.YtdhiombagbiffaaDoorLxSame
import Derived.Test.YtdhiombagbiffaaDoorLxR9
namespace Go.Proofs.YtdhiombagbiffaaDoor.J
open Go.RowKit Lx
set_option linter.unusedSimpArgs false
set_option linter.unusedVariables false

structure Tok where
  k : Int
  x : By
  ty : Int
  b : Int
  p : Int
  deriving DecidableEq, Inhabited

def tokC (t : Tok) : List Value := [.int .i64 (t.k : Int), .string ⟨t.x.toArray⟩, .int .i64 t.ty, .int .u64 t.b, .int .i64 (t.p : Int)]
/-- A row of tokens of the call's own. -/
def Tr (w : World) (B : Nat) (e : TypeId) (v : Value) (ts : List Tok) : Prop := w.ownsRow B e 5 v ts.length (ts.flatMap tokC)
/-- Tokens that can be read at v. -/
def Tk (w : World) (v : Value) (ts : List Tok) : Prop :=
  ∃ ao cap, v = .slice ao ts.length cap ∧ ts.length ≤ cap ∧ cap ≤ maxLen ∧
    (ts = [] ∨ ∃ b off, ao = some ⟨b, off, none⟩ ∧ ∀ (i : Nat) (t : Tok), ts[i]? = some t → ∀ (j : Nat) (x : Value), (tokC t)[j]? = some x → w.cell? ⟨b, off + i * 5 + j, none⟩ = some x)
theorem flat_len (ts : List Tok) : (ts.flatMap tokC).length = ts.length * 5 := by
  induction ts with
  | nil => rfl
  | cons t ts ih => rw [List.flatMap_cons, List.length_append, ih, List.length_cons]; simp [tokC]; omega
theorem flat_get (ts : List Tok) (i : Nat) (t : Tok) (h : ts[i]? = some t) (j : Nat) (x : Value) (hj : (tokC t)[j]? = some x) : (ts.flatMap tokC)[i * 5 + j]? = some x := by
  induction ts generalizing i with
  | nil => simp at h
  | cons t' ts ih =>
    have hl : (tokC t').length = 5 := rfl
    have hj5 : j < 5 := (List.getElem?_eq_some_iff.1 hj).1
    rw [List.flatMap_cons]
    cases i with
    | zero =>
      have : t' = t := by simpa using h
      subst this
      rw [List.getElem?_append_left (by rw [hl]; omega)]
      simpa using hj
    | succ i =>
      rw [List.getElem?_append_right (by rw [hl]; omega), hl, show (i + 1) * 5 + j - 5 = i * 5 + j by omega]
      exact ih i (by simpa using h)
theorem Tr.nil (w : World) (B : Nat) (e : TypeId) : Tr w B e (.slice none 0 0) [] := World.ownsRow_nil w B e 5
theorem Tr.tk {w : World} {B : Nat} {e : TypeId} {v : Value} {ts : List Tok} (h : Tr w B e v ts) : Tk w v ts := by
  obtain ⟨h1, h2⟩ := h
  rcases h2 with ⟨rfl, h0⟩ | ⟨g, cap, cur, rfl, hb, hg, hnc, hcm, hcs, ht⟩
  · obtain rfl : ts = [] := List.eq_nil_of_length_eq_zero h0
    exact ⟨none, 0, rfl, by simp, by simp, Or.inl rfl⟩
  · refine ⟨some ⟨g, 0, none⟩, cap, rfl, hnc, hcm, Or.inr ⟨g, 0, rfl, fun i t hi j x hj => ?_⟩⟩
    have hf := flat_get ts i t hi j x hj
    rw [show (0 : Nat) + i * 5 + j = i * 5 + j by omega, cell_of_row w g _ cur e (0, 0) hg]
    rw [← ht, List.getElem?_take] at hf
    split at hf
    · simpa using hf
    · cases hf
theorem Tr.keep {S : Nat → Prop} {w w' : World} {B : Nat} {e : TypeId} {v : Value} {ts : List Tok} (h : Tr w B e v ts) (hf : Fr S w w') (hS : ∀ k, v.ownBlock = some k → ¬ S k) : Tr w' B e v ts := by
  obtain ⟨h1, h2⟩ := h
  refine ⟨h1, ?_⟩
  rcases h2 with h0 | ⟨g, cap, cur, rfl, hb, hg, hr⟩
  · exact Or.inl h0
  · exact Or.inr ⟨g, cap, cur, rfl, hb, hf.heap hg (hS g rfl), hr⟩
theorem Tk.keep {S : Nat → Prop} {w w' : World} {v : Value} {ts : List Tok} (h : Tk w v ts) (hf : Fr S w w') (hS : ∀ k, v.ownBlock = some k → ¬ S k) : Tk w' v ts := by
  obtain ⟨ao, cap, rfl, h1, h2, h3⟩ := h
  refine ⟨ao, cap, rfl, h1, h2, ?_⟩
  rcases h3 with h0 | ⟨b, off, rfl, hc⟩
  · exact Or.inl h0
  · exact Or.inr ⟨b, off, rfl, fun i t hi j x hj => hf.cell (hc i t hi j x hj) (hS b rfl)⟩
theorem Tk.keepN {w w' : World} {v : Value} {ts : List Tok} (h : Tk w v ts) (hf : Fr (fun _ => False) w w') : Tk w' v ts := h.keep hf (fun _ _ f => f)
theorem Tr.keepN {w w' : World} {B : Nat} {e : TypeId} {v : Value} {ts : List Tok} (h : Tr w B e v ts) (hf : Fr (fun _ => False) w w') : Tr w' B e v ts := h.keep hf (fun _ _ f => f)
theorem tok_arr (t : Tok) (i : Nat) (u : Value) (h : (tokC t)[i]? = some u) : (#[.int .i64 (t.k : Int), .string ⟨t.x.toArray⟩, .int .i64 t.ty, .int .u64 t.b, .int .i64 (t.p : Int)] : Array Value)[i]? = some u := by
  have : (tokC t).toArray[i]? = some u := by simpa using h
  exact this
theorem one_all (t : Tok) : ∀ u ∈ tokC t, u.oneCell' = true := by
  intro u hu
  simp only [tokC, List.mem_cons, List.not_mem_nil, or_false] at hu
  rcases hu with rfl | rfl | rfl | rfl | rfl <;> rfl
theorem Tr.low {w : World} {B : Nat} {e : TypeId} {v : Value} {ts : List Tok} (h : Tr w B e v ts) : ∀ k, v.ownBlock = some k → B ≤ k := fun k hk => (World.ownsRow.lt h k hk).1
theorem Tr.high {w : World} {B : Nat} {e : TypeId} {v : Value} {ts : List Tok} (h : Tr w B e v ts) : ∀ k, v.ownBlock = some k → k < w.heap.size := fun k hk => (World.ownsRow.lt h k hk).2
theorem Tr.len {w : World} {B : Nat} {e : TypeId} {v : Value} {ts : List Tok} (h : Tr w B e v ts) : ∃ ao cap, v = .slice ao ts.length cap := by
  obtain ⟨h1, h2⟩ := h
  rcases h2 with ⟨rfl, h0⟩ | ⟨g, cap, cur, rfl, _⟩
  · exact ⟨none, 0, by rw [h0]⟩
  · exact ⟨_, _, rfl⟩
def Tok.core (t : Tok) : Int × By × Int × Int := (t.k, t.x, t.ty, t.b)
def joinS : List Tok → By
  | [] => []
  | [t] => t.x
  | t :: t' :: ts => t.x ++ 32 :: joinS (t' :: ts)
def tailJ (l : List Tok) : By := l.flatMap fun t => 32 :: t.x
theorem joinS_cons (t : Tok) (ts : List Tok) : joinS (t :: ts) = t.x ++ tailJ ts := by
  induction ts generalizing t with
  | nil => simp [joinS, tailJ]
  | cons t' ts ih =>
    show t.x ++ 32 :: joinS (t' :: ts) = _
    rw [ih]
    simp [tailJ]
set_option maxRecDepth 20000 in
set_option maxHeartbeats 1000000 in
theorem join_walk (v : Value) (ts : List Tok) (J : By) (hJ : Hidden (joinS ts = J)) (hl : J.length ≤ 140737488355328) (hn : ts.length ≤ 281474976710656) (w : World) (hv : Tk w v ts) :
    Calls Tryd.prog 13 #[v] w fun e w' => e = .returned (.string ⟨J.toArray⟩) ∧ Fr (fun _ => False) w w' := by
  have hvH : Hidden (Tk w v ts) := hv
  obtain ⟨ao, cap, rfl, hcap, hcm, _⟩ := hv
  have hb0 : Hidden (Bld w.heap.size w.heap.size [] (w.alloc (.cells #[.pointer none, .slice none 0 0] 55 (0, 0)))) :=
    Or.inl ⟨Nat.le_refl _, _, alloc_new _ _, World.ownsRow_nil _ _ _ _, by simp [Value.ownBlock]⟩
  go_enter Tryd.func13, Tryd.ntmps13
  go_wp2_with fail
  go_loopg [8] ts.length (fun k iv wr => ∃ (i : Nat) (acc : By), iv = .int .i64 (i : Int) ∧ i ≤ ts.length ∧ Bld w.heap.size w.heap.size acc wr ∧ ((i = 0 ∧ acc = []) ∨ (0 < i ∧ acc ++ tailJ (ts.drop i) = J)) ∧ k = ts.length - i ∧ Fr (fun _ => False) w wr)
  case atStart => exact ⟨0, [], rfl, by omega, hb0, Or.inl ⟨rfl, rfl⟩, rfl, Fr.alloc _ _ _⟩
  case round =>
    obtain ⟨i, acc, rfl, hi, hbd, hac, hgk, hfr⟩ := hrel
    have hgkH : Hidden (gk = ts.length - i) := hgk
    have hsz := hfr.size
    clear hgk hb0
    by_cases hil : i < ts.length
    · obtain ⟨t, ht⟩ : ∃ t, ts[i]? = some t := ⟨ts[i], List.getElem?_eq_getElem hil⟩
      obtain ⟨ao', cap', hv', _, _, h3⟩ := (show Tk w _ ts from hvH).keepN hfr
      simp only [Value.slice.injEq, true_and] at hv'
      obtain ⟨rfl, rfl⟩ := hv'
      rcases h3 with h3 | ⟨g, off, rfl, hc⟩
      · rw [h3] at hil; simp at hil
      have hdr := drop_at ht
      have hcc := hc i t ht
      obtain ⟨k, x, ty, b, p⟩ := t
      have d0 : wr.cell? ⟨g, off + i * 5, none⟩ = some (.int .i64 (k : Int)) := hcc 0 _ rfl
      have d1 : wr.cell? ⟨g, off + i * 5 + 1, none⟩ = some (.string ⟨x.toArray⟩) := hcc 1 _ rfl
      have d2 : wr.cell? ⟨g, off + i * 5 + 2, none⟩ = some (.int .i64 ty) := hcc 2 _ rfl
      have d3 : wr.cell? ⟨g, off + i * 5 + 3, none⟩ = some (.int .u64 b) := hcc 3 _ rfl
      have d4 : wr.cell? ⟨g, off + i * 5 + 4, none⟩ = some (.int .i64 (p : Int)) := hcc 4 _ rfl
      clear hc hcc ht
      have ha0 : Hidden ((wr.alloc (.cells #[.int .i64 (k : Int), .string ⟨x.toArray⟩, .int .i64 ty, .int .u64 b, .int .i64 (p : Int)] 45 (0, 0))).heap[wr.heap.size]? = some (.cells #[.int .i64 (k : Int), .string ⟨x.toArray⟩, .int .i64 ty, .int .u64 b, .int .i64 (p : Int)] 45 (0, 0))) := alloc_new _ _
      have e1 : (wr.alloc (.cells #[.int .i64 (k : Int), .string ⟨x.toArray⟩, .int .i64 ty, .int .u64 b, .int .i64 (p : Int)] 45 (0, 0))).cell? ⟨wr.heap.size, 1, none⟩ = some (.string ⟨x.toArray⟩) := cell_of_row _ _ 1 _ _ _ (alloc_new _ _)
      have hbd1 := hbd.alloc (.cells #[.int .i64 (k : Int), .string ⟨x.toArray⟩, .int .i64 ty, .int .u64 b, .int .i64 (p : Int)] 45 (0, 0))
      rcases hac with ⟨rfl, rfl⟩ | ⟨h0, hacc⟩
      · have hj : Hidden (x ++ tailJ (ts.drop 1) = J) := by
          show _ = _
          rw [← (show joinS ts = J from hJ)]
          have : ts = ⟨k, x, ty, b, p⟩ :: ts.drop 1 := by simpa using hdr
          rw [this, joinS_cons]
          simp
        have hxl : x.length ≤ J.length := by rw [← (show _ = J from hj), List.length_append]; omega
        have kw := wstr_any w.heap.size w.heap.size [] x _ hbd1 (by simp; omega) (by simp; omega)
        clear hdr hJ
        simp only [Nat.zero_mul, Nat.add_zero] at d0 d1 d2 d3 d4
        go_wp2_with (go_at_call 26; refine kw.mono ?_; rintro e W2 ⟨rfl, hb2, f2⟩)
        go_roundg (ts.length - 1)
        case measure =>
          have : gk = ts.length - 0 := hgkH
          omega
        case rel =>
          exact ⟨1, x, by go_num, by omega, Or.inr hb2, Or.inr ⟨by omega, hj⟩, rfl, bs_over (hfr.same (Fr.alloc _ _ _)) f2 (Nat.le_refl _) (Nat.le_refl _)⟩
      · have hj : Hidden (acc ++ [32] ++ x ++ tailJ (ts.drop (i + 1)) = J) := by
          show _ = _
          rw [← hacc, hdr]
          simp [tailJ]
        have hxl : acc.length + 1 + x.length ≤ J.length := by rw [← (show _ = J from hj)]; simp only [List.length_append, List.length_cons, List.length_nil]; omega
        have kb := wbyte_any w.heap.size w.heap.size acc 32 _ hbd1 (by omega) (by simp; omega)
        have kw : ∀ W, Bld w.heap.size w.heap.size (acc ++ [32]) W → w.heap.size ≤ W.heap.size → _ := fun W hb hs => wstr_any w.heap.size w.heap.size (acc ++ [32]) x W hb (by rw [List.length_append]; simp; omega) hs
        have hpos : decide (0 < (i : Int)) = true := by simp; omega
        clear hdr hJ hacc
        go_wp2_with (first
          | (go_at_call 25; refine kb.mono ?_; rintro e W2 ⟨rfl, hb2, f2⟩
             have ha2 : Hidden (W2.heap[wr.heap.size]? = some (.cells #[.int .i64 (k : Int), .string ⟨x.toArray⟩, .int .i64 ty, .int .u64 b, .int .i64 (p : Int)] 45 (0, 0))) := f2.heap ha0 (fun h => by
               rcases h with h | ⟨_, cur, fr, h⟩
               · have := hbd.lt; omega
               · rw [show _ = _ from ha0] at h; simp at h)
             have e2 : W2.cell? ⟨wr.heap.size, 1, none⟩ = some (.string ⟨x.toArray⟩) := cell_of_row _ _ 1 _ _ _ ha2)
          | (go_at_call 26; refine (kw _ (Or.inr hb2) (by have := f2.size; simp at this; omega)).mono ?_; rintro e W3 ⟨rfl, hb3, f3⟩))
        go_roundg (ts.length - (i + 1))
        case measure =>
          have : gk = ts.length - i := hgkH
          omega
        case rel =>
          exact ⟨i + 1, acc ++ [32] ++ x, by go_num, by omega, Or.inr hb3, Or.inr ⟨by omega, hj⟩, rfl, bs_over (bs_over (hfr.same (Fr.alloc _ _ _)) f2 (Nat.le_refl _) (Nat.le_refl _)) f3 (Nat.le_refl _) (Nat.le_refl _)⟩
    · obtain rfl : i = ts.length := by omega
      have hJ2 : acc = J := by
        rcases hac with ⟨h0, rfl⟩ | ⟨h0, h1⟩
        · have : ts = [] := List.eq_nil_of_length_eq_zero h0
          rw [← (show joinS ts = J from hJ), this]
          rfl
        · rw [List.drop_length] at h1
          simpa [tailJ] using h1
      subst hJ2
      have ks := Tryd.Builder_String_any w.heap.size w.heap.size acc wr hbd hsz
      clear hac hJ
      go_wp2_with (go_at_call 27; refine ks.mono ?_; rintro e W2 ⟨rfl, hb2⟩)
      go_ret
      exact ⟨rfl, hfr.over (fr_below (S := fun k => w.heap.size ≤ k) hb2 (fun k h => h)) (fun k h => h)⟩
theorem join_len (ts : List Tok) : (joinS ts).length ≤ (ts.map fun t => t.x.length + 1).sum := by
  cases ts with
  | nil => simp [joinS]
  | cons t ts =>
    rw [joinS_cons, List.length_append, List.map_cons, List.sum_cons]
    have : (tailJ ts).length = (ts.map fun t => t.x.length + 1).sum := by
      simp [tailJ, List.length_flatMap]
    omega
set_option maxRecDepth 20000 in
set_option maxHeartbeats 1000000 in
theorem alike_walk (k k' : Int) (x x' : By) (t t' b b' : Int) (p p' : Int) (r : Bool) (hr : Hidden (decide (Tok.core ⟨k, x, t, b, p⟩ = Tok.core ⟨k', x', t', b', p'⟩) = r)) (w : World) :
    Calls Tryd.prog 29 #[.agg #[.int .i64 (k : Int), .string ⟨x.toArray⟩, .int .i64 t, .int .u64 b, .int .i64 (p : Int)], .agg #[.int .i64 (k' : Int), .string ⟨x'.toArray⟩, .int .i64 t', .int .u64 b', .int .i64 (p' : Int)]] w
      fun e w' => e = .returned (.bool r) ∧ Fr (fun _ => False) w w' := by
  go_enter Tryd.func29, Tryd.ntmps29
  go_wp2_with fail
  all_goals
    go_ret
    refine ⟨?_, (Fr.alloc _ _ _).same (Fr.alloc _ _ _)⟩
    rw [← (show _ = r from hr)]
    clear hr
    refine ret_bool ?_
    simp only [Tok.core, decide_eq_true_eq, Prod.mk.injEq]
    (try simp only [Int.natCast_inj] at *)
    simp [*]
theorem core_at {ts ts' : List Tok} {i : Nat} {t t' : Tok} (h1 : ts[i]? = some t) (h2 : ts'[i]? = some t') (hne : Tok.core t ≠ Tok.core t') : ts.map Tok.core ≠ ts'.map Tok.core := by
  intro e
  have := congrArg (fun l => l[i]?) e
  simp only [List.getElem?_map, h1, h2, Option.map_some, Option.some.injEq] at this
  exact hne this
theorem core_step {ts ts' : List Tok} {i : Nat} {t t' : Tok} (h1 : ts[i]? = some t) (h2 : ts'[i]? = some t') (he : Tok.core t = Tok.core t') (h : (ts.take i).map Tok.core = (ts'.take i).map Tok.core) : (ts.take (i + 1)).map Tok.core = (ts'.take (i + 1)).map Tok.core := by
  rw [List.take_add_one, List.take_add_one, h1, h2, List.map_append, List.map_append, h]
  simp [he]
set_option maxRecDepth 20000 in
set_option maxHeartbeats 1000000 in
theorem eqf_walk (v v' : Value) (ts ts' : List Tok) (r : Bool) (hr : Hidden (decide (ts.map Tok.core = ts'.map Tok.core) = r)) (hlen : Hidden (ts.length = ts'.length)) (hn : ts.length ≤ 281474976710656) (w : World) (hv : Tk w v ts) (hv' : Tk w v' ts') :
    Calls Tryd.prog 28 #[v, v', .func (.func 29) #[] #[]] w fun e w' => e = .returned (.bool r) ∧ Fr (fun _ => False) w w' := by
  have hvH : Hidden (Tk w v ts) := hv
  have hvH' : Hidden (Tk w v' ts') := hv'
  obtain ⟨ao, cap, rfl, hcap, hcm, _⟩ := hv
  obtain ⟨ao', cap', rfl, hcap', hcm', _⟩ := hv'
  have hl0 : Hidden (ts.length = ts'.length) := hlen
  obtain ⟨n, hnn⟩ : ∃ n, ts.length = n := ⟨_, rfl⟩
  have hnn' : ts'.length = n := by rw [← hnn]; exact (show ts.length = ts'.length from hlen).symm
  rw [hnn] at hcap hn
  rw [hnn'] at hcap'
  rw [hnn, hnn']
  have hnH : Hidden (ts.length = n) := hnn
  have hnH' : Hidden (ts'.length = n) := hnn'
  clear hnn hnn' hlen
  go_enter Tryd.func28, Tryd.ntmps28
  go_wp2_with fail
  go_loopg [17] n (fun k iv wr => ∃ (i : Nat), iv = .int .i64 (i : Int) ∧ i ≤ n ∧ (ts.take i).map Tok.core = (ts'.take i).map Tok.core ∧ k = n - i ∧ Fr (fun _ => False) w wr)
  case atStart => exact ⟨0, rfl, by omega, by simp, rfl, Fr.refl _ _⟩
  case round =>
    obtain ⟨i, rfl, hi, hco, hgk, hfr⟩ := hrel
    have hgkH : Hidden (gk = n - i) := hgk
    have hcoH : Hidden ((ts.take i).map Tok.core = (ts'.take i).map Tok.core) := hco
    clear hgk hco
    have hnn : ts.length = n := hnH
    have hnn' : ts'.length = n := hnH'
    by_cases hil : i < n
    · obtain ⟨t, ht⟩ : ∃ t, ts[i]? = some t := ⟨ts[i]'(by omega), List.getElem?_eq_getElem (by omega)⟩
      obtain ⟨t', ht'⟩ : ∃ t', ts'[i]? = some t' := ⟨ts'[i]'(by omega), List.getElem?_eq_getElem (by omega)⟩
      obtain ⟨_, _, hv1, _, _, h3⟩ := (show Tk w _ ts from hvH).keepN hfr
      obtain ⟨_, _, hv1', _, _, h3'⟩ := (show Tk w _ ts' from hvH').keepN hfr
      rw [hnn] at hv1
      rw [hnn'] at hv1'
      simp only [Value.slice.injEq, true_and] at hv1 hv1'
      obtain ⟨rfl, rfl⟩ := hv1
      obtain ⟨rfl, rfl⟩ := hv1'
      rcases h3 with h3 | ⟨g, off, rfl, hc⟩
      · rw [h3] at ht; simp at ht
      rcases h3' with h3' | ⟨g', off', rfl, hc'⟩
      · rw [h3'] at ht'; simp at ht'
      have hcc := hc i t ht
      have hcc' := hc' i t' ht'
      have htH : Hidden (ts[i]? = some t) := ht
      have htH' : Hidden (ts'[i]? = some t') := ht'
      obtain ⟨k, x, ty, b, p⟩ := t
      obtain ⟨k', x', ty', b', p'⟩ := t'
      have d0 : wr.cell? ⟨g, off + i * 5, none⟩ = some (.int .i64 (k : Int)) := hcc 0 _ rfl
      have d1 : wr.cell? ⟨g, off + i * 5 + 1, none⟩ = some (.string ⟨x.toArray⟩) := hcc 1 _ rfl
      have d2 : wr.cell? ⟨g, off + i * 5 + 2, none⟩ = some (.int .i64 ty) := hcc 2 _ rfl
      have d3 : wr.cell? ⟨g, off + i * 5 + 3, none⟩ = some (.int .u64 b) := hcc 3 _ rfl
      have d4 : wr.cell? ⟨g, off + i * 5 + 4, none⟩ = some (.int .i64 (p : Int)) := hcc 4 _ rfl
      have c0 : wr.cell? ⟨g', off' + i * 5, none⟩ = some (.int .i64 (k' : Int)) := hcc' 0 _ rfl
      have c1 : wr.cell? ⟨g', off' + i * 5 + 1, none⟩ = some (.string ⟨x'.toArray⟩) := hcc' 1 _ rfl
      have c2 : wr.cell? ⟨g', off' + i * 5 + 2, none⟩ = some (.int .i64 ty') := hcc' 2 _ rfl
      have c3 : wr.cell? ⟨g', off' + i * 5 + 3, none⟩ = some (.int .u64 b') := hcc' 3 _ rfl
      have c4 : wr.cell? ⟨g', off' + i * 5 + 4, none⟩ = some (.int .i64 (p' : Int)) := hcc' 4 _ rfl
      have g0 : g' < wr.heap.size := World.block_lt_of_cell? wr _ c0
      clear hc hc' hcc hcc' ht ht' hnn hnn'
      by_cases he : Tok.core ⟨k, x, ty, b, p⟩ = Tok.core ⟨k', x', ty', b', p'⟩
      · have ka := alike_walk k k' x x' ty ty' b b' p p' true (decide_eq_true he)
        have heH : Hidden (Tok.core ⟨k, x, ty, b, p⟩ = Tok.core ⟨k', x', ty', b', p'⟩) := he
        clear he
        go_wp2_with (go_at_call 29; refine (ka _).mono ?_; rintro e W2 ⟨rfl, f2⟩)
        go_roundg (n - (i + 1))
        case measure =>
          have : gk = n - i := hgkH
          omega
        case rel => exact ⟨i + 1, by go_num, by omega, core_step htH htH' heH hcoH, rfl, (hfr.same ((Fr.alloc _ _ _).same (Fr.alloc _ _ _))).same f2⟩
      · have ka := alike_walk k k' x x' ty ty' b b' p p' false (decide_eq_false he)
        have hne := core_at htH htH' he
        have hrr : Hidden (false = r) := by show _ = _; rw [← (show _ = r from hr)]; exact (decide_eq_false hne).symm
        clear he hne
        go_wp2_with (go_at_call 29; refine (ka _).mono ?_; rintro e W2 ⟨rfl, f2⟩)
        go_ret
        exact ⟨by cases (show false = r from hrr); rfl, (hfr.same ((Fr.alloc _ _ _).same (Fr.alloc _ _ _))).same f2⟩
    · obtain rfl : i = n := by omega
      have hrr : Hidden (true = r) := by
        show _ = _
        rw [← (show _ = r from hr)]
        have h := (show (ts.take i).map Tok.core = (ts'.take i).map Tok.core from hcoH)
        rw [List.take_of_length_le (by omega), List.take_of_length_le (by omega)] at h
        exact (decide_eq_true h).symm
      clear hnn hnn'
      go_wp2_with fail
      go_ret
      exact ⟨by cases (show true = r from hrr); rfl, hfr⟩
theorem eqf_len (v v' : Value) (ts ts' : List Tok) (hlen : ts.length ≠ ts'.length) (hn : ts.length ≤ 281474976710656) (w : World) (hv : Tk w v ts) (hv' : Tk w v' ts') :
    Calls Tryd.prog 28 #[v, v', .func (.func 29) #[] #[]] w fun e w' => e = .returned (.bool false) ∧ w' = w := by
  obtain ⟨ao, cap, rfl, hcap, hcm, _⟩ := hv
  obtain ⟨ao', cap', rfl, hcap', hcm', _⟩ := hv'
  have h1 : ((ts.length : Int) != (ts'.length : Int)) = true := by rw [bne_iff_ne]; omega
  clear hlen
  go_enter Tryd.func28, Tryd.ntmps28
  go_wp2_with fail
  go_ret
  exact ⟨rfl, rfl⟩
theorem same_any (v v' : Value) (ts ts' : List Tok) (r : Bool) (hr : decide (ts.map Tok.core = ts'.map Tok.core) = r) (hn : ts.length ≤ 281474976710656) (w : World) (hv : Tk w v ts) (hv' : Tk w v' ts') :
    Calls Tryd.prog 16 #[v, v'] w fun e w' => e = .returned (.bool r) ∧ Fr (fun _ => False) w w' := by
  have ke : Calls Tryd.prog 28 #[v, v', .func (.func 29) #[] #[]] w fun e w' => e = .returned (.bool r) ∧ Fr (fun _ => False) w w' := by
    by_cases hl : ts.length = ts'.length
    · exact eqf_walk v v' ts ts' r hr hl hn w hv hv'
    · have : r = false := by
        rw [← hr]
        refine decide_eq_false fun e => hl ?_
        have := congrArg List.length e
        simpa using this
      rw [this]
      exact (eqf_len v v' ts ts' hl hn w hv hv').mono fun e w' ⟨h1, h2⟩ => ⟨h1, by rw [h2]; exact Fr.refl _ _⟩
  obtain ⟨ao, cap, rfl, _⟩ := hv
  obtain ⟨ao', cap', rfl, _⟩ := hv'
  clear hr
  go_enter Tryd.func16, Tryd.ntmps16
  go_wp2_with (go_at_call 28; refine ke.mono ?_; rintro e W2 ⟨rfl, f2⟩)
  go_ret
  exact ⟨rfl, f2⟩
/-- append of one token, as a step of a region whose order is drawn. -/
theorem step_tok {w : World} {ops : Array Oper} {o : Oper} {a : Act} {K : Act → World → Prop} {Q : Exit → Act → World → Prop} {E : Prop} (hgd : o.guard = none) (s x : Operand) (ty e : TypeId)
    (hty : Tryd.prog.underlying ty = some (.slice e)) (hinfo : (Tryd.prog.info? e).map (fun i => (i.zero, i.size, i.bytes)) = some (some (.agg #[.int .i64 0, .string ⟨#[]⟩, .int .i64 0, .int .u64 0, .int .i64 0]), 5, 48))
    (ho : o.op = .call { callee := .builtin .append, args := #[s, x], argTypes := #[ty, ty] }) (B : Nat) (v : Value) (ts : List Tok) (t : Tok) (g c : Nat)
    (hs : a.eval s = v) (hr : Tr w B e v ts) (hx : a.eval x = .slice (some ⟨g, 0, none⟩) 1 c) (hc : ∀ (j : Nat) (u : Value), (tokC t)[j]? = some u → w.cell? ⟨g, j, none⟩ = some u)
    (hb : ((ts.length + 1) + (ts.length + 1) / 4 + 192) * 48 ≤ 281474976710656) (hB : B ≤ w.heap.size)
    (h : ∀ v' w', Tr w' B e v' (ts ++ [t]) → Fr (fun k => v.ownBlock = some k) w w' → K (a.put o.dst v') w') : if Region.wanted o (yielded ops a.tmps) = true then Oper.wp Tryd.prog o a w K Q else E := by
  have hw : Region.wanted o (yielded ops a.tmps) = true := by simp [Region.wanted, hgd]
  rw [if_pos hw]
  cases hi : Tryd.prog.info? e with
  | none => rw [hi] at hinfo; cases hinfo
  | some i =>
    rw [hi] at hinfo
    simp only [Option.map_some, Option.some.injEq, Prod.mk.injEq] at hinfo
    refine wp_append_own_wide w s x ty ho B e i _ 5 48 hty hi hinfo.1 hinfo.2.1 hinfo.2.2 rfl (by decide) v ts.length (ts.flatMap tokC) hs hr ⟨g, 0, none⟩ 1 c (tokC t) hx rfl ?_ (one_all t) (by simp only [maxLen]; omega) hb hB ?_
    · intro j u hu
      have := hc j u hu
      cases j <;> simpa [Addr.add] using this
    · intro v' w' h2 h3 _
      refine h v' w' ?_ ((Fr.grown h3).mono (fun k _ hk => hk.symm))
      show w'.ownsRow B e 5 v' (ts ++ [t]).length ((ts ++ [t]).flatMap tokC)
      rw [List.length_append, List.flatMap_append]
      simpa using h2
theorem own_same {ao : Option Addr} {n m c d g : Nat} (h : (Value.slice ao n c).ownBlock = some g) : (Value.slice ao m d).ownBlock = some g := by
  cases ao with
  | none => simp [Value.ownBlock] at h
  | some a => simpa [Value.ownBlock] using h
theorem take_tok {ts : List Tok} {i : Nat} {t : Tok} (h : ts[i]? = some t) : ts.take (i + 1) = ts.take i ++ [t] := by
  rw [List.take_add_one, h]
  rfl
set_option maxRecDepth 20000 in
set_option maxHeartbeats 2000000 in
theorem own_walk (v : Value) (ts : List Tok) (hn : ts.length ≤ 1048576) (w : World) (hv : Tk w v ts) :
    Calls Tryd.prog 14 #[v] w fun e w' => ∃ v', e = .returned v' ∧ Tr w' w.heap.size 45 v' ts ∧ Fr (fun _ => False) w w' := by
  have hvH : Hidden (Tk w v ts) := hv
  obtain ⟨ao, cap, rfl, hcap, hcm, _⟩ := hv
  go_enter Tryd.func14, Tryd.ntmps14
  go_wp2_with fail
  go_loopg [3, 4] ts.length (fun k lv iv wr => ∃ (i : Nat), iv = .int .i64 (i : Int) ∧ i ≤ ts.length ∧ Tr wr w.heap.size 45 lv (ts.take i) ∧ k = ts.length - i ∧ Fr (fun _ => False) w wr)
  case atStart => exact ⟨0, rfl, by omega, Tr.nil _ _ _, rfl, Fr.refl _ _⟩
  case round =>
    obtain ⟨i, rfl, hi, hrow, hgk, hfr⟩ := hrel
    have hgkH : Hidden (gk = ts.length - i) := hgk
    clear hgk
    obtain ⟨ao2, cap2, rfl⟩ := hrow.len
    have hrowH : Hidden (Tr wr w.heap.size 45 (.slice ao2 (ts.take i).length cap2) (ts.take i)) := hrow
    have htl : (ts.take i).length = i := by rw [List.length_take]; omega
    have hfz := hfr.size
    clear hrow
    rw [htl]
    by_cases hil : i < ts.length
    · obtain ⟨t, ht⟩ : ∃ t, ts[i]? = some t := ⟨ts[i], List.getElem?_eq_getElem hil⟩
      obtain ⟨_, _, hv1, _, _, h3⟩ := (show Tk w _ ts from hvH).keepN hfr
      simp only [Value.slice.injEq, true_and] at hv1
      obtain ⟨rfl, rfl⟩ := hv1
      rcases h3 with h3 | ⟨g, off, rfl, hc⟩
      · rw [h3] at ht; simp at ht
      have hcc := hc i t ht
      have htH : Hidden (ts[i]? = some t) := ht
      obtain ⟨k, x, ty, b, p⟩ := t
      have d0 : wr.cell? ⟨g, off + i * 5, none⟩ = some (.int .i64 (k : Int)) := hcc 0 _ rfl
      have d1 : wr.cell? ⟨g, off + i * 5 + 1, none⟩ = some (.string ⟨x.toArray⟩) := hcc 1 _ rfl
      have d2 : wr.cell? ⟨g, off + i * 5 + 2, none⟩ = some (.int .i64 ty) := hcc 2 _ rfl
      have d3 : wr.cell? ⟨g, off + i * 5 + 3, none⟩ = some (.int .u64 b) := hcc 3 _ rfl
      have d4 : wr.cell? ⟨g, off + i * 5 + 4, none⟩ = some (.int .i64 (p : Int)) := hcc 4 _ rfl
      have hgw : g < w.heap.size := by
        obtain ⟨_, _, hv2, _, _, h4⟩ := (show Tk w _ ts from hvH)
        simp only [Value.slice.injEq, true_and] at hv2
        rcases h4 with h4 | ⟨g', off', hgo, hc'⟩
        · rw [h4] at ht; simp at ht
        · rw [hgo] at hv2
          simp only [Option.some.injEq, Addr.mk.injEq, and_true] at hv2
          obtain ⟨⟨rfl, rfl⟩, _⟩ := hv2
          exact World.block_lt_of_cell? w _ (hc' i _ ht 0 _ rfl)
      have hgn : ∀ cp, ¬ (Value.slice ao2 i cp).ownBlock = some g := fun cp h => by
        have h1 := (show Tr wr w.heap.size 45 (.slice ao2 (ts.take i).length cap2) (ts.take i) from hrowH).low g (own_same h)
        omega
      clear hc hcc ht
      go_wp2_with fail
      go_region_held3 (fun w' => w'.cell? ⟨g, off + i * 5, none⟩ = some (.int .i64 (k : Int)) ∧ w'.cell? ⟨g, off + i * 5 + 1, none⟩ = some (.string ⟨x.toArray⟩) ∧ w'.cell? ⟨g, off + i * 5 + 2, none⟩ = some (.int .i64 ty) ∧ w'.cell? ⟨g, off + i * 5 + 3, none⟩ = some (.int .u64 b) ∧ w'.cell? ⟨g, off + i * 5 + 4, none⟩ = some (.int .i64 (p : Int))) (go_keep) (first
        | (refine step_tok rfl _ _ 22 45 Tryd.underlying22 info_tok3 rfl w.heap.size (.slice ao2 i cap2) (ts.take i) ⟨k, x, ty, b, p⟩ wr.heap.size 1 rfl ?c0 rfl ?c1 ?c2 ?c3 ?_
           case c0 => exact ((show Tr wr w.heap.size 45 (.slice ao2 i cap2) (ts.take i) by have h := hrowH; rw [htl] at h; exact h).keepN (Fr.alloc _ _ _)).keepN (Fr.drew _ _)
           case c1 => exact fun i u hu => (cell_of_row (wr.alloc _) _ i _ _ _ (alloc_new _ _)).trans (tok_arr ⟨k, x, ty, b, p⟩ i u hu)
           case c2 => rw [htl]; omega
           case c3 => simp; omega
           intro v2 W2 hrow2 f2
           have kp : ∀ (m : Nat) (u : Value), wr.cell? ⟨g, m, none⟩ = some u → W2.cell? ⟨g, m, none⟩ = some u := fun m u hu => f2.cell (((Fr.alloc (fun _ => False) wr _).same (Fr.drew _ _)).cellN hu) (hgn _)
           have q0 := kp _ _ d0
           have q1 := kp _ _ d1
           have q2 := kp _ _ d2
           have q3 := kp _ _ d3
           have q4 := kp _ _ d4
           clear kp))
      go_wp2_with fail
      go_roundg (ts.length - (i + 1))
      case measure =>
        have : gk = ts.length - i := hgkH
        omega
      case rel =>
        refine ⟨i + 1, by go_num, by omega, by rw [take_tok htH]; exact hrow2, rfl, ?_⟩
        refine ((hfr.same (Fr.alloc _ _ _)).same (Fr.drew _ _)).over f2 (fun k hk => ?_)
        exact (show Tr wr w.heap.size 45 (.slice ao2 (ts.take i).length cap2) (ts.take i) from hrowH).low k (own_same hk)
    · obtain rfl : i = ts.length := by omega
      have hro := hrowH
      rw [Hidden, htl, List.take_length] at hro
      go_wp2_with fail
      go_ret
      exact ⟨_, rfl, hro, hfr⟩
end Go.Proofs.YtdhiombagbiffaaDoor.J
