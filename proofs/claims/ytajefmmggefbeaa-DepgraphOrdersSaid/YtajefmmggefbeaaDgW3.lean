/- The document's Over, within, far. -/
import Derived.Test.YtajefmmggefbeaaDgW2
namespace Go.Proofs.Ytajefmmggefbeaa.Dg
open Go.RowKit Go.Sort
set_option linter.unusedSimpArgs false
set_option linter.unusedVariables false

/-- Does a node lead to one of the names, or is it one? -/
noncomputable def ovB (g : Gr) (ns : List Str) (x : Str) : Bool := @decide (x ∈ ns ∨ ∃ y ∈ ns, Reach g x y) (Classical.propDecidable _)
theorem ov_is {g : Gr} (hg : g.WF) (ns : List Str) : IsOver g ns (g.ks.filter (ovB g ns)) := by
  refine ⟨ss_filter hg.ks _, fun x => ?_⟩
  rw [List.mem_filter]
  simp [ovB]
theorem ov_any {g : Gr} {ns : List Str} {x : Str} {l : List Str} (h : IsUnder g x l) : (decide (x ∈ ns) || l.any fun y => decide (y ∈ ns)) = ovB g ns x := by
  unfold ovB
  rw [Bool.eq_iff_iff]
  simp only [Bool.or_eq_true, decide_eq_true_eq, List.any_eq_true]
  constructor
  · rintro (h1 | ⟨y, h1, h2⟩)
    · exact Or.inl h1
    · exact Or.inr ⟨y, h2, (h.2 y).1 h1⟩
  · rintro (h1 | ⟨y, h1, h2⟩)
    · exact Or.inl h1
    · exact Or.inr ⟨y, (h.2 y).2 h2, h1⟩
theorem any_snoc {l : List Str} {k : Nat} {y : Str} (h : l[k]? = some y) (f : Str → Bool) : (l.take (k + 1)).any f = ((l.take k).any f || f y) := by
  rw [take_snoc h, List.any_append]; simp
set_option maxRecDepth 20000 in
set_option maxHeartbeats 4000000 in
theorem rover_any (p : Value) (g : Gr) (vn : Value) (ns : List Str) (w : World) (h : Rg w p g) (hnm : Tl w vn ns) :
    Calls Try.prog 18 #[p, vn] w fun e w' => (∃ l, Ret w.heap.size l e w' ∧ IsOver g ns l) ∧ Fr (fun _ => False) w w' := by
  have hH : Hidden (Rg w p g) := h
  have hnH : Hidden (Tl w vn ns) := hnm
  obtain ⟨B, ao, cap, rfl, cB, hrow⟩ := h.cell
  have hsm := h.small
  have hrowH : Hidden (RL w ao cap g) := hrow
  have hc1 := hrow.1
  have hc2 := hrow.2.1
  clear h hrow hnm
  go_enter Try.func18, Try.ntmps18
  go_wp2
  go_loopg [5, 6] g.ks.length (fun k uv iv wr => ∃ j : Nat, iv = .int .i64 (j : Int) ∧ j ≤ g.ks.length ∧ k = g.ks.length - j ∧ To wr w.heap.size uv ((g.ks.take j).filter (ovB g ns)) ∧ Fr (fun _ => False) w wr)
  case atStart => exact ⟨0, rfl, by omega, rfl, To.nil _ _, Fr.refl _ _⟩
  case round =>
    obtain ⟨j, rfl, hj, hk, hto, hf⟩ := hrel
    have hkH : Hidden (gk = g.ks.length - j) := hk
    have hfH : Hidden (Fr (fun _ => False) w wr) := hf
    have htoH : Hidden (To wr w.heap.size u5 ((g.ks.take j).filter (ovB g ns))) := hto
    have cBr := hf.cellN cB
    clear hk
    by_cases hjl : j < g.ks.length
    · obtain ⟨x, hx⟩ : ∃ x, g.ks[j]? = some x := ⟨g.ks[j], List.getElem?_eq_getElem hjl⟩
      obtain ⟨b, off, aoi, capi, rfl, c1, c2, ct3⟩ := RL.at ((show RL w ao cap g from hrowH).later hf) hx
      have kh := rhas_any vn ns x _ rfl wr ((show Tl w vn ns from hnH).later hf)
      have ku := runder_any _ g x wr ((show Rg w _ g from hH).later hf)
      have hsn : Hidden ((g.ks.take (j + 1)).filter (ovB g ns) = (g.ks.take j).filter (ovB g ns) ++ if ovB g ns x = true then [x] else []) := filter_snoc hx _
      have hlen : Hidden (((g.ks.take j).filter (ovB g ns)).length ≤ j) := by
        show _ ≤ _
        exact Nat.le_trans (List.length_filter_le _ _) (by simp; omega)
      obtain ⟨is0, his0⟩ : ∃ r, decide (x ∈ ns) = r := ⟨_, rfl⟩
      have his0H : Hidden (decide (x ∈ ns) = is0) := his0
      rw [his0] at kh
      clear hx c2 ct3 hto hf his0
      go_wp2_with (first
        | (go_at_call 36; refine kh.mono ?_; rintro e w2 ⟨rfl, hw2⟩; replace hw2 := hw2.symm; subst hw2)
        | (go_at_call 16; refine ku.mono ?_; rintro e w3 ⟨⟨lu, ⟨aou, capu, rfl, tu⟩, hu⟩, f3⟩
           have huH : Hidden ((decide (x ∈ ns) || lu.any fun y => decide (y ∈ ns)) = ovB g ns x) := ov_any hu
           have tuH : Hidden (Tl w3 (.slice aou lu.length capu) lu) := tu.tn.tl
           have hcu := Tl.cap_le tu.tn.tl
           have hcu2 : capu ≤ 9223372036854775807 := by obtain ⟨_, _, e, _, q⟩ := tu.shape; cases e; exact q
           have f3H : Hidden (Fr (fun _ => False) w w3) := Fr.same hfH f3
           have t3H : Hidden (To w3 w.heap.size u5 ((g.ks.take j).filter (ovB g ns))) := To.keep htoH f3 (fun _ _ f => f)
           clear hu tu f3))
      obtain ⟨gko, hgko⟩ : ∃ gko, gko = gk := ⟨gk, rfl⟩
      subst hgko
      clear c1 cBr
      go_loopg [8, 10] lu.length (fun q sv iv wr' => ∃ (k : Nat) (s : Bool), sv = .bool s ∧ iv = .int .i64 (k : Int) ∧ k ≤ lu.length ∧ q = lu.length - k ∧ (is0 || (lu.take k).any fun y => decide (y ∈ ns)) = s ∧ wr' = w3)
      case atStart => exact ⟨0, is0, rfl, rfl, by omega, rfl, by simp, rfl⟩
      case round =>
        obtain ⟨k, s, rfl, rfl, hkl, hq2, hs, hw⟩ := hrel
        have hqH2 : Hidden (gk = lu.length - k) := hq2
        have hsH : Hidden ((is0 || (lu.take k).any fun y => decide (y ∈ ns)) = s) := hs
        subst hw
        clear hq2 hs
        by_cases hkl2 : k < lu.length
        · obtain ⟨y, hy⟩ : ∃ y, lu[k]? = some y := ⟨lu[k], List.getElem?_eq_getElem hkl2⟩
          obtain ⟨b2, off2, rfl, d2⟩ := Tl.at (show Tl wr (.slice aou lu.length capu) lu from tuH) hy
          have hs2 : Hidden ((is0 || (lu.take (k + 1)).any fun y => decide (y ∈ ns)) = (s || decide (y ∈ ns))) := by
            show _ = _
            rw [any_snoc hy, ← Bool.or_assoc, (show (is0 || (lu.take k).any fun y => decide (y ∈ ns)) = s from hsH)]
          obtain ⟨r, hr⟩ : ∃ r, decide (y ∈ ns) = r := ⟨_, rfl⟩
          have kh2 := rhas_any vn ns y r hr wr ((show Tl w vn ns from hnH).later f3H)
          rw [hr] at hs2
          clear hy hr
          cases s
          · go_wp2_with (go_at_call 36; refine kh2.mono ?_; rintro e w4 ⟨rfl, hw4⟩; replace hw4 := hw4.symm; subst hw4)
            go_roundg (lu.length - (k + 1))
            case measure => have := (show gk = lu.length - k from hqH2); omega
            case rel => exact ⟨k + 1, _, rfl, by go_num, by omega, rfl, by rw [show _ = _ from hs2]; simp, rfl⟩
          · go_wp2
            go_roundg (lu.length - (k + 1))
            case measure => have := (show gk = lu.length - k from hqH2); omega
            case rel => exact ⟨k + 1, true, rfl, by go_num, by omega, rfl, by rw [show _ = _ from hs2]; simp, rfl⟩
        · obtain rfl : k = lu.length := by omega
          have hov : Hidden (ovB g ns x = s) := by
            show _ = _
            rw [← (show _ = ovB g ns x from huH), (show decide (x ∈ ns) = is0 from his0H), ← (show _ = s from hsH), List.take_length]
          cases s
          · go_wp2
            go_roundg (g.ks.length - (j + 1))
            case measure => have := (show gko = g.ks.length - j from hkH); omega
            case rel =>
              refine ⟨j + 1, by go_num, by omega, rfl, ?_, f3H⟩
              have e1 : (g.ks.take (j + 1)).filter _ = _ := hsn
              rw [e1, (show ovB g ns x = false from hov)]
              simpa using (show To wr w.heap.size _ _ from t3H)
          · go_wp2_with (at_builtin; refine wpList_app rfl _ _ rfl w.heap.size _ _ _ [x] rfl (To.keep t3H (Fr.alloc (fun _ => False) _ _) (fun _ _ f => f)) rfl (Tl.one _ x) (Nat.le_trans (show Fr (fun _ => False) w wr from f3H).size (by simp)) (by have : _ ≤ j := hlen; simp only [List.length_cons, List.length_nil]; omega) ?_; intro v5 w5 ht5 f5 _)
            go_roundg (g.ks.length - (j + 1))
            case measure => have := (show gko = g.ks.length - j from hkH); omega
            case rel =>
              refine ⟨j + 1, by go_num, by omega, rfl, ?_, ?_⟩
              · have e1 : (g.ks.take (j + 1)).filter _ = _ := hsn
                rw [e1, (show ovB g ns x = true from hov)]
                simpa using ht5
              · refine ((show Fr (fun _ => False) w wr from f3H).same (Fr.alloc _ _ _)).over f5 fun k hk => ?_
                exact ((show To wr w.heap.size _ _ from t3H).own k hk).1
    · obtain rfl : j = g.ks.length := by omega
      have hov := ov_is (show Rg w _ g from hH).wf ns
      clear hf hto
      go_wp2
      go_ret
      refine ⟨⟨_, Ret.of ?_, hov⟩, hfH⟩
      simpa [List.take_length] using (show To wr w.heap.size u5 ((g.ks.take g.ks.length).filter (ovB g ns)) from htoH)
theorem rminus_any (va vb : Value) (a b : List Str) (w : World) (ha : Tl w va a) (hb : Tl w vb b) (hl : a.length ≤ 4194304) (hx : ∀ x ∈ a, OkN x) :
    Calls Try.prog 67 #[va, vb] w fun e w' => ∃ v', e = .returned v' ∧ To w' w.heap.size v' ((setS a).filter fun x => decide (x ∈ b) == false) ∧ Fr (fun _ => False) w w' := by
  have ks := rset_any va a w ha hl hx
  have hbH : Hidden (Tl w vb b) := hb
  have hlH : Hidden ((setS a).length ≤ 4194304) := Nat.le_trans (setS_len a) hl
  clear ha hb hl hx
  go_enter Try.func67, Try.ntmps67
  go_wp2_with (first
    | (go_at_call 39; refine ks.mono ?_; rintro e w1 ⟨v1, rfl, t1, f1⟩; have f1H : Hidden (Fr (fun _ => False) w w1) := f1; have kc := chosen_any v1 vb (setS a) b false w1 t1.tn.tl (Tl.later hbH f1) hlH; clear t1 f1)
    | (go_at_call 80; refine kc.mono ?_; rintro e w2 ⟨v2, rfl, t2, f2⟩))
  go_ret
  exact ⟨v2, rfl, To.lower t2 (show Fr (fun _ => False) w w1 from f1H).size, Fr.same f1H f2⟩
theorem rwithin_any (va vb : Value) (a b : List Str) (w : World) (ha : Tl w va a) (hb : Tl w vb b) (hl : a.length ≤ 4194304) (hx : ∀ x ∈ a, OkN x) (r : Bool) (hr : (a.all fun i => decide (i ∈ b)) = r) :
    Calls Try.prog 49 #[va, vb] w fun e w' => e = .returned (.bool r) ∧ Fr (fun _ => False) w w' := by
  have km := rminus_any va vb a b w ha hb hl hx
  obtain ⟨n, hn⟩ : ∃ n, ((setS a).filter fun x => decide (x ∈ b) == false).length = n := ⟨_, rfl⟩
  have hd : Hidden (decide (n = 0) = r) := by
    show _ = _
    rw [← hr, ← hn, Bool.eq_iff_iff]
    simp only [decide_eq_true_eq, List.length_eq_zero_iff, List.filter_eq_nil_iff, List.all_eq_true]
    constructor
    · intro h x hx
      have := h x (mem_setS.2 hx)
      simpa using this
    · intro h x hx
      simpa using h x (mem_setS.1 hx)
  have hnl : n ≤ 4194304 := by
    rw [← hn]
    exact Nat.le_trans (List.length_filter_le _ _) (Nat.le_trans (setS_len a) hl)
  have hnH : Hidden (((setS a).filter fun x => decide (x ∈ b) == false).length = n) := hn
  clear ha hb hl hx hr hn
  go_enter Try.func49, Try.ntmps49
  go_wp2_with (go_at_call 67; refine km.mono ?_; rintro e w1 ⟨v1, rfl, t1, f1⟩; have f1H : Hidden (Fr (fun _ => False) w w1) := f1; obtain ⟨ao1, cap1, hv1, _, _⟩ := t1.shape; rw [(show _ = n from hnH)] at hv1; subst hv1; clear t1 f1)
  go_ret
  refine ⟨?_, f1H⟩
  rw [← (show decide (n = 0) = r from hd)]
  congr 2
  by_cases h0 : n = 0 <;> simp [h0]
/-- What far answers. -/
def FarR (g : Gr) (a b : Str) (r : Nat) : Prop := (r = 0 ∧ ∀ m, m ≤ g.ks.length → ¬ Stp g m a b) ∨ (Far g a b r ∧ r ≤ g.ks.length)
theorem FarR.le {g : Gr} {a b : Str} {r : Nat} (h : FarR g a b r) : r ≤ g.ks.length := by
  rcases h with ⟨rfl, _⟩ | ⟨_, h⟩
  · omega
  · exact h
theorem FarR.iff {g : Gr} {a b : Str} {r n : Nat} (h : FarR g a b r) (hn : 1 ≤ n) (hl : n ≤ g.ks.length) : Far g a b n ↔ r = n := by
  constructor
  · intro hf
    rcases h with ⟨rfl, h⟩ | ⟨h, _⟩
    · exact absurd hf.1 (h n hl)
    · rcases Nat.lt_trichotomy r n with k | k | k
      · exact absurd h.1 (hf.2 r k)
      · exact k
      · exact absurd hf.1 (h.2 n k)
  · rintro rfl
    rcases h with ⟨rfl, _⟩ | ⟨h, _⟩
    · omega
    · exact h
/-- Those that are come to in just n steps. -/
def At (g : Gr) (a : Str) (n : Nat) (l : List Str) : Prop := SS l ∧ ∀ y, y ∈ l ↔ Stp g n a y
theorem At.small {w : World} {p : Value} {g : Gr} (hr : Rg w p g) {a : Str} {n : Nat} {l : List Str} (h : At g a n l) : l.length ≤ 512 :=
  Nat.le_trans (nodup_le (nodup_of_ss h.1) (fun x hx => reach_flat hr.wf ((h.2 x).1 hx).reach)) (flat512 hr)
/-- While the next ones are gathered. -/
def Nx (g : Gr) (l : List Str) (i : Nat) (m : List Str) : Prop := SS m ∧ ∀ y, y ∈ m ↔ ∃ x ∈ l.take i, y ∈ g.im x
theorem Nx.small {w : World} {p : Value} {g : Gr} (hr : Rg w p g) {l : List Str} {i : Nat} {m : List Str} (h : Nx g l i m) : m.length ≤ 512 :=
  Nat.le_trans (nodup_le (nodup_of_ss h.1) (fun x hx => by
    obtain ⟨z, _, hz⟩ := (h.2 x).1 hx
    exact reach_flat hr.wf (.one hz))) (flat512 hr)
theorem Nx.ok {w : World} {p : Value} {g : Gr} (hr : Rg w p g) {l : List Str} {i : Nat} {m : List Str} (h : Nx g l i m) : ∀ x ∈ m, OkN x := fun x hx => by
  obtain ⟨z, _, hz⟩ := (h.2 x).1 hx
  exact hr.okI hz
theorem Nx.step {g : Gr} {l m : List Str} {i : Nat} {x : Str} (h : Nx g l i m) (hx : l[i]? = some x) : Nx g l (i + 1) (setS (m ++ g.im x)) := by
  refine ⟨setS_ss _, fun y => ?_⟩
  rw [mem_setS, List.mem_append, h.2, take_snoc hx]
  constructor
  · rintro (⟨z, h1, h2⟩ | h1)
    · exact ⟨z, by simp [h1], h2⟩
    · exact ⟨x, by simp, h1⟩
  · rintro ⟨z, h1, h2⟩
    rcases List.mem_append.1 h1 with h1 | h1
    · exact Or.inl ⟨z, h1, h2⟩
    · simp at h1; subst h1; exact Or.inr h2
theorem Nx.at {g : Gr} {a : Str} {n : Nat} {l m : List Str} (hn : 1 ≤ n) (hl : At g a n l) (h : Nx g l l.length m) : At g a (n + 1) m := by
  refine ⟨h.1, fun y => ?_⟩
  rw [h.2, List.take_length, stp_back hn]
  constructor
  · rintro ⟨x, h1, h2⟩; exact ⟨x, (hl.2 x).1 h1, h2⟩
  · rintro ⟨x, h1, h2⟩; exact ⟨x, (hl.2 x).2 h1, h2⟩
set_option maxRecDepth 20000 in
set_option maxHeartbeats 4000000 in
theorem rfar_any (p : Value) (g : Gr) (a t : Str) (w : World) (h : Rg w p g) :
    Calls Try.prog 53 #[p, ct a, ct t] w fun e w' => (∃ r : Nat, e = .returned (.int .i64 (r : Int)) ∧ FarR g a t r) ∧ Fr (fun _ => False) w w' := by
  have hH : Hidden (Rg w p g) := h
  obtain ⟨aoi, capi, ti, ki⟩ := h.imports a
  have ki := ki w (Fr.refl _ _)
  have tiH : Hidden (Tl w (.slice aoi (g.im a).length capi) (g.im a)) := ti
  obtain ⟨B, ao, cap, rfl, cB, hrow⟩ := h.cell
  have hsm := h.small
  have ha0 : Hidden (At g a 1 (g.im a)) := ⟨h.wf.im a, fun y => stp_one.symm⟩
  clear h hrow ti
  go_enter Try.func53, Try.ntmps53
  go_wp2_with (go_at_call 12; refine ki.mono ?_; rintro e w1 ⟨rfl, hw1⟩; replace hw1 := hw1.symm; subst hw1)
  go_loopg [7, 8] g.ks.length (fun q nv iv wr => ∃ (n : Nat) (l : List Str), iv = .int .i64 (n : Int) ∧ 1 ≤ n ∧ n ≤ g.ks.length + 1 ∧ q = g.ks.length + 1 - n ∧ At g a n l ∧ (∀ m, m < n → ¬ Stp g m a t) ∧ Tl wr nv l ∧ Fr (fun _ => False) w wr)
  case atStart => exact ⟨1, g.im a, rfl, by omega, by omega, by omega, ha0, fun m hm k => by have := k.pos; omega, tiH, Fr.refl _ _⟩
  case round =>
    obtain ⟨n, l, rfl, hn1, hn2, hk, hat, hno, ht, hf⟩ := hrel
    have hkH : Hidden (gk = g.ks.length + 1 - n) := hk
    have hatH : Hidden (At g a n l) := hat
    have hnoH : Hidden (∀ m, m < n → ¬ Stp g m a t) := hno
    have htH : Hidden (Tl wr u7 l) := ht
    have hfH : Hidden (Fr (fun _ => False) w wr) := hf
    have hsmall := hat.small (show Rg w _ g from hH)
    have cBr := hf.cellN cB
    obtain ⟨aol, capl, hul, l1, l2, _⟩ := id ht
    subst hul
    clear hk hno tiH ha0
    by_cases hle : n ≤ g.ks.length
    · by_cases hin : t ∈ l
      · have kh := rhas_any _ l t true (by simp [hin]) wr ht
        have hres : Hidden (FarR g a t n) := Or.inr ⟨⟨(hat.2 t).1 hin, hnoH⟩, hle⟩
        clear hin hat ht hf
        go_wp2_with (go_at_call 36; refine kh.mono ?_; rintro e w2 ⟨rfl, hw2⟩; replace hw2 := hw2.symm; subst hw2)
        go_ret
        exact ⟨⟨n, rfl, hres⟩, hfH⟩
      · have kh := rhas_any _ l t false (by simp [hin]) wr ht
        have hno2 : Hidden (∀ m, m < n + 1 → ¬ Stp g m a t) := fun m hm k => by
          rcases Nat.lt_or_ge m n with q | q
          · exact (show ∀ m, m < n → ¬ Stp g m a t from hnoH) m q k
          · obtain rfl : m = n := by omega
            exact hin ((hat.2 t).2 k)
        clear hin hat ht hf
        go_wp2_with (go_at_call 36; refine kh.mono ?_; rintro e w2 ⟨rfl, hw2⟩; replace hw2 := hw2.symm; subst hw2)
        obtain ⟨gko, hgko⟩ : ∃ gko, gko = gk := ⟨gk, rfl⟩
        subst hgko
        obtain ⟨V, hV⟩ : ∃ V, V = wr := ⟨wr, rfl⟩
        subst hV
        clear cBr
        go_loopg [9, 10] l.length (fun q xv iv wr' => ∃ (i : Nat) (m : List Str), iv = .int .i64 (i : Int) ∧ i ≤ l.length ∧ q = l.length - i ∧ Nx g l i m ∧ Tl wr' xv m ∧ Fr (fun _ => False) V wr')
        case atStart => exact ⟨0, [], rfl, by omega, rfl, ⟨List.Pairwise.nil, fun y => by simp⟩, Tl.nil _, Fr.refl _ _⟩
        case round =>
          obtain ⟨i, m, rfl, hi, hq2, hnx, htm, hf2⟩ := hrel
          have hqH2 : Hidden (gk = l.length - i) := hq2
          have hnxH : Hidden (Nx g l i m) := hnx
          have htmH : Hidden (Tl wr u9 m) := htm
          have hfH2 : Hidden (Fr (fun _ => False) V wr) := hf2
          have fw : Hidden (Fr (fun _ => False) w wr) := Fr.same hfH hf2
          clear hq2
          by_cases hil : i < l.length
          · obtain ⟨x, hx⟩ : ∃ x, l[i]? = some x := ⟨l[i], List.getElem?_eq_getElem hil⟩
            obtain ⟨b2, off2, rfl, d2⟩ := Tl.at (Tl.later htH hf2) hx
            obtain ⟨aox, capx, tx, kx⟩ := (show Rg w _ g from hH).imports x
            have kx := kx wr fw
            have ku := runion_any u9 (.slice aox (g.im x).length capx) m (g.im x) wr htm (tx.later fw) (by have := hnx.small (show Rg w _ g from hH); omega) (by have := (show Rg w _ g from hH).ims x; omega) (hnx.ok (show Rg w _ g from hH)) (fun y hy => (show Rg w _ g from hH).okI hy)
            have hnx2 : Hidden (Nx g l (i + 1) (setS (m ++ g.im x))) := hnx.step hx
            clear hx hnx htm hf2 tx
            go_wp2_with (first
              | (go_at_call 12; refine kx.mono ?_; rintro e w4 ⟨rfl, hw4⟩; replace hw4 := hw4.symm; subst hw4)
              | (go_at_call 69; refine ku.mono ?_; rintro e w5 ⟨v5, rfl, t5, f5⟩))
            go_roundg (l.length - (i + 1))
            case measure => have := (show gk = l.length - i from hqH2); omega
            case rel => exact ⟨i + 1, _, by go_num, by omega, rfl, hnx2, t5.tn.tl, Fr.same hfH2 f5⟩
          · obtain rfl : i = l.length := by omega
            have hat2 : Hidden (At g a (n + 1) m) := Nx.at hn1 hatH hnx
            clear hnx htm hf2
            go_wp2
            go_roundg (g.ks.length + 1 - (n + 1))
            case measure => have := (show gko = g.ks.length + 1 - n from hkH); omega
            case rel => exact ⟨n + 1, m, by go_num, by omega, by omega, rfl, hat2, hno2, htmH, fw⟩
    · have hres : Hidden (FarR g a t 0) := Or.inl ⟨rfl, fun m hm => (show ∀ m, m < n → ¬ Stp g m a t from hnoH) m (by omega)⟩
      clear hat ht hf
      go_wp2
      go_ret
      exact ⟨⟨0, rfl, hres⟩, hfH⟩
end Go.Proofs.Ytajefmmggefbeaa.Dg
