/- Ring. -/
import Derived.Test.YtajefmmggefbeaaDgG
import Derived.WalkMore
namespace Go.Proofs.Ytajefmmggefbeaa.Dg
open Go.RowKit Go.Sort
set_option linter.unusedSimpArgs false
set_option linter.unusedVariables false

theorem idx_find {α : Type} (p : α → Bool) : ∀ (l : List α) (i : Nat), (idxP p l i = -1 ∧ l.find? p = none) ∨ ∃ k x, l[k]? = some x ∧ l.find? p = some x ∧ idxP p l i = ((i + k : Nat) : Int)
  | [], i => Or.inl ⟨rfl, rfl⟩
  | x :: r, i => by
    unfold idxP
    by_cases h : p x = true
    · exact Or.inr ⟨0, x, rfl, by simp [h], by rw [if_pos h]; simp⟩
    · rw [if_neg h]
      have h' : p x = false := by simpa using h
      rcases idx_find p r (i + 1) with ⟨h1, h2⟩ | ⟨k, y, h1, h2, h3⟩
      · exact Or.inl ⟨h1, by simp [h', h2]⟩
      · exact Or.inr ⟨k + 1, y, by simpa using h1, by simp [h', h2], by rw [h3]; congr 1; omega⟩
theorem idxP_map {α β : Type} (p : α → Bool) (q : β → Bool) : ∀ (l : List α) (m : List β) (i : Nat), l.length = m.length → (∀ (k : Nat) (x : α) (y : β), l[k]? = some x → m[k]? = some y → p x = q y) → idxP p l i = idxP q m i
  | [], [], i, _, _ => rfl
  | [], _ :: _, _, h, _ => by simp at h
  | _ :: _, [], _, h, _ => by simp at h
  | x :: l, y :: m, i, h, hk => by
    unfold idxP
    rw [hk 0 x y rfl rfl, idxP_map p q l m (i + 1) (by simpa using h) (fun k a b ha hb => hk (k + 1) a b (by simpa using ha) (by simpa using hb))]
/-- A value holds one list. -/
theorem Tl.unique {w : World} {v : Value} {l l' : List Str} (h : Tl w v l) (h' : Tl w v l') : l = l' := by
  obtain ⟨ao, cap, rfl, h1, h2, h3, h4⟩ := h
  obtain ⟨ao', cap', e, k1, k2, k3, k4⟩ := h'
  simp only [Value.slice.injEq] at e
  obtain ⟨rfl, hl, rfl⟩ := e
  rcases h4 with rfl | ⟨b, off, rfl, hc⟩
  · exact (List.eq_nil_of_length_eq_zero hl.symm).symm
  · rcases k4 with rfl | ⟨b', off', e, hc'⟩
    · exact List.eq_nil_of_length_eq_zero hl
    · simp only [Option.some.injEq, Addr.mk.injEq, and_true] at e
      obtain ⟨rfl, rfl⟩ := e
      apply List.ext_getElem? 
      intro i
      by_cases hi : i < l.length
      · obtain ⟨x, hx⟩ : ∃ x, l[i]? = some x := ⟨l[i], List.getElem?_eq_getElem hi⟩
        obtain ⟨y, hy⟩ : ∃ y, l'[i]? = some y := ⟨l'[i], List.getElem?_eq_getElem (by omega)⟩
        have e1 := hc i x hx
        rw [hc' i y hy] at e1
        have := encStr_inj (Option.some.inj e1)
        rw [hx, hy, this]
      · rw [List.getElem?_eq_none (by omega), List.getElem?_eq_none (by omega)]
/-- slices.IndexFunc(round, g.closed). -/
theorem closedAt_any (p : Value) (g : Gr) (B : Nat) (ao : Option Addr) (n cap : Nat) (rd : List (List Str)) (w : World) (h : Gp w p g) (hL : LL w B (.slice ao n cap) rd) (hq : ∀ q ∈ rd, q ≠ [] ∧ ∀ x ∈ q, OkN x) (R : Int) (hR : idxP (closedP g) rd 0 = R) :
    Calls Try.prog 50 #[.slice ao n cap, .func (.func 51) #[p] #[]] w fun e w' => e = .returned (.int .i64 R) ∧ Fr (fun _ => False) w w' := by
  obtain ⟨xs, h1, rfl, h2, h3, h4, h5⟩ := hL.vals
  refine ifuncLB 51 p (enters_of Try.func51 (by kernel_rfl) rfl) ao xs.length cap xs (fun x => @decide (∃ l, Tl w x l ∧ closedP g l = true) (Classical.propDecidable _)) R w rfl h2 h3 h4 ?_ ?_
  · intro W hW x hx
    obtain ⟨i, hi⟩ := List.getElem?_of_mem hx
    obtain ⟨l, hl⟩ : ∃ l, rd[i]? = some l := ⟨rd[i]'(by have := (List.getElem?_eq_some_iff.1 hi).1; omega), List.getElem?_eq_getElem _⟩
    have ht := h5 i x l hi hl
    obtain ⟨k1, k2⟩ := hq l (List.mem_of_getElem? hl)
    have e : (@decide (∃ l, Tl w x l ∧ closedP g l = true) (Classical.propDecidable _)) = closedP g l := by
      cases hc : closedP g l
      · simp only [decide_eq_false_iff_not]
        rintro ⟨l', q1, q2⟩
        rw [Tl.unique ht q1, q2] at hc
        cases hc
      · simp only [decide_eq_true_eq]
        exact ⟨l, ht, hc⟩
    rw [e]
    exact closed_any p g x l W (h.later hW) (ht.later hW) k1 k2
  · rw [← hR]
    refine idxP_map _ _ xs rd 0 h1 fun k x l hx hl => ?_
    have ht := h5 k x l hx hl
    cases hc : closedP g l
    · simp only [decide_eq_false_iff_not]
      rintro ⟨l', q1, q2⟩
      rw [Tl.unique ht q1, q2] at hc
      cases hc
    · simp only [decide_eq_true_eq]
      exact ⟨l, ht, hc⟩
/-- A row of one list of one text, laid by its words. -/
theorem LL.start (w : World) (s : Str) : LL ((w.alloc (.cells #[ct s] 9)).alloc (.cells #[.slice (some ⟨w.heap.size, 0, none⟩) 1 1] 23)) w.heap.size (.slice (some ⟨w.heap.size + 1, 0, none⟩) 1 1) [[s]] := by
  refine ⟨[.slice (some ⟨w.heap.size, 0, none⟩) 1 1], rfl, ⟨rfl, Or.inr ⟨w.heap.size + 1, 1, #[.slice (some ⟨w.heap.size, 0, none⟩) 1 1], rfl, by omega, ?_, by simp, by simp [maxLen], by simp, by simp⟩⟩, fun i x l hx hl => ?_⟩
  · have := alloc_new (w.alloc (.cells #[ct s] 9)) (.cells #[.slice (some ⟨w.heap.size, 0, none⟩) 1 1] 23)
    simpa using this
  · cases i with
    | zero =>
      simp at hx hl
      subst hx hl
      refine ⟨Tl.later (Tl.one w s) (Fr.alloc _ _ _), fun k hk => ?_⟩
      have : w.heap.size = k := by simpa [Value.ownBlock] using hk
      subst this
      exact ⟨Nat.le_refl _, by simp; omega, by simp [Value.ownBlock]⟩
    | succ i => simp at hx
theorem ringGo_succ (g : Gr) (n : Nat) (rd : List (List Str)) (met : List Str) : ringGo g (n + 1) rd met = match rd.find? (closedP g) with
    | some p => some p
    | none => if (longerS g rd met).1 = [] then some [] else ringGo g n (longerS g rd met).1 (longerS g rd met).2 := rfl
/-- Ring's answer. -/
def RetL (l : List Str) (e : Ending) (w' : World) : Prop := ∃ ao cap, e = .returned (.slice ao l.length cap) ∧ Tl w' (.slice ao l.length cap) l
theorem RetL.of {l : List Str} {v : Value} {w' : World} (h : Tl w' v l) : RetL l (.returned v) w' := by
  obtain ⟨ao, cap, rfl, _⟩ := id h
  exact ⟨ao, cap, rfl, h⟩
set_option maxRecDepth 20000 in
set_option maxHeartbeats 8000000 in
theorem ring_any (p : Value) (g : Gr) (w : World) (h : Gp w p g) :
    Calls Try.prog 24 #[p] w fun e w' => RetL (ringS g) e w' ∧ Fr (fun _ => False) w w' := by
  have kn := names_any p g w h
  have hH : Hidden (Gp w p g) := h
  have hsm := h.small
  obtain ⟨R, hR⟩ : ∃ R, ringS g = R := ⟨_, rfl⟩
  rw [hR]
  have hRH : Hidden (ringOf g g.ks = R) := hR
  have hmm := @run_makeMap Try.prog
  clear h hR
  go_enter Try.func24, Try.ntmps24
  go_wp2
  go_step3
  go_wp2
  go_step3
  go_wp2_with (go_at_call 9; refine kn.mono ?_; rintro e w1 ⟨⟨ao, cap, rfl, ht1⟩, f1⟩; have ht1H : Hidden (To w1 w.heap.size (.slice ao g.ks.length cap) g.ks) := ht1; have f1H : Hidden (Fr (fun _ => False) w w1) := f1; clear ht1 f1)
  go_loopg [11] g.ks.length (fun k iv wr => ∃ j : Nat, iv = .int .i64 (j : Int) ∧ j ≤ g.ks.length ∧ k = g.ks.length - j ∧ ringOf g (g.ks.drop j) = R ∧ Fr (fun _ => False) w1 wr)
  case atStart => exact ⟨0, rfl, by omega, rfl, hRH, Fr.refl _ _⟩
  case round =>
    obtain ⟨j, rfl, hj, hk, hm, hf⟩ := hrel
    have hkH : Hidden (gk = g.ks.length - j) := hk
    have hmH : Hidden (ringOf g (g.ks.drop j) = R) := hm
    have hfH : Hidden (Fr (fun _ => False) w1 wr) := hf
    have fw : Hidden (Fr (fun _ => False) w wr) := Fr.same f1H hf
    clear hk hm
    by_cases hjl : j < g.ks.length
    · obtain ⟨s, hx⟩ : ∃ s, g.ks[j]? = some s := ⟨g.ks[j], List.getElem?_eq_getElem hjl⟩
      obtain ⟨b, off, rfl, c0⟩ := Tl.at (show To w1 w.heap.size (.slice ao g.ks.length cap) g.ks from ht1H).tn.tl hx
      have hcap : g.ks.length ≤ cap := Tl.cap_le (show To w1 w.heap.size (.slice (some ⟨b, off, none⟩) g.ks.length cap) g.ks from ht1H).tn.tl
      have c1 := hf.cellN c0
      have hsok : Hidden (OkN s) := (show Gp w p g from hH).okN (List.mem_of_getElem? hx)
      obtain ⟨r0, hr0, _⟩ := ringFrom_spec (show Gp w p g from hH).wf s
      have hr0H : Hidden (ringGo g ((g.ks.flatMap g.im).length + 1) [[s]] [] = some r0) := hr0
      have hU : (g.ks.flatMap g.im).length ≤ 512 := by have := flat_len (show Gp w p g from hH).ims g.ks; omega
      have hm1 : Hidden (r0 = [] → ringOf g (g.ks.drop (j + 1)) = R) := by
        intro e
        have := (show ringOf g (g.ks.drop j) = R from hmH)
        rw [drop_at hx, ringOf, hr0, e] at this
        exact this
      have hm2 : Hidden (r0 ≠ [] → r0 = R) := by
        intro e
        have := (show ringOf g (g.ks.drop j) = R from hmH)
        rw [drop_at hx, ringOf, hr0] at this
        cases r0 with
        | nil => exact absurd rfl e
        | cons a t => exact this
      clear hx c0 hr0 hf
      go_wp2_with fail
      obtain ⟨gko, hgko⟩ : ∃ gko, gko = gk := ⟨gk, rfl⟩
      subst hgko
      obtain ⟨X, hX⟩ : ∃ X, X = wr := ⟨wr, rfl⟩
      subst hX
      have hsz : (X.alloc (.map #[] 0)).heap.size = X.heap.size + 1 := by simp
      have hL0 : Hidden (LL (((X.alloc (.map #[] 0)).alloc (.cells #[ct s] 9)).alloc (.cells #[.slice (some ⟨X.heap.size + 1, 0, none⟩) 1 1] 23)) (X.heap.size + 1) (.slice (some ⟨X.heap.size + 1 + 1, 0, none⟩) 1 1) [[s]]) := by
        have := LL.start (X.alloc (.map #[] 0)) s
        rw [hsz] at this
        exact this
      clear hsz
      go_loopg [6] ((g.ks.flatMap g.im).length + 1) (fun k rv wr' => ∃ (rd : List (List Str)) (met : List Str) (n M : Nat), LL wr' (X.heap.size + 1) rv rd ∧ SM wr' X.heap.size n met ∧ n + potU g met ≤ 512 ∧ ringGo g k rd met = some r0 ∧ (∀ q ∈ rd, q ≠ [] ∧ q.length ≤ M ∧ ∀ x ∈ q, OkN x) ∧ M + k ≤ 1000 ∧ Fr (fun _ => False) X wr')
      case atStart =>
        refine ⟨[[s]], [], 0, 1, hL0, ((SM.new X).later (Fr.alloc _ _ _)).later (Fr.alloc _ _ _), by simpa using potU_le (show Gp w p g from hH) [], hr0H, fun q hq => ?_, by omega, ((Fr.alloc _ _ _).same (Fr.alloc _ _ _)).same (Fr.alloc _ _ _)⟩
        simp at hq
        subst hq
        exact ⟨by simp, by simp, fun x hx => by simp at hx; subst hx; exact hsok⟩
      case round =>
        obtain ⟨rd, met, n, M, hL, hsm', hn, hgo, hq, hM, hf⟩ := hrel
        have hLH : Hidden (LL wr (X.heap.size + 1) u6 rd) := hL
        have hsmH : Hidden (SM wr X.heap.size n met) := hsm'
        have hnH : Hidden (n + potU g met ≤ 512) := hn
        have hqH : Hidden (∀ q ∈ rd, q ≠ [] ∧ q.length ≤ M ∧ ∀ x ∈ q, OkN x) := hq
        have hMH : Hidden (M + gk ≤ 1000) := hM
        have hfH2 : Hidden (Fr (fun _ => False) X wr) := hf
        have fw2 : Hidden (Fr (fun _ => False) w wr) := Fr.same fw hf
        have hbX : Hidden (w.heap.size ≤ X.heap.size) := (show Fr (fun _ => False) w X from fw).size
        obtain ⟨aor, capr, hv, r1, r2⟩ := hL.shape
        subst hv
        obtain ⟨k', hk'⟩ : ∃ k', gk = k' + 1 := by
          cases gk with
          | zero => cases hgo
          | succ k' => exact ⟨k', rfl⟩
        rw [hk', ringGo_succ] at hgo
        have hk'H : Hidden (gk = k' + 1) := hk'
        obtain ⟨I, hI⟩ : ∃ I, idxP (closedP g) rd 0 = I := ⟨_, rfl⟩
        have kcl := closedAt_any p g (X.heap.size + 1) aor rd.length capr rd wr ((show Gp w p g from hH).later fw2) hL (fun q hq' => ⟨(hq q hq').1, (hq q hq').2.2⟩) I hI
        clear hk' hM hn hsm' hf
        rcases idx_find (closedP g) rd 0 with ⟨e1, e2⟩ | ⟨k, q, e1, e2, e3⟩
        · rw [e2] at hgo
          obtain rfl : (-1 : Int) = I := by rw [← hI, e1]
          obtain ⟨⟨Rn, Rm⟩, hRR⟩ : ∃ RR, longerS g rd met = RR := ⟨_, rfl⟩
          rw [hRR] at hgo
          have hRRH : Hidden (longerS g rd met = (Rn, Rm)) := hRR
          have hgoH : Hidden ((if Rn = [] then some [] else ringGo g k' Rn Rm) = some r0) := hgo
          clear hI e1 e2 hgo hq hL hRR
          have hstep : ∀ w2, Fr (fun _ => False) wr w2 → Calls Try.prog 52 #[p, .slice aor rd.length capr, .map (some X.heap.size)] w2 fun e w' => ∃ ao cap n', e = .returned (.slice ao Rn.length cap) ∧ LL w' w2.heap.size (.slice ao Rn.length cap) Rn ∧ SM w' X.heap.size n' Rm ∧ n' + potU g Rm ≤ 512 ∧ Fr (fun k => k = X.heap.size) w2 w' := fun w2 f2 =>
            longer_any w p g X.heap.size n met _ rd M w2 hH (Fr.same fw2 f2) hbX (SM.later hsmH f2) (LL.later hLH f2) (by have : M + gk ≤ 1000 := hMH; omega) hqH hnH Rn Rm hRRH
          by_cases hRn : Rn = []
          · subst hRn
            have hr0e : Hidden (r0 = []) := by
              have := (show (if ([] : List (List Str)) = [] then some [] else ringGo g k' [] Rm) = some r0 from hgoH)
              show r0 = []
              simpa using this.symm
            go_wp2_with (first
              | (go_at_call 50; refine kcl.mono ?_; rintro e w2 ⟨rfl, f2⟩; have f2H : Hidden (Fr (fun _ => False) wr w2) := f2; have kl := hstep w2 f2; clear f2)
              | (go_at_call 52; refine kl.mono ?_; rintro e w3 ⟨ao3, cap3, n3, rfl, l3, s3, q3, f3⟩; have f3H : Hidden (Fr (fun k => k = X.heap.size) w2 w3) := f3; clear l3 s3 q3 f3))
            go_roundg (g.ks.length - (j + 1))
            case measure => have := (show gko = g.ks.length - j from hkH); omega
            case rel =>
              refine ⟨j + 1, by go_num, by omega, rfl, (show r0 = [] → _ from hm1) hr0e, ?_⟩
              exact Fr.same hfH ((Fr.same hfH2 f2H).over f3H (fun k hk => by omega))
          · have hRl : ((Rn.length : Int) == 0) = false := by
              have : Rn.length ≠ 0 := fun e => hRn (List.eq_nil_of_length_eq_zero e)
              simp; exact hRn
            have hgo2 : Hidden (ringGo g k' Rn Rm = some r0) := by
              have := (show (if Rn = [] then some [] else ringGo g k' Rn Rm) = some r0 from hgoH)
              rw [if_neg hRn] at this
              exact this
            clear hRn
            go_wp2_with (first
              | (go_at_call 50; refine kcl.mono ?_; rintro e w2 ⟨rfl, f2⟩; have f2H : Hidden (Fr (fun _ => False) wr w2) := f2; have kl := hstep w2 f2; clear f2)
              | (go_at_call 52; refine kl.mono ?_; rintro e w3 ⟨ao3, cap3, n3, rfl, l3, s3, q3, f3⟩; have f3H : Hidden (Fr (fun k => k = X.heap.size) w2 w3) := f3; have l3H : Hidden (LL w3 w2.heap.size (.slice ao3 Rn.length cap3) Rn) := l3; have s3H : Hidden (SM w3 X.heap.size n3 Rm) := s3; have q3H : Hidden (n3 + potU g Rm ≤ 512) := q3; clear l3 s3 q3 f3))
            go_roundg k'
            case measure => have := (show gk = k' + 1 from hk'H); omega
            case rel =>
              have hMk : M + gk ≤ 1000 := hMH
              have hgk : gk = k' + 1 := hk'H
              have hXlt : X.heap.size < w2.heap.size := Nat.lt_of_lt_of_le (show SM wr X.heap.size n met from hsmH).lt (show Fr (fun _ => False) wr w2 from f2H).size
              refine ⟨Rn, Rm, n3, M + 1, LL.lower l3H hXlt, s3H, q3H, hgo2, fun q hq => ?_, by omega, (Fr.same hfH2 f2H).over f3H (fun k hk => by omega)⟩
              have hq' : q ∈ (longerS g rd met).1 := by rw [(show longerS g rd met = (Rn, Rm) from hRRH)]; exact hq
              obtain ⟨p', hp', y, hy, _, rfl⟩ := longer_in g rd met q hq'
              obtain ⟨o1, o2, o3⟩ := (show ∀ q ∈ rd, q ≠ [] ∧ q.length ≤ M ∧ ∀ x ∈ q, OkN x from hqH) p' hp'
              refine ⟨by simp, by simp; omega, fun x hx => ?_⟩
              rcases List.mem_append.1 hx with hx | hx
              · exact o3 x hx
              · simp at hx; subst hx; exact (show Gp w p g from hH).okI hy
        · rw [e2] at hgo
          obtain rfl : (k : Int) = I := by rw [← hI, e3]; simp
          have hr0q : q = r0 := Option.some.inj hgo
          subst hr0q
          have hqne := (hq q (List.mem_of_getElem? e1)).1
          have hRq : Hidden (q = R) := (show q ≠ [] → q = R from hm2) hqne
          obtain ⟨bB, xv, hao, c2, hxv, _⟩ := LL.at hL e1
          subst hao
          obtain ⟨aoq, capq, hxs, _⟩ := id hxv
          subst hxs
          have hxvH : Hidden (Tl wr (.slice aoq q.length capq) q) := hxv
          have hkl : k < rd.length := (List.getElem?_eq_some_iff.1 e1).1
          have i0 : (0 : Int) ≤ (k : Int) := by omega
          have i1 : (k : Int) < (rd.length : Int) := by omega
          clear hI e1 e2 e3 hgo hq hL hqne hxv
          go_wp2_with (go_at_call 50; refine kcl.mono ?_; rintro e w2 ⟨rfl, f2⟩; have f2H : Hidden (Fr (fun _ => False) wr w2) := f2; have c3 := f2.cellN c2; clear f2)
          try rw [Exit.noGoto_ret]
          go_ret
          refine ⟨?_, Fr.same fw2 f2H⟩
          rw [← (show q = R from hRq)]
          exact RetL.of (Tl.later hxvH f2H)
    · obtain rfl : j = g.ks.length := by omega
      have hm5 : Hidden ([] = R) := by
        show _ = _
        rw [← (show ringOf g (g.ks.drop g.ks.length) = R from hmH), List.drop_eq_nil_of_le (Nat.le_refl _)]; rfl
      clear hf
      go_wp2
      try rw [Exit.noGoto_ret]
      go_ret
      refine ⟨?_, fw⟩
      rw [← (show [] = R from hm5)]
      exact RetL.of (Tl.nil _)
end Go.Proofs.Ytajefmmggefbeaa.Dg
