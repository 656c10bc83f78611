/- Levels. -/
import Derived.Test.YtajefmmggefbeaaDgI
namespace Go.Proofs.Ytajefmmggefbeaa.Dg
open Go.RowKit Go.Sort
set_option linter.unusedSimpArgs false
set_option linter.unusedVariables false

theorem levels_err (q : Option Addr) (g : Gr) (w : World) (h : Gp w (.pointer q) g) (he : ordC q g ≠ 0) :
    Calls Try.prog 22 #[.pointer q] w fun e w' => e = .returned (.tuple #[.slice none 0 0, .int .i64 (ordC q g)]) ∧ Fr (fun _ => False) w w' := by
  have ko := orderless_any q g _ h
  generalize ordC q g = c at ko he ⊢
  have hne : (c == 0) = false := by simpa using he
  clear h he
  go_enter Try.func22, Try.ntmps22
  go_wp2_with (go_at_call 44; refine ko.mono ?_; rintro e w1 ⟨rfl, f1⟩; have f1H : Hidden (Fr (fun _ => False) w w1) := f1; clear f1)
  go_ret2
  exact ⟨rfl, f1H⟩
theorem levelsGo_succ (g : Gr) (n : Nat) (left placed : List Str) (h : left ≠ []) : levelsGo g (n + 1) left placed = (levelsGo g n (left.filter fun x => !okIn g placed x) (placed ++ left.filter (okIn g placed))).map (left.filter (okIn g placed) :: ·) := by
  rw [levelsGo, if_neg h]
theorem filter_two (p : Str → Bool) : ∀ l : List Str, (l.filter p).length + (l.filter fun x => !p x).length = l.length
  | [] => rfl
  | a :: r => by
    have := filter_two p r
    rw [List.filter_cons, List.filter_cons]
    cases h : p a
    · simp; omega
    · simp; omega
set_option maxRecDepth 20000 in
set_option maxHeartbeats 8000000 in
theorem levels_ok (q : Option Addr) (g : Gr) (w : World) (h : Gp w (.pointer q) g) (he : ordC q g = 0) (R : List (List Str)) (hR : levelsS g = some R) :
    Calls Try.prog 22 #[.pointer q] w fun e w' => (∃ ao cap, e = .returned (.tuple #[.slice ao R.length cap, .int .i64 0]) ∧ LL w' w.heap.size (.slice ao R.length cap) R) ∧ Fr (fun _ => False) w w' := by
  have ko := orderless_any q g _ h
  rw [he] at ko
  have hH : Hidden (Gp w (.pointer q) g) := h
  have hRH : Hidden (levelsGo g g.ks.length g.ks [] = some R) := hR
  have hmm := @run_makeMap Try.prog
  have hsm := h.small
  have kn : ∀ w1, Fr (fun _ => False) w w1 → Calls Try.prog 9 #[.pointer q] w1 fun e w' => Ret w1.heap.size g.ks e w' ∧ Fr (fun _ => False) w1 w' := fun w1 f1 => names_any _ g w1 ((show Gp w (.pointer q) g from hH).later f1)
  clear h he hR
  go_enter Try.func22, Try.ntmps22
  go_wp2_with (first
    | (go_at_call 44; refine ko.mono ?_; rintro e w1 ⟨rfl, f1⟩; have f1H : Hidden (Fr (fun _ => False) w w1) := f1; have kn1 := kn _ (f1.same (Fr.alloc _ w1 (.map #[] 0))); clear f1)
    | (go_at_call 9; refine kn1.mono ?_; rintro e w3 ⟨⟨ao, cap, rfl, ht3⟩, f3⟩; have ht3H : Hidden (To w3 (w1.alloc (.map #[] 0)).heap.size (.slice ao g.ks.length cap) g.ks) := ht3; have f3H : Hidden (Fr (fun _ => False) (w1.alloc (.map #[] 0)) w3) := f3; clear ht3 f3))
  have hs0 : Hidden (SM w3 w1.heap.size 0 []) := SM.later (SM.new w1) f3H
  have ht3' : Hidden (To w3 (w1.heap.size + 1) (.slice ao g.ks.length cap) g.ks) := by
    have e : (w1.alloc (.map #[] 0)).heap.size = w1.heap.size + 1 := by simp
    have := (show To w3 (w1.alloc (.map #[] 0)).heap.size (.slice ao g.ks.length cap) g.ks from ht3H)
    rw [e] at this
    exact this
  have fw3 : Hidden (Fr (fun _ => False) w w3) := Fr.same (Fr.same f1H (Fr.alloc _ w1 (.map #[] 0))) f3H
  have hbw : Hidden (w.heap.size ≤ w1.heap.size) := (show Fr (fun _ => False) w w1 from f1H).size
  clear kn1 ht3H
  generalize hbb : w1.heap.size = b at *
  clear hbb f1H f3H
  go_loopg [5, 7] g.ks.length (fun k lv fv wr => ∃ (done : List (List Str)) (left placed : List Str) (rest : List (List Str)) (n : Nat), LL wr w3.heap.size lv done ∧ Tl wr fv left ∧ (∀ k', fv.ownBlock = some k' → b < k' ∧ k' < wr.heap.size ∧ lv.ownBlock ≠ some k') ∧ SM wr b n placed ∧ n + left.length ≤ 32 ∧ done.length + k ≤ 32 ∧ (∀ x ∈ left, x ∈ g.ks) ∧ levelsGo g k left placed = some rest ∧ done ++ rest = R ∧ Fr (fun k' => k' = b ∨ w3.heap.size ≤ k') w3 wr)
  case atStart =>
    have ht : To w3 (b + 1) (.slice ao g.ks.length cap) g.ks := ht3'
    exact ⟨[], g.ks, [], R, 0, LL.nil _ _, ht.tn.tl, fun k hk => ⟨(ht.own k hk).1, (ht.own k hk).2, by simp [Value.ownBlock]⟩, hs0, by simpa using hsm, by simpa using hsm, fun x hx => hx, hRH, rfl, Fr.refl _ _⟩
  case round =>
    obtain ⟨done, left, placed, rest, n, hL, htl, hob, hsm', hn, hd, hin, hgo, hR, hf⟩ := hrel
    have hLH : Hidden (LL wr w3.heap.size u5 done) := hL
    have htlH : Hidden (Tl wr u7 left) := htl
    have hobH : Hidden (∀ k', u7.ownBlock = some k' → b < k' ∧ k' < wr.heap.size ∧ u5.ownBlock ≠ some k') := hob
    have hsmH : Hidden (SM wr b n placed) := hsm'
    have hnH : Hidden (n + left.length ≤ 32) := hn
    have hdH : Hidden (done.length + gk ≤ 32) := hd
    have hinH : Hidden (∀ x ∈ left, x ∈ g.ks) := hin
    have hgoH : Hidden (levelsGo g gk left placed = some rest) := hgo
    have hRH2 : Hidden (done ++ rest = R) := hR
    have hfH : Hidden (Fr (fun k' => k' = b ∨ w3.heap.size ≤ k') w3 wr) := hf
    have fw : Hidden (Fr (fun _ => False) w wr) := Fr.over fw3 hf (fun k hk => by
      have h1 : w.heap.size ≤ b := hbw
      have h2 := (show Fr (fun _ => False) w w3 from fw3).size
      rcases hk with hk | hk <;> omega)
    obtain ⟨aoo, capo, ho, o1, o2⟩ := hL.shape
    subst ho
    obtain ⟨aol, capl, hl, l1, l2, l3, l4⟩ := htl
    subst hl
    clear hL hob hsm' hn hd hin hgo hR l3 l4 hf
    by_cases hl0 : left = []
    · subst hl0
      have hdR : Hidden (done = R) := by
        have h1 : levelsGo g gk [] placed = some rest := hgoH
        have h2 : rest = [] := by
          cases gk with
          | zero => simpa [levelsGo] using h1.symm
          | succ m => simpa [levelsGo] using h1.symm
        have h3 : done ++ rest = R := hRH2
        rw [h2, List.append_nil] at h3
        exact h3
      go_wp2
      go_ret2
      have hdR' : done = R := hdR
      subst hdR'
      exact ⟨⟨aoo, capo, rfl, LL.lower hLH (show Fr (fun _ => False) w w3 from fw3).size⟩, fw⟩
    · have hlp : 0 < left.length := List.length_pos_iff.2 hl0
      have hlpz : (0 : Int) < (left.length : Int) := by omega
      obtain ⟨k', hk'⟩ : ∃ k', gk = k' + 1 := by
        cases gk with
        | zero =>
          have h1 : levelsGo g 0 left placed = some rest := hgoH
          simp [levelsGo, hl0] at h1
        | succ k' => exact ⟨k', rfl⟩
      have hk'H : Hidden (gk = k' + 1) := hk'
      have h1 : levelsGo g gk left placed = some rest := hgoH
      rw [hk', levelsGo_succ _ _ _ _ hl0] at h1
      obtain ⟨rest', hr1, hr2⟩ := Option.map_eq_some_iff.1 h1
      have hr1H : Hidden (levelsGo g k' (left.filter fun x => !okIn g placed x) (placed ++ left.filter (okIn g placed)) = some rest') := hr1
      have hr2H : Hidden (left.filter (okIn g placed) :: rest' = rest) := hr2
      clear h1 hr1 hr2 hk' hl0
      go_wp2_with fail
      obtain ⟨gko, hgko⟩ : ∃ gko, gko = gk := ⟨gk, rfl⟩
      subst hgko
      obtain ⟨X, hX⟩ : ∃ X, X = wr := ⟨wr, rfl⟩
      subst hX
      go_loopg [8, 9, 27] left.length (fun k ev rv iv wr' => ∃ (j : Nat) (E F : List Str), iv = .int .i64 (j : Int) ∧ j ≤ left.length ∧ k = left.length - j ∧ To wr' X.heap.size ev E ∧ To wr' X.heap.size rv F ∧ E = (left.take j).filter (okIn g placed) ∧ F = (left.take j).filter (fun x => !okIn g placed x) ∧ (∀ k', ev.ownBlock = some k' → rv.ownBlock ≠ some k') ∧ Fr (fun _ => False) X wr')
      case atStart => exact ⟨0, [], [], rfl, by omega, rfl, To.nil _ _, To.nil _ _, rfl, rfl, fun k' hk => by simp [Value.ownBlock], Fr.refl _ _⟩
      case round =>
        obtain ⟨j, E, F, rfl, hj, hk, he, hr, hE, hF, hap, hf⟩ := hrel
        have hkH2 : Hidden (gk = left.length - j) := hk
        have heH : Hidden (To wr X.heap.size u8 E) := he
        have hrH : Hidden (To wr X.heap.size u9 F) := hr
        have hEH : Hidden (E = (left.take j).filter (okIn g placed)) := hE
        have hFH : Hidden (F = (left.take j).filter (fun x => !okIn g placed x)) := hF
        have hapH : Hidden (∀ k', u8.ownBlock = some k' → u9.ownBlock ≠ some k') := hap
        have hfH2 : Hidden (Fr (fun _ => False) X wr) := hf
        have hb1 : Hidden (E.length ≤ j) := by show _ ≤ _; rw [hE]; exact Nat.le_trans (List.length_filter_le _ _) (by simp; omega)
        have hb2 : Hidden (F.length ≤ j) := by show _ ≤ _; rw [hF]; exact Nat.le_trans (List.length_filter_le _ _) (by simp; omega)
        obtain ⟨aoe, cape, hev, e1, e2⟩ := he.shape
        subst hev
        obtain ⟨aor, capr, hrv, r1, r2⟩ := hr.shape
        subst hrv
        clear hk he hr hap hE hF
        by_cases hjl : j < left.length
        · obtain ⟨x, hx⟩ : ∃ x, left[j]? = some x := ⟨left[j], List.getElem?_eq_getElem hjl⟩
          have hxok : OkN x := (show Gp w (.pointer q) g from hH).okN ((show ∀ x ∈ left, x ∈ g.ks from hinH) x (List.mem_of_getElem? hx))
          obtain ⟨bl, off, rfl, cx0⟩ := Tl.at htlH hx
          have cx := hf.cellN cx0
          obtain ⟨r, hr⟩ : ∃ r, okIn g placed x = r := ⟨_, rfl⟩
          have ka := allin_any (.pointer q) g x b n placed wr ((show Gp w (.pointer q) g from hH).later (Fr.same fw hf)) (SM.later hsmH hf) hxok r hr
          have hs1 : Hidden ((left.take (j + 1)).filter (okIn g placed) = E ++ if r = true then [x] else []) := by show _ = _; rw [hEH, ← hr]; exact filter_snoc hx _
          have hs2 : Hidden ((left.take (j + 1)).filter (fun x => !okIn g placed x) = F ++ if (!r) = true then [x] else []) := by show _ = _; rw [hFH, ← hr]; exact filter_snoc hx _
          have hl32 : left.length ≤ 32 := by have : n + left.length ≤ 32 := hnH; omega
          clear hx cx0 hf hr
          cases r
          · go_wp2_with (first
              | (go_at_call 47; refine ka.mono ?_; rintro e w4 ⟨rfl, f4⟩; have f4H : Hidden (Fr (fun _ => False) wr w4) := f4; clear f4)
              | (at_builtin; refine wpList_app rfl _ _ rfl X.heap.size _ _ F [x] rfl (To.later (To.later hrH f4H) (Fr.alloc _ _ _)) rfl (Tl.one _ x) (Nat.le_trans (Nat.le_trans (show Fr (fun _ => False) X wr from hfH2).size (show Fr (fun _ => False) wr w4 from f4H).size) (by simp)) (by have : F.length ≤ j := hb2; simp only [List.length_cons, List.length_nil]; omega) ?_; intro v6 w6 t6 f6 o6; have t6H : Hidden (To w6 X.heap.size v6 (F ++ [x])) := t6; have f6H : Hidden (Fr (fun k => (Value.slice aor F.length capr).ownBlock = some k) (w4.alloc (.cells #[ct x] 9)) w6) := f6; have o6H : Hidden (v6.ownBlock = (Value.slice aor F.length capr).ownBlock ∨ v6.ownBlock = some (w4.alloc (.cells #[ct x] 9)).heap.size) := o6; clear t6 f6 o6))
            go_roundg (left.length - (j + 1))
            case measure => have := (show gk = left.length - j from hkH2); omega
            case rel =>
              have fe : Fr (fun _ => False) wr (w4.alloc (.cells #[ct x] 9)) := Fr.same f4H (Fr.alloc _ _ _)
              have oe := (show To wr X.heap.size _ E from heH).own
              have orr := (show To wr X.heap.size _ F from hrH).own
              refine ⟨j + 1, E, F ++ [x], by go_num, by omega, rfl, To.keep (To.later heH fe) f6H (fun k hk e => (show ∀ k', _ → _ from hapH) k hk e), t6H, ?_, ?_, ?_, (Fr.same hfH2 fe).over f6H (fun k hk => (orr k hk).1)⟩
              · rw [(show (left.take (j + 1)).filter (okIn g placed) = _ from hs1)]; simp
              · rw [(show (left.take (j + 1)).filter (fun x => !okIn g placed x) = _ from hs2)]; simp
              · intro k hk e
                rcases (show _ ∨ _ from o6H) with o | o
                · exact (show ∀ k', _ → _ from hapH) k hk (by rw [← o]; exact e)
                · rw [o] at e
                  have := Option.some.inj e
                  have h2 := (oe k hk).2
                  have h3 := fe.size
                  omega
          · go_wp2_with (first
              | (go_at_call 47; refine ka.mono ?_; rintro e w4 ⟨rfl, f4⟩; have f4H : Hidden (Fr (fun _ => False) wr w4) := f4; clear f4)
              | (at_builtin; refine wpList_app rfl _ _ rfl X.heap.size _ _ E [x] rfl (To.later (To.later heH f4H) (Fr.alloc _ _ _)) rfl (Tl.one _ x) (Nat.le_trans (Nat.le_trans (show Fr (fun _ => False) X wr from hfH2).size (show Fr (fun _ => False) wr w4 from f4H).size) (by simp)) (by have : E.length ≤ j := hb1; simp only [List.length_cons, List.length_nil]; omega) ?_; intro v6 w6 t6 f6 o6; have t6H : Hidden (To w6 X.heap.size v6 (E ++ [x])) := t6; have f6H : Hidden (Fr (fun k => (Value.slice aoe E.length cape).ownBlock = some k) (w4.alloc (.cells #[ct x] 9)) w6) := f6; have o6H : Hidden (v6.ownBlock = (Value.slice aoe E.length cape).ownBlock ∨ v6.ownBlock = some (w4.alloc (.cells #[ct x] 9)).heap.size) := o6; clear t6 f6 o6))
            go_roundg (left.length - (j + 1))
            case measure => have := (show gk = left.length - j from hkH2); omega
            case rel =>
              have fe : Fr (fun _ => False) wr (w4.alloc (.cells #[ct x] 9)) := Fr.same f4H (Fr.alloc _ _ _)
              have oe := (show To wr X.heap.size _ E from heH).own
              have orr := (show To wr X.heap.size _ F from hrH).own
              refine ⟨j + 1, E ++ [x], F, by go_num, by omega, rfl, t6H, To.keep (To.later hrH fe) f6H (fun k hk e => (show ∀ k', _ → _ from hapH) k e hk), ?_, ?_, ?_, (Fr.same hfH2 fe).over f6H (fun k hk => (oe k hk).1)⟩
              · rw [(show (left.take (j + 1)).filter (okIn g placed) = _ from hs1)]; simp
              · rw [(show (left.take (j + 1)).filter (fun x => !okIn g placed x) = _ from hs2)]; simp
              · intro k hk e
                rcases (show _ ∨ _ from o6H) with o | o
                · exact (show ∀ k', _ → _ from hapH) k (by rw [← o]; exact hk) e
                · rw [o] at hk
                  have := Option.some.inj hk
                  have h2 := (orr k e).2
                  have h3 := fe.size
                  omega
        · obtain rfl : j = left.length := by omega
          have hE' : Hidden (E = left.filter (okIn g placed)) := by show _ = _; rw [(show E = _ from hEH), List.take_length]
          have hF' : Hidden (F = left.filter (fun x => !okIn g placed x)) := by show _ = _; rw [(show F = _ from hFH), List.take_length]
          have hEF : Hidden (E.length + F.length = left.length) := by show _ = _; rw [hE', hF']; exact filter_two _ _
          have hXb : Hidden (b < X.heap.size) := (show SM X b n placed from hsmH).lt
          clear hf
          go_wp2_with fail
          obtain ⟨Y, hY⟩ : ∃ Y, Y = wr := ⟨wr, rfl⟩
          subst hY
          go_loopg [46] E.length (fun k iv wr' => ∃ (i m : Nat), iv = .int .i64 (i : Int) ∧ i ≤ E.length ∧ k = E.length - i ∧ m ≤ n + i ∧ SM wr' b m (placed ++ E.take i) ∧ Fr (fun k => k = b) Y wr')
          case atStart => exact ⟨0, n, rfl, by omega, rfl, by omega, by simpa using (show SM X b n placed from hsmH).later hfH2, Fr.refl _ _⟩
          case round =>
            obtain ⟨i, m, rfl, hi, hk, hm, hs, hf⟩ := hrel
            have hkH3 : Hidden (gk = E.length - i) := hk
            have hmH : Hidden (m ≤ n + i) := hm
            have hsH3 : Hidden (SM wr b m (placed ++ E.take i)) := hs
            have hfH3 : Hidden (Fr (fun k => k = b) Y wr) := hf
            clear hk hm hs
            by_cases hil : i < E.length
            · obtain ⟨x, hx⟩ : ∃ x, E[i]? = some x := ⟨E[i], List.getElem?_eq_getElem hil⟩
              have hxE : x ∈ left := by
                have h1 : x ∈ E := List.mem_of_getElem? hx
                rw [(show E = _ from hE')] at h1
                exact (List.mem_filter.1 h1).1
              have hxok : OkN x := (show Gp w (.pointer q) g from hH).okN ((show ∀ x ∈ left, x ∈ g.ks from hinH) x hxE)
              obtain ⟨bl, hao, cx0⟩ : ∃ bl, aoe = some ⟨bl, 0, none⟩ ∧ Y.cell? ⟨bl, i, none⟩ = some (ct x) := by
                rcases (show To Y X.heap.size (.slice aoe E.length cape) E from heH).2 with ⟨e, h0⟩ | ⟨g', cap', cur, e, hb', hg', rest⟩
                · omega
                · obtain ⟨bq, oq, eq, cq⟩ := Tl.at (show To Y X.heap.size (.slice aoe E.length cape) E from heH).tn.tl hx
                  cases e
                  simp only [Option.some.injEq, Addr.mk.injEq, and_true] at eq
                  obtain ⟨rfl, rfl⟩ := eq
                  exact ⟨g', rfl, by simpa using cq⟩
              subst hao
              have hbl : X.heap.size ≤ bl := ((show To Y X.heap.size _ E from heH).own bl rfl).1
              have hXb' : b < X.heap.size := hXb
              have cx := hf.cell cx0 (fun e => by have : bl = b := e; omega)
              have kp := put_any b m (placed ++ E.take i) x wr hsH3 hxok (by have h1 : m ≤ n + i := hmH; have h2 : n + left.length ≤ 32 := hnH; have h3 : E.length + F.length = left.length := hEF; omega)
              have htk : Hidden (E.take (i + 1) = E.take i ++ [x]) := by show _ = _; rw [List.take_add_one, hx]; rfl
              clear hx cx0 hf hbl hXb'
              go_wp2_with (go_at_call 37; refine kp.mono ?_; rintro e w5 ⟨r5, n5, rfl, s5, q5, f5⟩; have s5H : Hidden (SM w5 b n5 (x :: (placed ++ E.take i))) := s5; have q5H : Hidden (n5 ≤ m + 1) := q5; have f5H : Hidden (Fr (fun k => k = b) wr w5) := f5; clear s5 q5 f5)
              go_roundg (E.length - (i + 1))
              case measure => have := (show gk = E.length - i from hkH3); omega
              case rel =>
                have h1 : m ≤ n + i := hmH
                have h2 : n5 ≤ m + 1 := q5H
                refine ⟨i + 1, n5, by go_num, by omega, rfl, by omega, ?_, Fr.same hfH3 f5H⟩
                rw [(show E.take (i + 1) = _ from htk)]
                exact SM.same s5H (fun y => by simp only [List.mem_cons, List.mem_append, List.not_mem_nil, or_false]; constructor <;> (intro h; rcases h with h | h | h <;> simp [h]))
            · obtain rfl : i = E.length := by omega
              have hs4 : Hidden (SM wr b m (placed ++ E)) := by
                have := (show SM wr b m (placed ++ E.take E.length) from hsH3)
                rw [List.take_length] at this
                exact this
              have hapL : Hidden (∀ k, (Value.slice aoe E.length cape).ownBlock = some k → w3.heap.size ≤ k ∧ k < wr.heap.size ∧ (Value.slice aoo done.length capo).ownBlock ≠ some k) := fun k hk => by
                have h1 := (show To Y X.heap.size _ E from heH).own k hk
                have h2 := (show Fr (fun k' => k' = b ∨ w3.heap.size ≤ k') w3 X from hfH).size
                refine ⟨by omega, Nat.lt_of_lt_of_le h1.2 (show Fr (fun k => k = b) Y wr from hfH3).size, fun e => ?_⟩
                have h3 := ((show LL X w3.heap.size _ done from hLH).own k e).2
                omega
              have hLw : Hidden (LL wr w3.heap.size (.slice aoo done.length capo) done) := LL.keep (LL.later hLH hfH2) hf (fun k h1 _ e => by
                have h2 : b < w3.heap.size := (show SM w3 b 0 [] from hs0).lt
                omega)
              have hew : Hidden (Tl wr (.slice aoe E.length cape) E) := Tl.keep (show To Y X.heap.size _ E from heH).tn.tl hf (fun k hk e => by
                have h1 := ((show To Y X.heap.size _ E from heH).own k hk).1
                have h2 : b < X.heap.size := hXb
                omega)
              have hrw : Hidden (Tl wr (.slice aor F.length capr) F) := Tl.keep (show To Y X.heap.size _ F from hrH).tn.tl hf (fun k hk e => by
                have h1 := ((show To Y X.heap.size _ F from hrH).own k hk).1
                have h2 : b < X.heap.size := hXb
                omega)
              have hszw : Hidden (w3.heap.size ≤ wr.heap.size) := Nat.le_trans (Nat.le_trans (show Fr (fun k' => k' = b ∨ w3.heap.size ≤ k') w3 X from hfH).size (show Fr (fun _ => False) X Y from hfH2).size) (show Fr (fun k => k = b) Y wr from hfH3).size
              clear hf
              go_wp2_with (at_builtin; refine wpList_appl2 rfl _ _ rfl w3.heap.size _ _ (.slice aoe E.length cape) done E rfl (LL.later hLw (Fr.alloc _ _ _)) rfl ⟨_, 0, _, rfl, box_cell _ _ _⟩ (Tl.later hew (Fr.alloc _ _ _)) (fun k hk => by have h1 := (show ∀ k, _ → w3.heap.size ≤ k ∧ k < wr.heap.size ∧ _ from hapL) k hk; exact ⟨h1.1, by simp; omega, h1.2.2⟩) (Nat.le_trans hszw (by simp)) (by have : done.length + gko ≤ 32 := hdH; omega) ?_; intro v7 w7 l7 f7 o7; have l7H : Hidden (LL w7 w3.heap.size v7 (done ++ [E])) := l7; have f7H : Hidden (Fr (fun k => (Value.slice aoo done.length capo).ownBlock = some k) (wr.alloc (.cells #[.slice aoe E.length cape] 23)) w7) := f7; have o7H : Hidden (v7.ownBlock = (Value.slice aoo done.length capo).ownBlock ∨ v7.ownBlock = some (wr.alloc (.cells #[.slice aoe E.length cape] 23)).heap.size) := o7; clear l7 f7 o7)
              go_roundg k'
              case measure => have := (show gko = k' + 1 from hk'H); omega
              case rel =>
                have fa := Fr.alloc (fun _ => False) wr (.cells #[.slice aoe E.length cape] 23)
                have hk1 : gko = k' + 1 := hk'H
                have hd1 : done.length + gko ≤ 32 := hdH
                have hn1 : n + left.length ≤ 32 := hnH
                have hm1 : m ≤ n + E.length := hmH
                have hef : E.length + F.length = left.length := hEF
                have oL := (show LL wr w3.heap.size _ done from hLw).own
                have oF := (show To Y X.heap.size _ F from hrH).own
                have hbX : b < X.heap.size := hXb
                have hYw := (show Fr (fun k => k = b) Y wr from hfH3).size
                have hXY := (show Fr (fun _ => False) X Y from hfH2).size
                have hb3 : b < w3.heap.size := (show SM w3 b 0 [] from hs0).lt
                have oLX := (show LL X w3.heap.size _ done from hLH).own
                refine ⟨done ++ [E], F, placed ++ E, rest', m, l7H, Tl.keep (Tl.later hrw fa) f7H (fun k hk e => ?_), fun k hk => ?_, SM.keep (SM.later hs4 fa) f7H (fun e => ?_), by omega, by simp; omega, fun y hy => ?_, ?_, ?_, ?_⟩
                · have := (oF k hk).1
                  have := (oLX k e).2
                  omega
                · have h1 := oF k hk
                  refine ⟨by omega, Nat.lt_of_lt_of_le (Nat.lt_of_lt_of_le h1.2 hYw) (Nat.le_trans fa.size (show Fr (fun k => (Value.slice aoo done.length capo).ownBlock = some k) _ w7 from f7H).size), fun e => ?_⟩
                  rcases (show _ ∨ _ from o7H) with o | o
                  · rw [o] at e
                    have := (oLX k e).2
                    omega
                  · rw [o] at e
                    have := Option.some.inj e
                    have := fa.size
                    omega
                · have := (oLX b e).1
                  omega
                · rw [(show F = _ from hF')] at hy
                  exact (show ∀ x ∈ left, x ∈ g.ks from hinH) y (List.mem_filter.1 hy).1
                · rw [(show E = _ from hE'), (show F = _ from hF')]
                  exact hr1H
                · have h1 : done ++ rest = R := hRH2
                  rw [← (show left.filter (okIn g placed) :: rest' = rest from hr2H), ← (show E = _ from hE')] at h1
                  rw [List.append_assoc]
                  exact h1
                · have a1 : Fr (fun k' => k' = b ∨ w3.heap.size ≤ k') w3 Y := Fr.same hfH (Fr.mono hfH2 fun _ _ f => f.elim)
                  have a2 : Fr (fun k' => k' = b ∨ w3.heap.size ≤ k') w3 wr := a1.same (Fr.mono hfH3 fun k _ e => Or.inl e)
                  exact (a2.same (fa.mono fun _ _ f => f.elim)).same (Fr.mono f7H fun k _ e => Or.inr (oL k e).1)
end Go.Proofs.Ytajefmmggefbeaa.Dg
