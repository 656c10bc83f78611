/- longer: the ways with one name more. -/
import Derived.Test.YtajefmmggefbeaaDgL
namespace Go.Proofs.Ytajefmmggefbeaa.Dg
open Go.RowKit Go.Sort
set_option linter.unusedSimpArgs false
set_option linter.unusedVariables false

def potU (g : Gr) (met : List Str) : Nat := ((g.ks.flatMap g.im).filter fun x => decide (x ∉ met)).length
theorem flat_len {f : Str → List Str} (h : ∀ n, (f n).length ≤ 16) : ∀ (l : List Str), (l.flatMap f).length ≤ 16 * l.length
  | [] => by simp
  | x :: r => by
    rw [List.flatMap_cons, List.length_append, List.length_cons]
    have := flat_len h r
    have := h x
    omega
theorem potU_le {w : World} {p : Value} {g : Gr} (h : Gp w p g) (met : List Str) : potU g met ≤ 512 := by
  have h1 := flat_len h.ims g.ks
  have h2 := h.small
  have h3 := List.length_filter_le (fun x => decide (x ∉ met)) (g.ks.flatMap g.im)
  unfold potU
  omega
theorem potU_put {g : Gr} (hg : g.WF) {met : List Str} {x y : Str} (hy : y ∈ g.im x) (hn : y ∉ met) : potU g (y :: met) + 1 ≤ potU g met := by
  have hyU : y ∈ g.ks.flatMap g.im := by
    refine List.mem_flatMap.2 ⟨x, Classical.byContradiction fun hn => ?_, hy⟩
    rw [hg.no _ hn] at hy; cases hy
  exact filter_less (fun z hz => by simp [hz]) hyU hn (by simp)
/-- From a place of a path's last name's imports on. -/
def inS (g : Gr) (q ns : List Str) (rest : List (List Str)) (met : List Str) : List (List Str) × List Str :=
  ((stepN q ns met).1 ++ (longerS g rest (stepN q ns met).2).1, (longerS g rest (stepN q ns met).2).2)
theorem longerS_cons (g : Gr) (q : List Str) (r : List (List Str)) (met : List Str) : longerS g (q :: r) met = inS g q (g.im (lastP q)) r met := rfl
theorem inS_nil (g : Gr) (q : List Str) (r : List (List Str)) (met : List Str) : inS g q [] r met = longerS g r met := by
  unfold inS; simp [stepN]
theorem inS_in (g : Gr) (q ns : List Str) (r : List (List Str)) (met : List Str) (n : Str) (h : n ∈ met) : inS g q (n :: ns) r met = inS g q ns r met := by
  unfold inS; rw [stepN, if_pos h]
theorem inS_out (g : Gr) (q ns : List Str) (r : List (List Str)) (met : List Str) (n : Str) (h : n ∉ met) : inS g q (n :: ns) r met = ((q ++ [n]) :: (inS g q ns r (n :: met)).1, (inS g q ns r (n :: met)).2) := by
  unfold inS; rw [stepN, if_neg h]; rfl
theorem lastP_at {q : List Str} (h : q ≠ []) : q[q.length - 1]? = some (lastP q) := by
  rw [← List.getLast?_eq_getElem?]
  cases hq : q.getLast? with
  | none => exact absurd (List.getLast?_eq_none_iff.1 hq) h
  | some x => simp [lastP, List.getLastD_eq_getLast?, hq]
set_option maxRecDepth 20000 in
set_option maxHeartbeats 8000000 in
theorem longer_any (V : World) (p : Value) (g : Gr) (bm n : Nat) (met : List Str) (v : Value) (round : List (List Str)) (M : Nat) (w : World) (h : Gp V p g) (hV : Fr (fun _ => False) V w) (hb : V.heap.size ≤ bm) (hs : SM w bm n met) (hL : LL w (bm + 1) v round)
    (hM : M ≤ 1000000) (hq : ∀ q ∈ round, q ≠ [] ∧ q.length ≤ M ∧ ∀ x ∈ q, OkN x) (hn : n + potU g met ≤ 512) (Rn : List (List Str)) (Rm : List Str) (hR : longerS g round met = (Rn, Rm)) :
    Calls Try.prog 52 #[p, v, .map (some bm)] w fun e w' => ∃ ao cap n', e = .returned (.slice ao Rn.length cap) ∧ LL w' w.heap.size (.slice ao Rn.length cap) Rn ∧ SM w' bm n' Rm ∧ n' + potU g Rm ≤ 512 ∧ Fr (fun k => k = bm) w w' := by
  obtain ⟨mb, hgt, kt⟩ := h.table
  have hgtH : Hidden (Gt V (.map mb) g) := hgt
  have hH : Hidden (Gp V p g) := h
  have hVH : Hidden (Fr (fun _ => False) V w) := hV
  have hbH : Hidden (V.heap.size ≤ bm) := hb
  have hbw : Hidden (bm < w.heap.size) := hs.lt
  have hLH : Hidden (LL w (bm + 1) v round) := hL
  have hqH : Hidden (∀ q ∈ round, q ≠ [] ∧ q.length ≤ M ∧ ∀ x ∈ q, OkN x) := hq
  have hsH : Hidden (SM w bm n met) := hs
  have hnH : Hidden (n + potU g met ≤ 512) := hn
  have hp0 : Hidden (potU g met ≤ 512) := potU_le h met
  have hRH : Hidden (longerS g round met = (Rn, Rm)) := hR
  obtain ⟨ao, cap, rfl, l1, l2⟩ := hL.shape
  clear hgt h hV hb hq hs hn hR hL
  go_enter Try.func52, Try.ntmps52
  go_wp2_with fail
  go_loopg [7, 14] round.length (fun k nv iv wr => ∃ (j : Nat) (done : List (List Str)) (m : List Str) (n' : Nat), iv = .int .i64 (j : Int) ∧ j ≤ round.length ∧ k = round.length - j ∧ LL wr w.heap.size nv done ∧ SM wr bm n' m ∧ n' + potU g m ≤ 512 ∧ done.length + potU g m ≤ 512 ∧ done ++ (longerS g (round.drop j) m).1 = Rn ∧ (longerS g (round.drop j) m).2 = Rm ∧ Fr (fun k => k = bm) w wr)
  case atStart => exact ⟨0, [], met, n, rfl, by omega, rfl, LL.nil _ _, hsH, hnH, by have : potU g met ≤ 512 := hp0; simpa using this, by rw [List.drop_zero, List.nil_append, (show longerS g round met = (Rn, Rm) from hRH)], by rw [List.drop_zero, (show longerS g round met = (Rn, Rm) from hRH)], Fr.refl _ _⟩
  case round =>
    obtain ⟨j, done, m, n', rfl, hj, hk, hLn, hsm, hn1, hn2, he1, he2, hf⟩ := hrel
    have hkH : Hidden (gk = round.length - j) := hk
    have hLnH : Hidden (LL wr w.heap.size u7 done) := hLn
    have hsmH : Hidden (SM wr bm n' m) := hsm
    have hn1H : Hidden (n' + potU g m ≤ 512) := hn1
    have hn2H : Hidden (done.length + potU g m ≤ 512) := hn2
    have he1H : Hidden (done ++ (longerS g (round.drop j) m).1 = Rn) := he1
    have he2H : Hidden ((longerS g (round.drop j) m).2 = Rm) := he2
    have hfH : Hidden (Fr (fun k => k = bm) w wr) := hf
    obtain ⟨aon, capn, hnv, n3, n4⟩ := hLn.shape
    subst hnv
    have fV : Hidden (Fr (fun _ => False) V wr) := Fr.over hVH hf (fun k hk => by subst hk; exact hbH)
    clear hk hsm hn1 hn2 he1 he2 hLn
    by_cases hjl : j < round.length
    · obtain ⟨q, hqj⟩ : ∃ q, round[j]? = some q := ⟨round[j], List.getElem?_eq_getElem hjl⟩
      obtain ⟨hqne, hqM, hqok⟩ := (show ∀ q ∈ round, q ≠ [] ∧ q.length ≤ M ∧ ∀ x ∈ q, OkN x from hqH) q (List.mem_of_getElem? hqj)
      obtain ⟨B, qv, hao, c1w, hqvw, hqb⟩ := LL.at hLH hqj
      subst hao
      have hBb : bm + 1 ≤ B := ((show LL w (bm + 1) (.slice (some ⟨B, 0, none⟩) round.length cap) round from hLH).own B rfl).1
      have c1 := hf.cell c1w (fun e => by have e' : B = bm := e; omega)
      have hqv : Tl wr qv q := hqvw.keep hf (fun k hk e => by have := hqb k hk; omega)
      clear c1w hBb
      obtain ⟨z, hz⟩ : ∃ z, lastP q = z := ⟨_, rfl⟩
      have hzl := lastP_at hqne
      rw [hz] at hzl
      obtain ⟨aoi, capi, htl, hlk⟩ := (show Gt V (.map mb) g from hgtH).looks z (hqok z (List.mem_of_getElem? hzl))
      have him := (show Gp V p g from hH).ims z
      have kt' : ∀ k, Calls Try.prog 30 #[p] (wr.drewN k) fun e w'' => e = .returned (.map mb) ∧ w'' = wr.drewN k := fun k => kt _ (Fr.same fV (fr_drewN wr k))
      have hl : ∀ k, (Instr.lookup 52 (.map mb) (ct z) false).run Try.prog (wr.drewN k) = .ok (.slice aoi (g.im z).length capi) (wr.drewN k) := fun k => hlk _ (Fr.same fV (fr_drewN wr k))
      have hcapi := Tl.cap_le htl
      have htlH : Hidden (Tl V (.slice aoi (g.im z).length capi) (g.im z)) := htl
      obtain ⟨aoq, capq, hqs, q1, q2, q3, q4⟩ := id hqv
      subst hqs
      obtain ⟨Bq, offq, rfl, cz⟩ := Tl.at hqv hzl
      have hqvH : Hidden (Tl w (.slice (some ⟨Bq, offq, none⟩) q.length capq) q) := hqvw
      have hqbH : Hidden (bm + 1 ≤ Bq) := hqb Bq rfl
      clear hqb
      have hql : 1 ≤ q.length := List.length_pos_iff.2 hqne
      have i1 : (0 : Int) ≤ (q.length : Int) - 1 := by omega
      have i2 : (q.length : Int) - 1 < (q.length : Int) := by omega
      have i4 : ((q.length : Int) - 1).toNat = q.length - 1 := by omega
      have hwr : IntKind.i64.wrap ((q.length : Int) - 1) = (q.length : Int) - 1 := wrap_small (by omega) (by omega)
      have hE1 : Hidden (done ++ (inS g q (g.im z) (round.drop (j + 1)) m).1 = Rn) := by
        have := (show done ++ (longerS g (round.drop j) m).1 = Rn from he1H)
        rw [drop_at hqj, longerS_cons, hz] at this
        exact this
      have hE2 : Hidden ((inS g q (g.im z) (round.drop (j + 1)) m).2 = Rm) := by
        have := (show (longerS g (round.drop j) m).2 = Rm from he2H)
        rw [drop_at hqj, longerS_cons, hz] at this
        exact this
      have hqMH : Hidden (q.length ≤ M) := hqM
      clear htl hlk hqj hqv hqvw hqok hqne hzl hz q3 q4 hf hqM
      obtain ⟨ql, hqq⟩ : ∃ ql, q.length = ql := ⟨_, rfl⟩
      have hqlH : Hidden (q.length = ql) := hqq
      rw [hqq] at c1 q1 cz hqvH i1 i2 i4 hwr hql hqMH
      clear hqq
      go_wp2_with fail
      go_quiet ((go_at_call 30; exact Calls.quiet_of_same (kt' _)))
      go_wp2_with fail
      obtain ⟨gko, hgko⟩ : ∃ gko, gko = gk := ⟨gk, rfl⟩
      subst hgko
      obtain ⟨X, hX⟩ : ∃ X, X = wr := ⟨wr, rfl⟩
      subst hX
      go_loopg [7, 28] (g.im z).length (fun k nv iv wr' => ∃ (i : Nat) (done' : List (List Str)) (m' : List Str) (n'' : Nat), iv = .int .i64 (i : Int) ∧ i ≤ (g.im z).length ∧ k = (g.im z).length - i ∧ LL wr' w.heap.size nv done' ∧ SM wr' bm n'' m' ∧ n'' + potU g m' ≤ 512 ∧ done'.length + potU g m' ≤ 512 ∧ done' ++ (inS g q ((g.im z).drop i) (round.drop (j + 1)) m').1 = Rn ∧ (inS g q ((g.im z).drop i) (round.drop (j + 1)) m').2 = Rm ∧ Fr (fun k => k = bm) w wr')
      case atStart => exact ⟨0, done, m, n', rfl, by omega, rfl, LL.later hLnH (fr_drewN _ _), SM.later hsmH (fr_drewN _ _), hn1H, hn2H, hE1, hE2, Fr.same hfH ((fr_drewN X nq).mono fun _ _ f => f.elim)⟩
      case round =>
        obtain ⟨i, done', m', n'', rfl, hi, hk, hLn, hsm, hn1, hn2, he1, he2, hf⟩ := hrel
        have hkH2 : Hidden (gk = (g.im z).length - i) := hk
        have hLnH2 : Hidden (LL wr w.heap.size u7 done') := hLn
        have hsmH2 : Hidden (SM wr bm n'' m') := hsm
        have hn1H2 : Hidden (n'' + potU g m' ≤ 512) := hn1
        have hn2H2 : Hidden (done'.length + potU g m' ≤ 512) := hn2
        have he1H2 : Hidden (done' ++ (inS g q ((g.im z).drop i) (round.drop (j + 1)) m').1 = Rn) := he1
        have he2H2 : Hidden ((inS g q ((g.im z).drop i) (round.drop (j + 1)) m').2 = Rm) := he2
        have fw2 : Hidden (Fr (fun k => k = bm) w wr) := hf
        have fV2 : Hidden (Fr (fun _ => False) V wr) := Fr.over hVH hf (fun k hk => by subst hk; exact hbH)
        obtain ⟨aon', capn', hnv, n3', n4'⟩ := hLn.shape
        subst hnv
        clear hk hsm hn1 hn2 he1 he2 hLn
        by_cases hil : i < (g.im z).length
        · obtain ⟨y, hy⟩ : ∃ y, (g.im z)[i]? = some y := ⟨(g.im z)[i], List.getElem?_eq_getElem hil⟩
          have hyim : Hidden (y ∈ g.im z) := List.mem_of_getElem? hy
          have hyok : OkN y := (show Gp V p g from hH).okI (List.mem_of_getElem? hy)
          obtain ⟨b2, off2, rfl, c2⟩ := Tl.at (Tl.later htlH fV2) hy
          have he3 : Hidden (done' ++ (inS g q (y :: (g.im z).drop (i + 1)) (round.drop (j + 1)) m').1 = Rn) := by
            have := (show done' ++ _ = Rn from he1H2)
            rw [drop_at hy] at this
            exact this
          have he4 : Hidden ((inS g q (y :: (g.im z).drop (i + 1)) (round.drop (j + 1)) m').2 = Rm) := by
            have := (show (inS g q _ _ m').2 = Rm from he2H2)
            rw [drop_at hy] at this
            exact this
          clear hy
          by_cases hym : y ∈ m'
          · have kp := put_in bm n'' m' y hym wr hsmH2 hyok
            have he5 : Hidden (done' ++ (inS g q ((g.im z).drop (i + 1)) (round.drop (j + 1)) m').1 = Rn) := by
              have := (show done' ++ _ = Rn from he3)
              rw [inS_in _ _ _ _ _ _ hym] at this
              exact this
            have he6 : Hidden ((inS g q ((g.im z).drop (i + 1)) (round.drop (j + 1)) m').2 = Rm) := by
              have := (show (inS g q _ _ m').2 = Rm from he4)
              rw [inS_in _ _ _ _ _ _ hym] at this
              exact this
            clear hym hf
            go_wp2_with (go_at_call 37; refine kp.mono ?_; rintro e w2 ⟨rfl, f2⟩; have f2H : Hidden (Fr (fun _ => False) wr w2) := f2; clear f2)
            go_roundg ((g.im z).length - (i + 1))
            case measure => have := (show gk = (g.im z).length - i from hkH2); omega
            case rel => exact ⟨i + 1, done', m', n'', by go_num, by omega, rfl, LL.later hLnH2 f2H, SM.later hsmH2 f2H, hn1H2, hn2H2, he5, he6, Fr.same fw2 (Fr.mono f2H fun _ _ f => f.elim)⟩
          · have hn9 : n'' < 9223372036854775807 := by have : n'' + potU g m' ≤ 512 := hn1H2; omega
            have kp := put_new bm n'' m' y hym wr hsmH2 hyok hn9
            have hpp : Hidden (potU g (y :: m') + 1 ≤ potU g m') := potU_put (show Gp V p g from hH).wf hyim hym
            have he5 : Hidden ((done' ++ [q ++ [y]]) ++ (inS g q ((g.im z).drop (i + 1)) (round.drop (j + 1)) (y :: m')).1 = Rn) := by
              have := (show done' ++ _ = Rn from he3)
              rw [inS_out _ _ _ _ _ _ hym] at this
              rw [List.append_assoc]
              exact this
            have he6 : Hidden ((inS g q ((g.im z).drop (i + 1)) (round.drop (j + 1)) (y :: m')).2 = Rm) := by
              have := (show (inS g q _ _ m').2 = Rm from he4)
              rw [inS_out _ _ _ _ _ _ hym] at this
              exact this
            have hqwr : Hidden (Tl wr (.slice (some ⟨Bq, offq, none⟩) ql capq) q) := Tl.keep hqvH hf (fun k hk e => by
              have : Bq = k := by simpa [Value.ownBlock] using hk
              have : bm + 1 ≤ Bq := hqbH
              omega)
            clear hym hf
            go_wp2_with (first
              | (go_at_call 37; refine kp.mono ?_; rintro e w2 ⟨rfl, s2, f2⟩; have s2H : Hidden (SM w2 bm (n'' + 1) (y :: m')) := s2; have f2H : Hidden (Fr (fun k => k = bm) wr w2) := f2; clear s2 f2; have kc := clone_any _ q w2 (Tl.keep hqwr f2H (fun k hk e => by
                  have : Bq = k := by simpa [Value.ownBlock] using hk
                  have : bm + 1 ≤ Bq := hqbH
                  omega)) (by have e1 : q.length = ql := hqlH; have e2 : ql ≤ M := hqMH; omega))
              | (go_at_call 34; refine kc.mono ?_; rintro e w3 ⟨v3, rfl, t3, f3⟩; have t3H : Hidden (To w3 w2.heap.size v3 q) := t3; have f3H : Hidden (Fr (fun _ => False) w2 w3) := f3; clear t3 f3)
              | (at_builtin; have t4' := t4H; refine wpList_appl rfl _ _ rfl w.heap.size _ _ (.slice ao4 (q.length + 1) cap4) done' (q ++ [y]) rfl ?_ rfl ⟨_, 0, _, rfl, box_cell _ _ _⟩ ?_ ?_ ?_ ?_ ?_)
              | (at_builtin; refine wpList_app rfl _ _ rfl w2.heap.size _ _ q [y] rfl (To.later t3H (Fr.alloc _ _ _)) rfl (Tl.one _ y) (Nat.le_trans (show Fr (fun _ => False) w2 w3 from f3H).size (by simp)) (by have e1 : q.length = ql := hqlH; have e2 : ql ≤ M := hqMH; simp only [List.length_cons, List.length_nil]; omega) ?_; intro v4 w4 t4 f4 _; obtain ⟨ao4, cap4, rfl, _, _⟩ := t4.shape; have t4H : Hidden (To w4 w2.heap.size (.slice ao4 (q.length + 1) cap4) (q ++ [y])) := (show (q ++ [y]).length = q.length + 1 by simp) ▸ t4; have f4H : Hidden (Fr (fun k => v3.ownBlock = some k) (w3.alloc (.cells #[ct y] 9)) w4) := f4; clear t4 f4))
            all_goals (
              have g4 : Fr (fun k => k = bm) wr (w4.alloc (.cells #[.slice ao4 (q.length + 1) cap4] 23)) := by
                have a1 : Fr (fun k => k = bm) wr w3 := Fr.same f2H (Fr.mono f3H fun _ _ f => f.elim)
                have a2 : Fr (fun k => k = bm) wr w4 := (a1.same (Fr.alloc _ _ _)).over f4H (fun k hk => Nat.le_trans (show Fr (fun k => k = bm) wr w2 from f2H).size ((show To w3 w2.heap.size v3 q from t3H).own k hk).1)
                exact a2.same (Fr.alloc _ _ _))
            · exact LL.keep hLnH2 g4 (fun k h1 _ e => by have : bm < w.heap.size := hbw; omega)
            · exact Tl.later (show To w4 _ _ (q ++ [y]) from t4H).tn.tl (Fr.alloc _ _ _)
            · intro k hk
              obtain ⟨o1, o2⟩ := (show To w4 _ _ (q ++ [y]) from t4H).own k hk
              have s1 := (show Fr (fun k => k = bm) w wr from fw2).size
              have s2 := (show Fr (fun k => k = bm) wr w2 from f2H).size
              refine ⟨by omega, by simp; omega, fun e => ?_⟩
              have := ((show LL wr w.heap.size _ done' from hLnH2).own k e).2
              omega
            · exact Nat.le_trans (show Fr (fun k => k = bm) w wr from fw2).size g4.size
            · have : done'.length + potU g m' ≤ 512 := hn2H2
              omega
            · intro v5 w5 l5 f5
              have l5H : Hidden (LL w5 w.heap.size v5 (done' ++ [q ++ [y]])) := l5
              have f5H : Hidden (Fr (fun k => (Value.slice aon' done'.length capn').ownBlock = some k) (w4.alloc (.cells #[.slice ao4 (q.length + 1) cap4] 23)) w5) := f5
              have g4H : Hidden (Fr (fun k => k = bm) wr (w4.alloc (.cells #[.slice ao4 (q.length + 1) cap4] 23))) := g4
              clear l5 f5 g4
              go_wp2
              go_roundg ((g.im z).length - (i + 1))
              case measure => have := (show gk = (g.im z).length - i from hkH2); omega
              case rel =>
                have own5 : ∀ k, (Value.slice aon' done'.length capn').ownBlock = some k → w.heap.size ≤ k := fun k hk => ((show LL wr w.heap.size _ done' from hLnH2).own k hk).1
                have s5 : SM w5 bm (n'' + 1) (y :: m') := by
                  have b1 : SM w3 bm (n'' + 1) (y :: m') := SM.later s2H f3H
                  have b2 : SM w4 bm (n'' + 1) (y :: m') := SM.keep (b1.later (Fr.alloc _ _ _)) f4H (fun hk => by
                    have := ((show To w3 w2.heap.size v3 q from t3H).own bm hk).1
                    have : bm < w2.heap.size := (show SM w2 bm (n'' + 1) (y :: m') from s2H).lt
                    omega)
                  exact SM.keep (b2.later (Fr.alloc _ _ _)) f5H (fun hk => by have := own5 bm hk; have : bm < w.heap.size := hbw; omega)
                have q1 : potU g (y :: m') + 1 ≤ potU g m' := hpp
                have q2 : n'' + potU g m' ≤ 512 := hn1H2
                have q3 : done'.length + potU g m' ≤ 512 := hn2H2
                refine ⟨i + 1, done' ++ [q ++ [y]], y :: m', n'' + 1, by go_num, by omega, rfl, l5H, s5, by omega, by simp; omega, he5, he6, ?_⟩
                exact (Fr.same fw2 g4H).over f5H own5
        · obtain rfl : i = (g.im z).length := by omega
          have he5 : Hidden (done' ++ (longerS g (round.drop (j + 1)) m').1 = Rn) := by
            have := (show done' ++ _ = Rn from he1H2)
            rw [List.drop_eq_nil_of_le (Nat.le_refl _), inS_nil] at this
            exact this
          have he6 : Hidden ((longerS g (round.drop (j + 1)) m').2 = Rm) := by
            have := (show (inS g q _ _ m').2 = Rm from he2H2)
            rw [List.drop_eq_nil_of_le (Nat.le_refl _), inS_nil] at this
            exact this
          clear hf
          go_wp2
          go_roundg (round.length - (j + 1))
          case measure => have := (show gko = round.length - j from hkH); omega
          case rel => exact ⟨j + 1, done', m', n'', by go_num, by omega, rfl, hLnH2, hsmH2, hn1H2, hn2H2, he5, he6, fw2⟩
    · obtain rfl : j = round.length := by omega
      have hE1 : Hidden (done = Rn) := by
        have := (show done ++ (longerS g (round.drop round.length) m).1 = Rn from he1H)
        rw [List.drop_eq_nil_of_le (Nat.le_refl _)] at this
        show done = Rn
        simpa [longerS] using this
      have hE2 : Hidden (m = Rm) := by
        have := (show (longerS g (round.drop round.length) m).2 = Rm from he2H)
        rw [List.drop_eq_nil_of_le (Nat.le_refl _)] at this
        show m = Rm
        simpa [longerS] using this
      clear hf
      go_wp2
      go_ret
      subst hE1 hE2
      exact ⟨aon, capn, n', rfl, hLnH, hsmH, hn1H, hfH⟩
end Go.Proofs.Ytajefmmggefbeaa.Dg
