/- WireCut walked. -/
import Derived.Test.YtflemhekoffpoaaWiCut
import Derived.Test.YtflemhekoffpoaaWiBackWalk
namespace Go.Proofs.Ytflemhekoffpoaa
open Go.RowKit
set_option linter.unusedSimpArgs false
set_option linter.unusedVariables false

/-- How many bytes the first values are, one behind the other. -/
def endsS (os : List OpD) (j : Nat) : List Value := (List.range j).map fun i => .int .i64 ((((os.take (i + 1)).map opS).flatten.length : Nat) : Int)
theorem endsS_next (os : List OpD) (j : Nat) : endsS os (j + 1) = endsS os j ++ [.int .i64 ((((os.take (j + 1)).map opS).flatten.length : Nat) : Int)] := by
  simp [endsS, List.range_succ]
theorem endsS_at (os : List OpD) (j i : Nat) (h : i < j) : (endsS os j)[i]? = some (.int .i64 ((((os.take (i + 1)).map opS).flatten.length : Nat) : Int)) := by
  simp [endsS, List.getElem?_range h]
@[simp] theorem endsS_length (os : List OpD) (j : Nat) : (endsS os j).length = j := by simp [endsS]

/-- A writer and a list of numbers of the call's own, apart from one another. -/
def WE (W : World) (pv ev : Value) (w : World) (bs : List UInt8) (es : List Value) (n : Nat) : Prop :=
  ∃ g, WrO pv w bs g n ∧ w.ownsRow W.heap.size 3 1 ev es.length es ∧ Fr (fun _ => False) W w ∧ (∀ k, pblk pv = some k ∨ g = some k → W.heap.size ≤ k) ∧ ∀ k, ev.ownBlock = some k → ¬ (pblk pv = some k ∨ g = some k)
theorem own_kept {S : Nat → Prop} {w w' : World} {B : Nat} {e : TypeId} {v : Value} {n : Nat} {xs : List Value} (h : w.ownsRow B e 1 v n xs) (hf : Fr S w w') (hS : ∀ k, v.ownBlock = some k → ¬ S k) : w'.ownsRow B e 1 v n xs := by
  refine ⟨h.1, ?_⟩
  rcases h.2 with hn | ⟨g, cap, cur, rfl, hb, hg, rest⟩
  · exact Or.inl hn
  · exact Or.inr ⟨g, cap, cur, rfl, hb, hf.heap hg (hS g rfl), rest⟩
theorem we_fr {W w : World} {pv ev : Value} {bs : List UInt8} {es : List Value} {n : Nat} (h : WE W pv ev w bs es n) : Fr (fun _ => False) W w := by
  obtain ⟨g, h1, h2, h3, h4, h5⟩ := h
  exact h3
theorem we_own {W w : World} {pv ev : Value} {bs : List UInt8} {es : List Value} {n : Nat} (h : WE W pv ev w bs es n) : WOwn W pv w bs n := by
  obtain ⟨g, h1, h2, h3, h4, h5⟩ := h
  exact ⟨g, h1, h3, h4⟩
theorem we_row {W w : World} {pv ev : Value} {bs : List UInt8} {es : List Value} {n : Nat} (h : WE W pv ev w bs es n) : w.ownsRow W.heap.size 3 1 ev es.length es := by
  obtain ⟨g, h1, h2, h3, h4, h5⟩ := h
  exact h2
theorem we_write (W : World) (pv ev : Value) (o : OpD) (lv tv : Value) (bs : List UInt8) (es : List Value) (n : Nat) (w : World) (hop : OpIs W (opv o.k o.N o.s lv tv o.mo o.lo) o lv tv) (h : WE W pv ev w bs es ((opS o).length + n)) :
    Calls Try.prog 8 #[pv, opv o.k o.N o.s lv tv o.mo o.lo] w fun e w' => e = .returned (.tuple #[]) ∧ WE W pv ev w' (bs ++ opS o) es n := by
  obtain ⟨g, h1, h2, h3, h4, h5⟩ := h
  refine (write_any pv _ o lv tv bs g n w h1 (hop.later h3) (Apart.old hop.2.1 h4) (Apart.old hop.2.2.1 h4)).mono ?_
  rintro e w' ⟨rfl, g', a, b, c⟩
  refine ⟨rfl, g', a, own_kept h2 b h5, h3.over b h4, fun k hk => ?_, fun k hk hs => ?_⟩
  · rcases hk with hk | hk
    · exact h4 k (Or.inl hk)
    · rcases c with rfl | ⟨k', e, hk'⟩
      · exact h4 k (Or.inr hk)
      · rw [e] at hk
        have : k' = k := by simpa using hk
        have := h3.size
        omega
  · rcases hs with hs | hs
    · exact h5 k hk (Or.inl hs)
    · rcases c with rfl | ⟨k', e, hk'⟩
      · exact h5 k hk (Or.inr hs)
      · rw [e] at hs
        have : k' = k := by simpa using hs
        have := (h2.lt k hk).2
        omega
theorem we_append {W w w' : World} {pv ev v' : Value} {o : Obj} {bs : List UInt8} {es es' : List Value} {n : Nat} (h : WE W pv ev w bs es n) (ho : w'.ownsRow W.heap.size 3 1 v' es'.length es') (hf : (w.alloc o).grownBy w' ev.ownBlock) (hw : v'.ownBlock = ev.ownBlock ∨ v'.ownBlock = some (w.alloc o).heap.size) : WE W pv v' w' bs es' n := by
  obtain ⟨g, h1, h2, h3, h4, h5⟩ := h
  have hfr : Fr (fun k => ev.ownBlock = some k) w w' := (Fr.alloc _ w o).same ((Fr.grown hf).mono (fun k _ h => h.symm))
  refine ⟨g, h1.keep hfr (fun k hk hs => h5 k hs (Or.inl hk)) (fun k hk hs => h5 k hs (Or.inr hk)), ho, h3.over hfr (fun k hk => (h2.lt k hk).1), h4, fun k hk hs => ?_⟩
  rcases hw with hw | hw
  · rw [hw] at hk
    exact h5 k hk hs
  · rw [hw] at hk
    have : (w.alloc o).heap.size = k := by simpa using hk
    have := h1.lt k hs
    simp at *
    omega

/-- A Reader that has failed answers nothing. -/
theorem long_dead (q : Nat) (rest : List UInt8) (c : Int) (w : World) (hc : (c == 0) = false) (hr : Rd w q rest c) :
    Calls Try.prog 22 #[rp q] w fun e w' => e = .returned (.int .u64 0) ∧ Fr (fun _ => False) w w' := by
  have hmf := mkfn
  have kf := fun (fv : Value) (hfv : ∃ x y z, fv = .func x y z) => face_long_dead (rp q) fv c w hc ⟨_, rfl⟩ hfv (fun o => err_some q rest c (w.alloc o) (hr.later (Fr.alloc _ w _)))
  clear hr
  go_enter Try.func22, Try.ntmps22
  go_wp2_with (go_at_call 62; refine (kf _ ⟨_, _, _, rfl⟩).mono ?_; rintro e w1 ⟨rfl, rfl⟩)
  go_ret
  exact ⟨rfl, Fr.alloc _ _ _⟩
theorem cut_own (W : World) (q : Nat) (o : OpD) (lv tv : Value) (D z : List UInt8) (w : World) (hat : OpIs W (opv o.k o.N o.s lv tv o.mo o.lo) o lv tv) (hsz : o.size ≤ 1048576) (hf : Fr (fun _ => False) W w) (hq : W.heap.size ≤ q) (hz : z ≠ []) (hD : D ++ z = opS o) (hr : Rd w q D 0) :
    Calls Try.prog 21 #[rp q, opv o.k o.N o.s lv tv o.mo o.lo] w fun e w' => (∃ b, e = .returned (.bool b)) ∧ Rd w' q [] 40 ∧ Fr (fun _ => False) W w' := by
  obtain ⟨h1, h2, h3, h4⟩ := size_parts o hsz
  refine (cut_any q o _ lv tv D z w (hat.later hf) hz hD hr h1 h2 h3 h4).mono ?_
  rintro e w' ⟨hb, h5, h6⟩
  exact ⟨hb, h5, hf.over h6 (fun k hk => by rw [hk]; exact hq)⟩

theorem Try.info_n : (Try.prog.info? 3).map (fun i => (i.zero, i.size, i.bytes)) = some (some (.int .i64 0), 1, 8) := by kernel_rfl

/-- How many bytes the first j values are. -/
def eS (os : List OpD) (j : Nat) : Nat := ((os.take j).map opS).flatten.length
theorem take_drop (A Y : List UInt8) (n : Nat) (h : A.length ≤ n) : ((A ++ Y).take n).drop A.length = Y.take (n - A.length) := by
  rw [List.take_append, List.take_of_length_le h, List.drop_left]
theorem eS_next {os : List OpD} {i : Nat} {o : OpD} (hx : os[i]? = some o) : eS os (i + 1) = eS os i + (opS o).length := by
  unfold eS
  rw [flat_next hx, List.length_append]
theorem all_parts {os : List OpD} {i : Nat} {o : OpD} (hx : os[i]? = some o) : (os.map opS).flatten = ((os.take i).map opS).flatten ++ (opS o ++ ((os.drop (i + 1)).map opS).flatten) := by
  have e : os = os.take i ++ (o :: os.drop (i + 1)) := by rw [← drop_now hx, List.take_append_drop]
  conv => lhs; rw [e]
  simp
theorem rest_now {os : List OpD} {i n : Nat} {o : OpD} (hx : os[i]? = some o) (hn : eS os (i + 1) ≤ n) : (((os.map opS).flatten).take n).drop (eS os i) = opS o ++ (((os.map opS).flatten).take n).drop (eS os (i + 1)) := by
  have h1 := eS_next hx
  have e1 : (((os.map opS).flatten).take n).drop (eS os i) = (opS o ++ ((os.drop (i + 1)).map opS).flatten).take (n - eS os i) := by
    rw [all_parts hx]; exact take_drop _ _ n (by unfold eS at *; omega)
  have e2 : (((os.map opS).flatten).take n).drop (eS os (i + 1)) = (((os.drop (i + 1)).map opS).flatten).take (n - eS os (i + 1)) := by
    rw [all_parts hx, ← List.append_assoc, ← flat_next hx]; exact take_drop _ _ n hn
  rw [e1, e2, List.take_append, List.take_of_length_le (by omega)]
  congr 2
  omega
theorem rest_cut {os : List OpD} {i n : Nat} {o : OpD} (hx : os[i]? = some o) (hn : n < eS os (i + 1)) (hi : eS os i ≤ n) : ∃ z, (((os.map opS).flatten).take n).drop (eS os i) ++ z = opS o ∧ z ≠ [] := by
  have h1 := eS_next hx
  have e1 : (((os.map opS).flatten).take n).drop (eS os i) = (opS o).take (n - eS os i) := by
    rw [all_parts hx]
    have := take_drop (((os.take i).map opS).flatten) (opS o ++ ((os.drop (i + 1)).map opS).flatten) n (by unfold eS at *; omega)
    unfold eS at *
    rw [this, List.take_append_of_le_length (by omega)]
  refine ⟨(opS o).drop (n - eS os i), by rw [e1, List.take_append_drop], ?_⟩
  intro h
  have := congrArg List.length h
  simp at this
  omega

set_option maxRecDepth 20000 in
set_option maxHeartbeats 2000000 in
theorem cuts_any (ao0 : Option Addr) (cap len : Nat) (os : List OpD) (c : Int) (W : World) (hlen : Hidden (os.length = len)) (hl : len ≤ cap) (hcap : cap ≤ 9223372036854775807) (hs : Hidden ((os.map OpD.size).sum ≤ 1048576)) (hc64 : -9223372036854775808 ≤ c ∧ c ≤ 9223372036854775807)
    (ho : Hidden (os = [] ∨ ∃ b off, ao0 = some ⟨b, off, none⟩ ∧ ∀ i o, os[i]? = some o → ∃ lv tv, OpAt W b (off + i * 7) o lv tv)) :
    Calls Try.prog 6 #[.slice ao0 len cap, .int .i64 c] W fun e w' => e = .returned (.bool true) ∧ Fr (fun _ => False) W w' := by
  obtain ⟨i0, hi0, hz0, hz1, hz2⟩ := info_parts Try.info_n
  have hlen0 : len ≤ 1048576 := by
    have h1 : os.length = len := hlen
    have h2 : (os.map OpD.size).sum ≤ 1048576 := hs
    have h3 : os.length ≤ (os.map OpD.size).sum := by
      clear h1 h2 hs ho hlen
      induction os with
      | nil => simp
      | cons x r ih => simp only [List.map_cons, List.sum_cons, List.length_cons]; have : 8 ≤ x.size := by unfold OpD.size; omega
                       omega
    omega
  have hnew : Hidden (WE W (.pointer (some ⟨W.heap.size, 0, none⟩)) (.slice none 0 0) (W.alloc (.cells #[.slice none 0 0] 26)) [] [] (((os.drop 0).map opS).flatten.length)) := by
    obtain ⟨g, h1, h2, h3⟩ := WOwn.new W (((os.drop 0).map opS).flatten.length) (by
      have h1 : (os.map OpD.size).sum ≤ 1048576 := hs
      have := all_le os
      simp only [List.drop_zero]
      omega)
    exact ⟨g, h1, World.ownsRow_nil _ _ _ _, h2, h3, fun k hk => by cases hk⟩
  go_enter Try.func6, Try.ntmps6
  go_wp2
  go_loopg [6, 7] len (fun k ev iv wr => ∃ j : Nat, iv = .int .i64 (j : Int) ∧ j ≤ len ∧ k = len - j ∧ WE W (.pointer (some ⟨W.heap.size, 0, none⟩)) ev wr ((os.take j).map opS).flatten (endsS os j) (((os.drop j).map opS).flatten.length))
  case atStart => exact ⟨0, rfl, by omega, rfl, hnew⟩
  case round =>
    obtain ⟨j, rfl, hj, hk, hwe⟩ := hrel
    have hkH : Hidden (gk = len - j) := hk
    clear hk hnew
    by_cases hjl : j < len
    · obtain ⟨o, hx⟩ : ∃ o, os[j]? = some o := ⟨os[j]'(by rw [show os.length = len from hlen]; exact hjl), List.getElem?_eq_getElem _⟩
      rcases (show os = [] ∨ ∃ b off, ao0 = some ⟨b, off, none⟩ ∧ ∀ i o, os[i]? = some o → ∃ lv tv, OpAt W b (off + i * 7) o lv tv from ho) with h0 | ⟨b, off, rfl, ho2⟩
      · rw [h0] at hx
        simp at hx
      obtain ⟨lv, tv, hat⟩ := ho2 j o hx
      clear ho2
      rw [flat_now hx] at hwe
      obtain ⟨c0, c1, c2, c3, c4, c5, c6⟩ := hat.cells (we_fr hwe)
      have kw := we_write W _ u6 o lv tv _ _ _ wr hat.2 hwe
      rw [← flat_next hx] at kw
      obtain ⟨B, hB⟩ : ∃ B, ((os.take (j + 1)).map opS).flatten = B := ⟨_, rfl⟩
      have hBH : Hidden (((os.take (j + 1)).map opS).flatten = B) := hB
      obtain ⟨R, hR⟩ : ∃ R, ((os.drop (j + 1)).map opS).flatten.length = R := ⟨_, rfl⟩
      have hRH : Hidden (((os.drop (j + 1)).map opS).flatten.length = R) := hR
      rw [hB, hR] at kw
      have kl := fun (w : World) (h : WE W (.pointer (some ⟨W.heap.size, 0, none⟩)) u6 w B (endsS os j) R) => len_own W W.heap.size B R w (we_own h)
      obtain ⟨M, hM⟩ : ∃ M, B.length = M := ⟨_, rfl⟩
      rw [hM] at kl
      have hMH : Hidden (B.length = M) := hM
      unfold opv at kw
      clear hx hat hwe hs hlen ho hB hR hM
      go_wp2_with (first
        | (go_at_call 8; refine kw.mono ?_; rintro e w1 ⟨rfl, hw1⟩)
        | (go_at_call 10; refine (kl _ hw1).mono ?_; rintro e w2 ⟨rfl, rfl⟩)
        | (at_builtin; refine wpList_append_own_at _ rfl _ _ 29 rfl W.heap.size 3 i0 (.int .i64 0) 1 8 Try.underlying29 hi0 hz0 hz1 hz2 rfl (by decide) _ j (endsS os j) rfl ?q0 ⟨w1.heap.size, 0, none⟩ 1 1 [.int .i64 (M : Int)] rfl rfl ?q1 ?q2 ?q3 ?q4 ?q5 ?_))
      case q0 => have := (we_row hw1).alloc (.cells #[.int .i64 (M : Int)] 3); rw [endsS_length] at this; exact this
      case q1 => exact cell_one_new w1 _ _
      case q2 => intro u hu; simp at hu; subst hu; rfl
      case q3 => unfold maxLen; omega
      case q4 => omega
      case q5 => have := (we_fr hw1).size; simp; omega
      intro v' w3 hown3 hg3 _ hat3
      have hfin : Hidden (WE W (.pointer (some ⟨W.heap.size, 0, none⟩)) v' w3 ((os.take (j + 1)).map opS).flatten (endsS os (j + 1)) (((os.drop (j + 1)).map opS).flatten.length)) := by
        show WE _ _ _ _ _ _ _
        rw [show ((os.take (j + 1)).map opS).flatten = B from hBH, show ((os.drop (j + 1)).map opS).flatten.length = R from hRH]
        refine we_append hw1 ?_ hg3 (by rw [World.size_alloc]; exact hat3)
        rw [endsS_length, endsS_next, show ((os.take (j + 1)).map opS).flatten = B from hBH, show B.length = M from hMH]
        exact hown3
      clear hown3 hg3 hat3 hw1 kw kl c0 c1 c2 c3 c4 c5 c6
      go_wp2
      go_roundg (len - (j + 1))
      case measure =>
        have : gk = len - j := hkH
        omega
      case rel => exact ⟨j + 1, by go_num, by omega, rfl, hfin⟩
    · obtain rfl : j = len := by omega
      have hlen' : os.length = j := hlen
      obtain ⟨V, rfl⟩ : ∃ V, V = wr := ⟨wr, rfl⟩
      obtain ⟨T, hT⟩ : ∃ T, (os.map opS).flatten = T := ⟨_, rfl⟩
      have hwe2 : WE W (.pointer (some ⟨W.heap.size, 0, none⟩)) u6 V T (endsS os j) 0 := by
        rw [← hlen', List.take_length, List.drop_length, hlen', hT] at hwe
        exact hwe
      have hTl : T.length ≤ 4194304 := by
        have h1 := all_le os
        have h2 : (os.map OpD.size).sum ≤ 1048576 := hs
        rw [hT] at h1
        omega
      have kB := bytes_own W W.heap.size T 0 V (we_own hwe2)
      obtain ⟨L, hL⟩ : ∃ L, T.length = L := ⟨_, rfl⟩
      rw [hL] at kB hTl
      have ka := fun w => alive_any w
      have hWV : Hidden (Fr (fun _ => False) W V) := we_fr hwe2
      obtain ⟨hes, hesn⟩ := Sl.of_own (we_row hwe2)
      obtain ⟨eo, ec, hev, _⟩ := id hes
      rw [endsS_length] at hev
      subst hev
      have hesH : Hidden (Sl V (.slice eo j ec) (endsS os j)) := hes
      have hTH : Hidden ((os.map opS).flatten = T ∧ T.length = L) := ⟨hT, hL⟩
      clear hwe hwe2 hes hesn hT hL
      by_cases hc0 : c < 0
      · have g0 : decide (c < 0) = true := by simpa using hc0
        go_wp2_with (first
          | (go_at_call 11; refine kB.mono ?_; rintro e w1 ⟨aob, capb, rfl, hob, hfb⟩)
          | (go_at_call 12; refine (ka _).mono ?_; rintro e w2 ⟨rfl, hf2⟩))
        go_ret
        exact ⟨rfl, Fr.same hWV (hfb.same hf2)⟩
      obtain ⟨n, rfl⟩ := Int.eq_ofNat_of_zero_le (show 0 ≤ c by omega)
      have g0 : decide ((n : Int) < 0) = false := by simp
      by_cases hcL : L < n
      · have g1 : decide ((L : Int) < (n : Int)) = true := by simpa using hcL
        go_wp2_with (first
          | (go_at_call 11; refine kB.mono ?_; rintro e w1 ⟨aob, capb, rfl, hob, hfb⟩)
          | (go_at_call 12; refine (ka _).mono ?_; rintro e w2 ⟨rfl, hf2⟩))
        go_ret
        exact ⟨rfl, Fr.same hWV (hfb.same hf2)⟩
      have g1 : decide ((L : Int) < (n : Int)) = false := by simp; omega
      have kR : Hidden (∀ (ao : Option Addr) (cp : Nat) (w w1 : World), Ow w V.heap.size (.slice ao L cp) (bc T) → Fr (fun _ => False) w w1 → Calls Try.prog 13 #[.slice ao n cp] w1 fun e w' => ∃ q, e = .returned (rp q) ∧ Rd w' q (T.take n) 0 ∧ w1.heap.size ≤ q ∧ Fr (fun _ => False) w1 w') := fun ao cp w w1 h hf => by
        refine read_any _ (T.take n) w1 (by rw [List.length_take]; omega) ?_
        have := (h.1.keep hf (fun _ _ f => f)).take n (by omega)
        rw [← bc_take] at this
        exact this
      have kcap : Hidden (∀ (ao : Option Addr) (cp : Nat) (w : World), Ow w V.heap.size (.slice ao L cp) (bc T) → L ≤ cp ∧ cp ≤ 9223372036854775807) := fun ao cp w h => by
        obtain ⟨a, c', e, h1, h2⟩ := h.shape
        rw [hTH.2] at *
        simp only [Value.slice.injEq] at e
        obtain ⟨_, _, rfl⟩ := e
        exact ⟨h1, h2⟩
      go_wp2_with (first
        | (go_at_call 11; refine kB.mono ?_; rintro e w1 ⟨aob, capb, rfl, hob, hfb⟩; obtain ⟨hLc, hcc⟩ := kcap _ _ _ hob)
        | (go_at_call 12; refine (ka _).mono ?_; rintro e w2 ⟨rfl, hf2⟩)
        | (go_at_call 13; refine (kR _ _ _ _ hob hf2).mono ?_; rintro e w3 ⟨q, rfl, hrd, hq, hf3⟩))
      have hH : Hidden (Rd w3 q ((T.take n).drop (eS os 0)) 0 ∧ Fr (fun _ => False) V w3 ∧ V.heap.size ≤ q) := by
        refine ⟨by simpa [eS] using hrd, hfb.same (hf2.same hf3), ?_⟩
        have := hfb.size
        have := hf2.size
        omega
      clear hob hfb hrd hq hf2 hf3 kB kR ka kcap
      go_loopg [10] j (fun k iv wx => ∃ i : Nat, iv = .int .i64 (i : Int) ∧ i ≤ j ∧ k = j - i ∧ eS os i ≤ n ∧ Rd wx q ((T.take n).drop (eS os i)) 0 ∧ Fr (fun _ => False) V wx)
      case atStart => exact ⟨0, rfl, by omega, rfl, by simp [eS], hH.1, hH.2.1⟩
      case round =>
        obtain ⟨i, rfl, hi, hk2, hin, hrd, hfx⟩ := hrel
        have hkH2 : Hidden (gk = j - i) := hk2
        clear hk2
        by_cases hil : i < j
        · obtain ⟨o, hx⟩ : ∃ o, os[i]? = some o := ⟨os[i]'(by rw [hlen']; exact hil), List.getElem?_eq_getElem _⟩
          rcases (show os = [] ∨ ∃ b off, ao0 = some ⟨b, off, none⟩ ∧ ∀ i o, os[i]? = some o → ∃ lv tv, OpAt W b (off + i * 7) o lv tv from ho) with h0 | ⟨b, off, rfl, ho2⟩
          · rw [h0] at hx
            simp at hx
          obtain ⟨lv, tv, hat⟩ := ho2 i o hx
          clear ho2
          obtain ⟨c0, c1, c2, c3, c4, c5, c6⟩ := hat.cells (Fr.same hWV hfx)
          have hsz : o.size ≤ 1048576 := Nat.le_trans (size_le hx) hs
          have hqW : W.heap.size ≤ q := Nat.le_trans (show Fr (fun _ => False) W V from hWV).size hH.2.2
          obtain ⟨eo', ec', ee, _, _, _, e4⟩ := (show Sl V _ _ from hesH).keep hfx (fun _ _ f => f)
          simp only [Value.slice.injEq] at ee
          obtain ⟨rfl, hee, rfl⟩ := ee
          clear hee
          rcases e4 with e4 | ⟨be, oe, rfl, hec⟩
          · have := congrArg List.length e4
            simp at this
            omega
          obtain ⟨E1, hE1⟩ : ∃ E1, eS os (i + 1) = E1 := ⟨_, rfl⟩
          have dE : wr.cell? ⟨be, oe + i, none⟩ = some (.int .i64 (E1 : Int)) := by
            rw [← hE1]; exact hec i _ (endsS_at os j i hil)
          have dEV : V.cell? ⟨be, oe + i, none⟩ = some (.int .i64 (E1 : Int)) := by
            obtain ⟨eo2, ec2, ee2, _, _, _, e42⟩ := show Sl V _ _ from hesH
            simp only [Value.slice.injEq] at ee2
            obtain ⟨rfl, hee2, rfl⟩ := ee2
            rcases e42 with e42 | ⟨be2, oe2, heq, hec2⟩
            · have := congrArg List.length e42
              simp at this
              omega
            · simp only [Option.some.injEq, Addr.mk.injEq, and_true] at heq
              obtain ⟨rfl, rfl⟩ := heq
              rw [← hE1]; exact hec2 i _ (endsS_at os j i hil)
          have hEV : Hidden (∀ w1, Fr (fun _ => False) V w1 → _ ∧ w1.cell? ⟨be, oe + i, none⟩ = some (.int .i64 (E1 : Int))) := fun w1 h1 => ⟨hat.cells (Fr.same hWV h1), h1.cell dEV (fun f => f)⟩
          clear dEV
          by_cases hcut : n < E1
          · have g2 : decide ((n : Int) < (E1 : Int)) = true := by simpa using hcut
            obtain ⟨z, hz1, hz2⟩ := rest_cut hx (by rw [hE1]; exact hcut) hin
            rw [hTH.1] at hz1
            have kb := cut_own W q o lv tv _ z wr hat.2 hsz (Fr.same hWV hfx) hqW hz2 hz1 hrd
            have ke := fun (w : World) (h : Rd w q [] 40) => err_some q [] 40 w h
            have kd := fun (w : World) (h : Rd w q [] 40) => done_err (rp q) 40 w (by decide) (err_some q [] 40 w h)
            have kl := fun (w : World) (h : Rd w q [] 40) => left_some q [] 40 w h
            have kg := fun (w : World) (h : Rd w q [] 40) => long_dead q [] 40 w (by decide) h
            unfold opv at kb
            clear hx hat hrd hfx hsz hlen' hs hlen ho hE1 hec hz1 hz2 hEV hin hqW
            go_wp2_with (first
              | (go_at_call 21; refine kb.mono ?_; rintro e w4 ⟨⟨bb, rfl⟩, h4, h5⟩)
              | (go_at_call 18; refine (ke _ h4).mono ?_; rintro e w5 ⟨rfl, rfl⟩)
              | (go_at_call 19; refine (kd _ h4).mono ?_; rintro e w6 ⟨rfl, rfl⟩)
              | (go_at_call 16; refine (kl _ h4).mono ?_; rintro e w7 ⟨rfl, rfl⟩)
              | (go_at_call 22; refine (kg _ h4).mono ?_; rintro e w8 ⟨rfl, h8⟩))
            go_ret
            exact ⟨rfl, h5.same h8⟩
          · have g2 : decide ((n : Int) < (E1 : Int)) = false := by simp; omega
            have hnow := rest_now hx (show eS os (i + 1) ≤ n by omega)
            rw [hTH.1, hE1] at hnow
            rw [hnow] at hrd
            have hleft : ((T.take n).drop E1).length = n - E1 := by rw [List.length_drop, List.length_take, hTH.2]; omega
            obtain ⟨Z, hZ⟩ : ∃ Z, (T.take n).drop E1 = Z := ⟨_, rfl⟩
            have hZH : Hidden ((T.take n).drop (eS os (i + 1)) = Z ∧ eS os (i + 1) ≤ n) := ⟨by rw [hE1]; exact hZ, by omega⟩
            rw [hZ] at hrd hleft
            have kb := back_own V q o lv tv Z wr.drew (hat.2.later hWV) hsz (hfx.same (Fr.drew _ _)) hH.2.2 (hrd.later (Fr.drew _ _))
            have ke := fun (w : World) (h : Rd w q Z 0) => err_some q Z 0 w h
            have kl := fun (w : World) (h : Rd w q Z 0) => left_some q Z 0 w h
            rw [show (Z.length : Int) = (n : Int) - (E1 : Int) by omega] at kl
            have hwr : IntKind.i64.wrap ((n : Int) - (E1 : Int)) = (n : Int) - (E1 : Int) := by rw [IntKind.wrap_i64]; omega
            have hnn : (E1 : Int) ≤ (n : Int) := by omega
            unfold opv at kb
            clear hx hat hrd hfx hsz hlen' hs hlen ho hE1 hec hin hqW hnow hleft hZ
            go_wp2_with fail
            go_region_held3 (fun w' => w'.cell? ⟨b, off + i * 7, none⟩ = some (.int .i64 o.k) ∧ w'.cell? ⟨b, off + i * 7 + 1, none⟩ = some (.int .u64 (o.N : Int)) ∧ w'.cell? ⟨b, off + i * 7 + 2, none⟩ = some (.string ⟨o.s.toArray⟩) ∧ w'.cell? ⟨b, off + i * 7 + 3, none⟩ = some lv ∧ w'.cell? ⟨b, off + i * 7 + 4, none⟩ = some tv ∧ w'.cell? ⟨b, off + i * 7 + 5, none⟩ = some (.int .i64 o.mo) ∧ w'.cell? ⟨b, off + i * 7 + 6, none⟩ = some (.int .i64 o.lo) ∧ w'.cell? ⟨be, oe + i, none⟩ = some (.int .i64 (E1 : Int))) (go_keep) (first
              | (go_at_call 21; refine kb.mono ?_; rintro e w4 ⟨rfl, h4, h5⟩; obtain ⟨⟨d0, d1, d2, d3, d4, d5, d6⟩, d7⟩ := hEV w4 h5)
              | (go_at_call 18; refine (ke _ h4).mono ?_; rintro e w5 ⟨rfl, rfl⟩)
              | (go_at_call 16; refine (kl _ h4).mono ?_; rintro e w6 ⟨rfl, rfl⟩))
            go_wp2
            go_roundg (j - (i + 1))
            case measure =>
              have : gk = j - i := hkH2
              omega
            case rel => exact ⟨i + 1, by go_num, by omega, rfl, hZH.2, by rw [show (T.take n).drop (eS os (i + 1)) = Z from hZH.1]; exact h4, h5⟩
        · obtain rfl : i = j := by omega
          have hfin : Hidden (Fr (fun _ => False) W wr) := Fr.same hWV hfx
          clear hrd hfx hlen' hs hlen ho
          go_wp2
          go_ret
          exact ⟨rfl, hfin⟩

theorem wireCut.walk (v : Value) (os : List OpD) (c : Int) (W : World) (h : OpsIs W v os) (hs : (os.map OpD.size).sum ≤ 1048576) (hc : (Lit.int .i64 c).wf = true) :
    Calls Try.prog 6 #[v, .int .i64 c] W fun e w' => e = .returned (.bool true) ∧ Fr (fun _ => False) W w' := by
  obtain ⟨ao, cap, rfl, h1, h2, h3⟩ := h
  exact cuts_any ao cap os.length os c W rfl h1 h2 hs (wf_i64 hc) h3
end Go.Proofs.Ytflemhekoffpoaa
