/- WireWrites walked: the loop that writes. -/
import Derived.Test.YtflemhekoffpoaaWiIns
import Derived.Test.YtflemhekoffpoaaWiLive
import Derived.Deep.RegionWith
namespace Go.Proofs.Ytflemhekoffpoaa
open Go.RowKit
set_option linter.unusedSimpArgs false
set_option linter.unusedVariables false

/-- A writer and a list of bytes of the call's own, apart from one another. -/
def WW (W : World) (pv ov : Value) (w : World) (bs os : List UInt8) (n : Nat) : Prop :=
  ∃ g, WrO pv w bs g n ∧ Ow w W.heap.size ov (bc os) ∧ Fr (fun _ => False) W w ∧ (∀ k, pblk pv = some k ∨ g = some k → W.heap.size ≤ k) ∧ ∀ k, ov.ownBlock = some k → ¬ (pblk pv = some k ∨ g = some k)

theorem OpIs.later {W w : World} {v lv tv : Value} {o : OpD} (h : OpIs W v o lv tv) (hf : Fr (fun _ => False) W w) : OpIs w v o lv tv :=
  h.keep hf (Or.inr fun _ _ f => f) (Or.inr fun _ _ f => f)
theorem Sl.old {w : World} {v : Value} {xs : List Value} (h : Sl w v xs) : xs = [] ∨ ∀ k, v.ownBlock = some k → k < w.heap.size := by
  obtain ⟨ao, cap, rfl, h1, h2, h3, h4⟩ := h
  rcases h4 with h4 | ⟨b, off, rfl, hc⟩
  · exact Or.inl h4
  · by_cases hx : xs = []
    · exact Or.inl hx
    · right
      intro k hk
      have : b = k := by simpa [Value.ownBlock] using hk
      subst this
      obtain ⟨x, r, rfl⟩ := List.exists_cons_of_ne_nil hx
      exact World.block_lt_of_cell? w _ (hc 0 x rfl)
theorem Apart.old {W : World} {v pv : Value} {g : Option Nat} {xs : List Value} (h : Sl W v xs) (hg : ∀ k, pblk pv = some k ∨ g = some k → W.heap.size ≤ k) : Apart xs v pv g := by
  rcases h.old with h | h
  · exact Or.inl h
  · exact Or.inr fun k hk hs => by
      have := h k hk
      have := hg k hs
      omega

theorem ww_write (W : World) (pv ov : Value) (o : OpD) (lv tv : Value) (bs os : List UInt8) (n : Nat) (w : World) (hop : OpIs W (opv o.k o.N o.s lv tv o.mo o.lo) o lv tv) (h : WW W pv ov w bs os ((opS o).length + n)) :
    Calls Try.prog 8 #[pv, opv o.k o.N o.s lv tv o.mo o.lo] w fun e w' => e = .returned (.tuple #[]) ∧ WW W pv ov w' (bs ++ opS o) os n := by
  obtain ⟨g, h1, h2, h3, h4, h5⟩ := h
  refine (write_any pv _ o lv tv bs g n w h1 (hop.later h3) (Apart.old hop.2.1 h4) (Apart.old hop.2.2.1 h4)).mono ?_
  rintro e w' ⟨rfl, g', a, b, c⟩
  refine ⟨rfl, g', a, h2.keep b h5, h3.over b h4, fun k hk => ?_, fun k hk hs => ?_⟩
  · rcases hk with hk | hk
    · exact h4 k (Or.inl hk)
    · rcases c with rfl | ⟨k', e, hk'⟩
      · exact h4 k (Or.inr hk)
      · rw [e] at hk
        have : k' = k := by simpa using hk
        have := h3.size
        omega
  · rcases hs with hs | hs
    · exact h5 k hk (Or.inl hs)
    · rcases c with rfl | ⟨k', e, hk'⟩
      · exact h5 k hk (Or.inr hs)
      · rw [e] at hs
        have : k' = k := by simpa using hs
        have := (h2.own k hk).2
        omega
theorem ww_later {W w w' : World} {pv ov : Value} {bs os : List UInt8} {n : Nat} (h : WW W pv ov w bs os n) (hf : Fr (fun _ => False) w w') : WW W pv ov w' bs os n := by
  obtain ⟨g, h1, h2, h3, h4, h5⟩ := h
  exact ⟨g, h1.keep hf (fun _ _ f => f) (fun _ _ f => f), h2.keep hf (fun _ _ f => f), h3.same hf, h4, h5⟩
theorem ww_append {W w w' : World} {pv ov v' : Value} {bs os os' : List UInt8} {n : Nat} (h : WW W pv ov w bs os n) (ho : Ow w' W.heap.size v' (bc os')) (hf : Fr (fun k => ov.ownBlock = some k) w w') (hw : v'.ownBlock = ov.ownBlock ∨ v'.ownBlock = some w.heap.size) : WW W pv v' w' bs os' n := by
  obtain ⟨g, h1, h2, h3, h4, h5⟩ := h
  refine ⟨g, h1.keep hf (fun k hk hs => h5 k hs (Or.inl hk)) (fun k hk hs => h5 k hs (Or.inr hk)), ho, h3.over hf (fun k hk => (h2.own k hk).1), h4, fun k hk hs => ?_⟩
  rcases hw with hw | hw
  · rw [hw] at hk
    exact h5 k hk hs
  · rw [hw] at hk
    have : w.heap.size = k := by simpa using hk
    have := h1.lt k hs
    omega

theorem OpAt.cells {W w : World} {b off : Nat} {o : OpD} {lv tv : Value} (h : OpAt W b off o lv tv) (hf : Fr (fun _ => False) W w) :
    w.cell? ⟨b, off, none⟩ = some (.int .i64 o.k) ∧ w.cell? ⟨b, off + 1, none⟩ = some (.int .u64 (o.N : Int)) ∧ w.cell? ⟨b, off + 2, none⟩ = some (.string ⟨o.s.toArray⟩) ∧ w.cell? ⟨b, off + 3, none⟩ = some lv ∧ w.cell? ⟨b, off + 4, none⟩ = some tv ∧ w.cell? ⟨b, off + 5, none⟩ = some (.int .i64 o.mo) ∧ w.cell? ⟨b, off + 6, none⟩ = some (.int .i64 o.lo) :=
  ⟨hf.cell (h.1 0 _ rfl) (fun f => f), hf.cell (h.1 1 _ rfl) (fun f => f), hf.cell (h.1 2 _ rfl) (fun f => f), hf.cell (h.1 3 _ rfl) (fun f => f), hf.cell (h.1 4 _ rfl) (fun f => f), hf.cell (h.1 5 _ rfl) (fun f => f), hf.cell (h.1 6 _ rfl) (fun f => f)⟩
theorem ww_fr {W w : World} {pv ov : Value} {bs os : List UInt8} {n : Nat} (h : WW W pv ov w bs os n) : Fr (fun _ => False) W w := by
  obtain ⟨g, h1, h2, h3, h4, h5⟩ := h
  exact h3
theorem ww_own {W w : World} {p : Nat} {ov : Value} {bs os : List UInt8} {n : Nat} (h : WW W (.pointer (some ⟨p, 0, none⟩)) ov w bs os n) : WOwn W (.pointer (some ⟨p, 0, none⟩)) w bs n := by
  obtain ⟨g, h1, h2, h3, h4, h5⟩ := h
  exact ⟨g, h1, h3, h4⟩
theorem ww_ow {W w : World} {pv ov : Value} {bs os : List UInt8} {n : Nat} (h : WW W pv ov w bs os n) : Ow w W.heap.size ov (bc os) := by
  obtain ⟨g, h1, h2, h3, h4, h5⟩ := h
  exact h2
theorem flat_next {os : List OpD} {j : Nat} {o : OpD} (h : os[j]? = some o) : ((os.take (j + 1)).map opS).flatten = ((os.take j).map opS).flatten ++ opS o := by
  rw [take_next h]; simp
theorem flat_now {os : List OpD} {j : Nat} {o : OpD} (h : os[j]? = some o) : ((os.drop j).map opS).flatten.length = (opS o).length + ((os.drop (j + 1)).map opS).flatten.length := by
  rw [drop_now h]; simp

theorem bc_set (l : List UInt8) (j : Nat) (c : UInt8) : bc (l.set j c) = (bc l).set j (.int .u8 (c.toNat : Int)) := by
  simp [bc, List.map_set]
/-- One byte more, in place. -/
theorem ow_set {w : World} {B : Nat} {g off len cap j : Nat} {l : List UInt8} {c : UInt8} (h : Ow w B (.slice (some ⟨g, off, none⟩) len cap) (bc l)) (hj : j < len) :
    Ow (w.setCell ⟨g, off + j, none⟩ (.int .u8 (c.toNat : Int))) B (.slice (some ⟨g, off, none⟩) len cap) (bc (l.set j c)) := by
  obtain ⟨⟨ao', cap', e, h1, h2, h3, h4⟩, ao, len', cap'', e2, h5⟩ := h
  simp only [Value.slice.injEq] at e e2
  obtain ⟨rfl, rfl, rfl⟩ := e2
  obtain ⟨rfl, hlen, rfl⟩ := e
  rcases h5 with h5 | ⟨g', off', e, hB, hlt, hc⟩
  · cases h5
  simp only [Option.some.injEq, Addr.mk.injEq, and_true] at e
  obtain ⟨rfl, rfl⟩ := e
  rw [bc_length] at *
  have hsome : ∀ i, i < cap → ((w.setCell ⟨g, off + j, none⟩ (.int .u8 (c.toNat : Int))).cell? ⟨g, off + i, none⟩).isSome = true ∧ (w.setCell ⟨g, off + j, none⟩ (.int .u8 (c.toNat : Int))).frozen? ⟨g, off + i, none⟩ = false := by
    intro i hi
    have := hc i hi
    constructor
    · exact World.isSome_setCells g [.int .u8 (c.toNat : Int)] (off + j) w _ this.1
    · rw [World.frozen?_setCell]; exact this.2
  refine ⟨⟨_, cap, by rw [bc_length, List.length_set, ← hlen], by rw [bc_length, List.length_set]; exact h1, h2, h3, ?_⟩, _, _, _, rfl, Or.inr ⟨g, off, rfl, hB, by simpa using hlt, hsome⟩⟩
  right
  refine ⟨g, off, rfl, fun i x hx => ?_⟩
  rw [bc_set, List.getElem?_set] at hx
  rw [bc_length] at hx
  split at hx
  · rename_i hij
    subst hij
    rw [if_pos (by omega)] at hx
    simp only [Option.some.injEq] at hx
    subst hx
    have := World.cell?_setCells_in g [Value.int .u8 (c.toNat : Int)] (off + j) w (fun j' hj' => by
      obtain rfl : j' = 0 := by simpa using hj'
      exact (hc j (by omega)).1) 0 (by simp)
    simpa [World.setCells] using this
  · rename_i hij
    rcases h4 with h4 | ⟨b, o, e, hcc⟩
    · rw [h4] at hx
      simp at hx
    · simp only [Option.some.injEq, Addr.mk.injEq, and_true] at e
      obtain ⟨rfl, rfl⟩ := e
      rw [World.cell?_setCell_other _ _ _ _ (fun e => by simp only [Addr.mk.injEq, and_true, true_and] at e; omega)]
      exact hcc i x hx

set_option maxRecDepth 20000 in
set_option maxHeartbeats 1000000 in
theorem writes_any (ao0 : Option Addr) (cap len : Nat) (os : List OpD) (W : World) (hlen : Hidden (os.length = len)) (hl : len ≤ cap) (hcap : cap ≤ 9223372036854775807) (hs : Hidden ((os.map OpD.size).sum ≤ 1048576))
    (ho : Hidden (os = [] ∨ ∃ b off, ao0 = some ⟨b, off, none⟩ ∧ ∀ i o, os[i]? = some o → ∃ lv tv, OpAt W b (off + i * 7) o lv tv)) :
    Calls Try.prog 3 #[.slice ao0 len cap] W fun e w' => e = .returned (.bool true) ∧ Fr (fun _ => False) W w' := by
  have hnew : Hidden (WW W (.pointer (some ⟨W.heap.size, 0, none⟩)) (.slice none 0 0) (W.alloc (.cells #[.slice none 0 0] 26)) [] [] (((os.drop 0).map opS).flatten.length)) := by
    obtain ⟨g, h1, h2, h3⟩ := WOwn.new W (((os.drop 0).map opS).flatten.length) (by
      have h1 : (os.map OpD.size).sum ≤ 1048576 := hs
      have := all_le os
      simp only [List.drop_zero]
      omega)
    exact ⟨g, h1, Ow.nil _ _, h2, h3, fun k hk => by cases hk⟩
  go_enter Try.func3, Try.ntmps3
  go_wp2
  go_loopg [4, 5] len (fun k ov iv wr => ∃ j : Nat, iv = .int .i64 (j : Int) ∧ j ≤ len ∧ k = len - j ∧ WW W (.pointer (some ⟨W.heap.size, 0, none⟩)) ov wr ((os.take j).map opS).flatten ((os.take j).map opS).flatten (((os.drop j).map opS).flatten.length))
  case atStart => exact ⟨0, rfl, by omega, rfl, hnew⟩
  case round =>
    obtain ⟨j, rfl, hj, hk, hww⟩ := hrel
    have hkH : Hidden (gk = len - j) := hk
    have hwwH : Hidden (WW W (.pointer (some ⟨W.heap.size, 0, none⟩)) u4 wr ((os.take j).map opS).flatten ((os.take j).map opS).flatten (((os.drop j).map opS).flatten.length)) := hww
    obtain ⟨ao, ocap, e1, _⟩ := (show WW W _ u4 _ _ _ _ from hww).choose_spec.2.1.shape
    obtain ⟨L, hL⟩ : ∃ L, ((os.take j).map opS).flatten.length = L := ⟨_, rfl⟩
    rw [hL] at e1
    have hLH : Hidden (((os.take j).map opS).flatten.length = L) := hL
    clear hk hww hnew hL
    by_cases hjl : j < len
    · obtain ⟨o, hx⟩ : ∃ o, os[j]? = some o := ⟨os[j]'(by rw [show os.length = len from hlen]; exact hjl), List.getElem?_eq_getElem _⟩
      rcases (show os = [] ∨ ∃ b off, ao0 = some ⟨b, off, none⟩ ∧ ∀ i o, os[i]? = some o → ∃ lv tv, OpAt W b (off + i * 7) o lv tv from ho) with h0 | ⟨b, off, rfl, ho2⟩
      · rw [h0] at hx
        simp at hx
      obtain ⟨lv, tv, hat⟩ := ho2 j o hx
      clear ho2
      obtain ⟨B, hB⟩ : ∃ B, ((os.take j).map opS).flatten = B := ⟨_, rfl⟩
      have hsz : o.size ≤ 1048576 := Nat.le_trans (size_le hx) hs
      have hBl : B.length + (opS o).length ≤ 4194304 := by
        have h1 := all_le os
        have h2 : (os.map OpD.size).sum ≤ 1048576 := hs
        have h3 : (os.map opS).flatten.length = ((os.take j).map opS).flatten.length + ((os.drop j).map opS).flatten.length := by
          rw [← List.length_append, ← List.flatten_append, ← List.map_append, List.take_append_drop]
        rw [flat_now hx, hB] at h3
        omega
      have hwj : WW W (.pointer (some ⟨W.heap.size, 0, none⟩)) u4 wr B B ((opS o).length + ((os.drop (j + 1)).map opS).flatten.length) := by
        have h : WW W (.pointer (some ⟨W.heap.size, 0, none⟩)) u4 wr ((os.take j).map opS).flatten ((os.take j).map opS).flatten (((os.drop j).map opS).flatten.length) := hwwH
        rw [flat_now hx, hB] at h
        exact h
      obtain ⟨c0, c1, c2, c3, c4, c5, c6⟩ := hat.cells (ww_fr hwj)
      have kw := ww_write W _ u4 o lv tv B B _ wr hat.2 hwj
      have hcs : Hidden (∀ w : World, Fr (fun _ => False) W w → _) := fun w hf => hat.cells hf
      have kb : Hidden (∀ w, Fr (fun _ => False) W w → Calls Try.prog 9 #[opv o.k o.N o.s lv tv o.mo o.lo] w fun e w' => ∃ v, e = .returned v ∧ Made w w' v (opS o)) := fun w hf => bytes_any _ o lv tv w (hat.2.later hf) (o.fit hsz)
      have hfin : Hidden (∀ v' w', WW W (.pointer (some ⟨W.heap.size, 0, none⟩)) v' w' (B ++ opS o) (B ++ opS o) (((os.drop (j + 1)).map opS).flatten.length) → WW W (.pointer (some ⟨W.heap.size, 0, none⟩)) v' w' ((os.take (j + 1)).map opS).flatten ((os.take (j + 1)).map opS).flatten (((os.drop (j + 1)).map opS).flatten.length)) := by
        intro v' w' h
        rw [flat_next hx, hB]
        exact h
      have hwjH : Hidden (WW W (.pointer (some ⟨W.heap.size, 0, none⟩)) u4 wr B B ((opS o).length + ((os.drop (j + 1)).map opS).flatten.length)) := hwj
      obtain ⟨R, hR⟩ : ∃ R, ((os.drop (j + 1)).map opS).flatten.length = R := ⟨_, rfl⟩
      rw [hR] at kw hfin
      have hRH : Hidden (((os.drop (j + 1)).map opS).flatten.length = R) := hR
      clear hR
      obtain ⟨X, hX⟩ : ∃ X, opS o = X := ⟨_, rfl⟩
      rw [hX] at kw kb hfin hBl
      subst e1
      unfold opv at kw
      have hshape : Hidden (∀ v' w', Ow w' W.heap.size v' (bc (B ++ X)) → ∃ ao2 cap2 M, v' = .slice ao2 M cap2 ∧ (B ++ X).length = M ∧ cap2 ≤ 9223372036854775807 ∧ M ≤ cap2) := by
        intro v' w' h
        obtain ⟨a2, c2, e2, h1, h2⟩ := h.shape
        exact ⟨a2, c2, _, e2, rfl, h2, h1⟩
      clear hx hat hB hsz hwj hwwH hX hwjH hs hlen ho hLH
      go_wp2_with (first
        | (go_at_call 8; refine kw.mono ?_; rintro e w1 ⟨rfl, hw1⟩; obtain ⟨d0, d1, d2, d3, d4, d5, d6⟩ := hcs w1 (ww_fr hw1); have kb1 := kb w1 (ww_fr hw1); unfold opv at kb1)
        | (go_at_call 9; refine kb1.mono ?_; rintro e w2 ⟨vx, rfl, hmx⟩; have hw2 : Hidden (WW W _ _ w2 _ _ _) := ww_later hw1 hmx.2)
        | (at_builtin; refine wpList_append_ow rfl _ _ rfl W.heap.size _ _ B X rfl ?q1 rfl ?q2 ?q3 ?q4 ?_))
      case q1 => exact ww_ow hw2
      case q2 => exact hmx.1.1
      case q3 => exact (ww_fr hw2).size
      case q4 => omega
      intro v' w3 ho3 hf3 hb3
      have hw3 : WW W (.pointer (some ⟨W.heap.size, 0, none⟩)) v' w3 (B ++ X) (B ++ X) R := ww_append hw2 ho3 hf3 hb3
      obtain ⟨ao2, cap2, M, rfl, hM, hc2, hM2⟩ := hshape v' w3 ho3
      have kl := len_own W W.heap.size (B ++ X) R w3 (ww_own hw3)
      rw [hM] at kl
      have hw3H : Hidden (WW W (.pointer (some ⟨W.heap.size, 0, none⟩)) (.slice ao2 M cap2) w3 (B ++ X) (B ++ X) R) := hw3
      clear hw3 hM ho3 hf3 hb3 hw1 kw kb kb1 hcs hshape hw2 hmx c0 c1 c2 c3 c4 c5 c6 d0 d1 d2 d3 d4 d5 d6
      go_wp2_with (go_at_call 10; refine kl.mono ?_; rintro e w4 ⟨rfl, rfl⟩)
      go_roundg (len - (j + 1))
      case measure =>
        have : gk = len - j := hkH
        omega
      case rel => exact ⟨j + 1, by go_num, by omega, rfl, by rw [show ((os.drop (j + 1)).map opS).flatten.length = R from hRH]; exact hfin _ _ hw3H⟩
    · obtain rfl : j = len := by omega
      have hlen' : os.length = j := hlen
      obtain ⟨T, hT⟩ : ∃ T, (os.map opS).flatten = T := ⟨_, rfl⟩
      have hww : WW W (.pointer (some ⟨W.heap.size, 0, none⟩)) u4 wr T T 0 := by
        have h : WW W (.pointer (some ⟨W.heap.size, 0, none⟩)) u4 wr ((os.take j).map opS).flatten ((os.take j).map opS).flatten (((os.drop j).map opS).flatten.length) := hwwH
        rw [← hlen', List.take_length, List.drop_length, hT] at h
        exact h
      have hTL : T.length = L := by
        have h : ((os.take j).map opS).flatten.length = L := hLH
        rw [← hlen', List.take_length, hT] at h
        exact h
      subst e1
      have kB := bytes_own W W.heap.size T 0 wr (ww_own hww)
      rw [hTL] at kB
      have ka := fun w => alive_any w
      have hwwH2 : Hidden (WW W (.pointer (some ⟨W.heap.size, 0, none⟩)) (.slice ao L ocap) wr T T 0 ∧ T.length = L) := ⟨hww, hTL⟩
      clear hwwH hww hTL hT hlen' hs hlen ho hLH
      go_wp2_with (first
        | (go_at_call 11; refine kB.mono ?_; rintro e w1 ⟨aob, capb, rfl, hob, hfb⟩; have hs1 := run_str w1 _ T hob.1; have hs2 := run_str w1 _ T ((ww_ow hwwH2.1).1.keep hfb (fun _ _ f => f)))
        | (go_at_call 12; refine (ka _).mono ?_; rintro e w2 ⟨rfl, hfa⟩))
      have hw2 : Hidden (WW W (.pointer (some ⟨W.heap.size, 0, none⟩)) (.slice ao L ocap) w2 T T 0 ∧ Ow w2 wr.heap.size (.slice aob L capb) (bc T) ∧ T.length = L ∧ Fr (fun _ => False) wr w2) := ⟨ww_later (ww_later hwwH2.1 hfb) hfa, hob.keep hfa (fun _ _ f => f), hwwH2.2, hfb.same hfa⟩
      obtain ⟨hLc, hcb⟩ : L ≤ capb ∧ capb ≤ 9223372036854775807 := by
        obtain ⟨a, c, e, h1, h2⟩ := hob.shape
        rw [hwwH2.2] at *
        simp only [Value.slice.injEq] at e
        obtain ⟨_, _, rfl⟩ := e
        exact ⟨h1, h2⟩
      clear hs1 hs2 hob hfb hfa kB hl
      obtain ⟨V, rfl⟩ : ∃ V, V = wr := ⟨wr, rfl⟩
      go_loopg [7] L (fun k iv wx => ∃ (i : Nat) (l : List UInt8), iv = .int .i64 (i : Int) ∧ i ≤ L ∧ k = L - i ∧ l.length = L ∧ Ow wx V.heap.size (.slice aob L capb) (bc l) ∧ Fr (fun _ => False) V wx)
      case atStart => exact ⟨0, T, rfl, by omega, rfl, hw2.2.2.1, hw2.2.1, hw2.2.2.2⟩
      case round =>
        obtain ⟨i, l, rfl, hi, hk, hll, how, hfr⟩ := hrel
        have hH : Hidden (gk = L - i ∧ l.length = L ∧ Ow wr V.heap.size (.slice aob L capb) (bc l) ∧ Fr (fun _ => False) V wr) := ⟨hk, hll, how, hfr⟩
        by_cases hil : i < L
        · obtain ⟨c, hc⟩ : ∃ c, l[i]? = some c := ⟨l[i], List.getElem?_eq_getElem (by omega)⟩
          obtain ⟨⟨ao', cap', e1, a1, a2, a3, a4⟩, ao'', len'', cap'', e2, h5⟩ := how
          simp only [Value.slice.injEq] at e1 e2
          obtain ⟨rfl, hbl, rfl⟩ := e1
          clear hbl
          obtain ⟨rfl, rfl, rfl⟩ := e2
          rcases a4 with h4 | ⟨bb, bo, rfl, hcc⟩
          · have : l = [] := by simpa [bc] using h4
            subst this
            simp at hc
          rcases h5 with h5 | ⟨g', off', e, hB, hlt, hcf⟩
          · cases h5
          simp only [Option.some.injEq, Addr.mk.injEq, and_true] at e
          obtain ⟨rfl, rfl⟩ := e
          have hci : wr.cell? ⟨bb, bo + i, none⟩ = some (.int .u8 (c.toNat : Int)) := hcc i _ (by simp [bc, hc])
          have hfi : wr.frozen? ⟨bb, bo + i, none⟩ = false := (hcf i (by omega)).2
          have hlt' := c.toNat_lt
          have hfin : Hidden (Ow (wr.setCell ⟨bb, bo + i, none⟩ (.int .u8 ((UInt8.ofNat (c.toNat + 1)).toNat : Int))) V.heap.size (.slice (some ⟨bb, bo, none⟩) L capb) (bc (l.set i (UInt8.ofNat (c.toNat + 1)))) ∧ Fr (fun _ => False) V (wr.setCell ⟨bb, bo + i, none⟩ (.int .u8 ((UInt8.ofNat (c.toNat + 1)).toNat : Int)))) :=
            ⟨ow_set hH.2.2.1 hil, hH.2.2.2.over (Fr.setCell wr _ _) (fun k hk => by rw [hk]; exact hB)⟩
          rw [show ((UInt8.ofNat (c.toNat + 1)).toNat : Int) = ((c.toNat : Int) + 1) % 256 by simp] at hfin
          clear hk hll hfr a1 a2 a3 hcc hcf hc
          go_wp2
          go_roundg (L - (i + 1))
          case measure =>
            have : gk = L - i := hH.1
            omega
          case rel => exact ⟨i + 1, _, by go_num, by omega, rfl, by rw [List.length_set]; exact hH.2.1, hfin.1, hfin.2⟩
        · obtain rfl : i = L := by omega
          have hwx : WW W (.pointer (some ⟨W.heap.size, 0, none⟩)) (.slice ao i ocap) wr.drew T T 0 := ww_later (ww_later hwwH2.1 hfr) (Fr.drew _ _)
          have kB := bytes_own W W.heap.size T 0 wr.drew (ww_own hwx)
          rw [hwwH2.2] at kB
          have hsw := run_str wr.drew _ T (ww_ow hwx).1
          have hfin : Hidden (WW W (.pointer (some ⟨W.heap.size, 0, none⟩)) (.slice ao i ocap) wr.drew T T 0) := hwx
          clear hk hll how hwx
          go_wp2_with fail
          go_region_with (go_at_call 11; refine kB.mono ?_; rintro e w3 ⟨ao3, cap3, rfl, ho3, hf3⟩; have hs3 := run_str w3 _ T ho3.1; have hs4 := run_str w3 _ T ((ww_ow hfin).1.keep hf3 (fun _ _ f => f)))
          all_goals
            go_wp2
            go_ret
            exact ⟨rfl, (ww_fr hfin).same hf3⟩
end Go.Proofs.Ytflemhekoffpoaa
