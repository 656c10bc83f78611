/- The program's levels and depth. -/
import Derived.Test.YtakkiipkmogagaaGreatTrM
namespace Go.Proofs.YtakkiipkmogagaaGreat
open Go.RowKit Te
set_option linter.unusedSimpArgs false
set_option linter.unusedVariables false

/-- The cells of an expression in a block of its own. -/
theorem ex_box {w : World} {b : Nat} {x0 x1 x2 x3 x4 x5 x6 : Value} {t : TypeId} (hb : w.heap[b]? = some (.cells #[x0, x1, x2, x3, x4, x5, x6] t (0, 0))) :
    w.cell? ⟨b, 0, none⟩ = some x0 ∧ w.cell? ⟨b, 1, none⟩ = some x1 ∧ w.cell? ⟨b, 2, none⟩ = some x2 ∧ w.cell? ⟨b, 3, none⟩ = some x3 ∧ w.cell? ⟨b, 4, none⟩ = some x4 ∧ w.cell? ⟨b, 5, none⟩ = some x5 ∧ w.cell? ⟨b, 6, none⟩ = some x6 :=
  ⟨cell_of_row _ _ 0 _ _ _ hb, cell_of_row _ _ 1 _ _ _ hb, cell_of_row _ _ 2 _ _ _ hb, cell_of_row _ _ 3 _ _ _ hb, cell_of_row _ _ 4 _ _ _ hb, cell_of_row _ _ 5 _ _ _ hb, cell_of_row _ _ 6 _ _ _ hb⟩
theorem st_box {w : World} {b : Nat} {x0 x1 x2 x3 x4 : Value} {t : TypeId} (hb : w.heap[b]? = some (.cells #[x0, x1, x2, x3, x4] t (0, 0))) :
    w.cell? ⟨b, 0, none⟩ = some x0 ∧ w.cell? ⟨b, 1, none⟩ = some x1 ∧ w.cell? ⟨b, 2, none⟩ = some x2 ∧ w.cell? ⟨b, 3, none⟩ = some x3 ∧ w.cell? ⟨b, 4, none⟩ = some x4 :=
  ⟨cell_of_row _ _ 0 _ _ _ hb, cell_of_row _ _ 1 _ _ _ hb, cell_of_row _ _ 2 _ _ _ hb, cell_of_row _ _ 3 _ _ _ hb, cell_of_row _ _ 4 _ _ _ hb⟩
/-- The next of a row of expressions. -/
theorem ex_row {w : World} {h : EH} {k r : Exs} {b off : Nat} (hA : ExA w (.cons h k r) b off) :
    ∃ ao cap, ExL w ao cap k ∧ ExA w r b (off + 7) ∧ w.cell? ⟨b, off, none⟩ = some (ci h.kind) ∧ w.cell? ⟨b, off + 1, none⟩ = some (ci h.op) ∧ w.cell? ⟨b, off + 2, none⟩ = some (ct h.mod) ∧ w.cell? ⟨b, off + 3, none⟩ = some (ct h.name) ∧
      w.cell? ⟨b, off + 4, none⟩ = some (ci h.vt) ∧ w.cell? ⟨b, off + 5, none⟩ = some (.int .u64 h.vb) ∧ w.cell? ⟨b, off + 6, none⟩ = some (.slice ao k.len cap) := by
  obtain ⟨⟨ao, cap, h1, h2, h3, h4⟩, h5⟩ := hA
  exact ⟨ao, cap, ⟨h2, h3, h4⟩, h5, h1 0 _ rfl, h1 1 _ rfl, h1 2 _ rfl, h1 3 _ rfl, h1 4 _ rfl, h1 5 _ rfl, h1 6 _ rfl⟩
theorem st_row {w : World} {h : SH} {e : Exs} {bo el r : Sts} {b off : Nat} (hA : StA w (.cons h e bo el r) b off) :
    ∃ ao1 cap1 ao2 cap2 ao3 cap3, ExL w ao1 cap1 e ∧ StL w ao2 cap2 bo ∧ StL w ao3 cap3 el ∧ StA w r b (off + 5) ∧ w.cell? ⟨b, off, none⟩ = some (ci h.kind) ∧ w.cell? ⟨b, off + 1, none⟩ = some (ct h.name) ∧ w.cell? ⟨b, off + 2, none⟩ = some (.slice ao1 e.len cap1) ∧
      w.cell? ⟨b, off + 3, none⟩ = some (.slice ao2 bo.len cap2) ∧ w.cell? ⟨b, off + 4, none⟩ = some (.slice ao3 el.len cap3) := by
  obtain ⟨⟨ao1, cap1, ao2, cap2, ao3, cap3, h1, h2, h3, h4⟩, h5⟩ := hA
  exact ⟨ao1, cap1, ao2, cap2, ao3, cap3, h2, h3, h4, h5, h1 0 _ rfl, h1 1 _ rfl, h1 2 _ rfl, h1 3 _ rfl, h1 4 _ rfl⟩
/-- What is left of a row. -/
def ExR (w : World) (ao : Option Addr) (i : Nat) (r : Exs) : Prop := r.len = 0 ∨ ∃ b off, ao = some ⟨b, off, none⟩ ∧ ExA w r b (off + i * 7)
def StR (w : World) (ao : Option Addr) (i : Nat) (r : Sts) : Prop := r.len = 0 ∨ ∃ b off, ao = some ⟨b, off, none⟩ ∧ StA w r b (off + i * 5)
theorem ExL.rest {w : World} {ao : Option Addr} {cap : Nat} {k : Exs} (h : ExL w ao cap k) : ExR w ao 0 k := by
  rcases h.2.2 with h | ⟨b, off, h1, h2⟩
  · exact Or.inl h
  · exact Or.inr ⟨b, off, h1, by simpa using h2⟩
theorem StL.rest {w : World} {ao : Option Addr} {cap : Nat} {k : Sts} (h : StL w ao cap k) : StR w ao 0 k := by
  rcases h.2.2 with h | ⟨b, off, h1, h2⟩
  · exact Or.inl h
  · exact Or.inr ⟨b, off, h1, by simpa using h2⟩
theorem ExR.next {w : World} {ao : Option Addr} {i : Nat} {h : EH} {k r : Exs} (hR : ExR w ao i (.cons h k r)) :
    ∃ b off ao' cap', ao = some ⟨b, off, none⟩ ∧ ExL w ao' cap' k ∧ ExR w ao (i + 1) r ∧ w.cell? ⟨b, off + i * 7, none⟩ = some (ci h.kind) ∧ w.cell? ⟨b, off + i * 7 + 1, none⟩ = some (ci h.op) ∧ w.cell? ⟨b, off + i * 7 + 2, none⟩ = some (ct h.mod) ∧ w.cell? ⟨b, off + i * 7 + 3, none⟩ = some (ct h.name) ∧
      w.cell? ⟨b, off + i * 7 + 4, none⟩ = some (ci h.vt) ∧ w.cell? ⟨b, off + i * 7 + 5, none⟩ = some (.int .u64 h.vb) ∧ w.cell? ⟨b, off + i * 7 + 6, none⟩ = some (.slice ao' k.len cap') := by
  rcases hR with h | ⟨b, off, h1, h2⟩
  · simp [Exs.len] at h
  · obtain ⟨ao', cap', h3, h4, h5⟩ := ex_row h2
    exact ⟨b, off, ao', cap', h1, h3, Or.inr ⟨b, off, h1, by rw [show off + (i + 1) * 7 = off + i * 7 + 7 by omega]; exact h4⟩, h5⟩
theorem StR.next {w : World} {ao : Option Addr} {i : Nat} {h : SH} {e : Exs} {bo el r : Sts} (hR : StR w ao i (.cons h e bo el r)) :
    ∃ b off ao1 cap1 ao2 cap2 ao3 cap3, ao = some ⟨b, off, none⟩ ∧ ExL w ao1 cap1 e ∧ StL w ao2 cap2 bo ∧ StL w ao3 cap3 el ∧ StR w ao (i + 1) r ∧ w.cell? ⟨b, off + i * 5, none⟩ = some (ci h.kind) ∧ w.cell? ⟨b, off + i * 5 + 1, none⟩ = some (ct h.name) ∧ w.cell? ⟨b, off + i * 5 + 2, none⟩ = some (.slice ao1 e.len cap1) ∧
      w.cell? ⟨b, off + i * 5 + 3, none⟩ = some (.slice ao2 bo.len cap2) ∧ w.cell? ⟨b, off + i * 5 + 4, none⟩ = some (.slice ao3 el.len cap3) := by
  rcases hR with h | ⟨b, off, h1, h2⟩
  · simp [Sts.len] at h
  · obtain ⟨ao1, cap1, ao2, cap2, ao3, cap3, h3, h4, h5, h6, h7⟩ := st_row h2
    exact ⟨b, off, ao1, cap1, ao2, cap2, ao3, cap3, h1, h3, h4, h5, Or.inr ⟨b, off, h1, by rw [show off + (i + 1) * 5 = off + i * 5 + 5 by omega]; exact h6⟩, h7⟩

set_option maxRecDepth 20000 in
set_option maxHeartbeats 1000000 in
theorem lv2_any (op r : Int) (hr : Hidden (lv2 op = r)) (w : World) : Calls Tryz.prog 178 #[ci op] w fun e w' => e = .returned (ci r) ∧ w' = w := by
  go_enter Tryz.func178, Tryz.ntmps178
  go_wp2
  all_goals (go_ret; refine ⟨?_, rfl⟩; rw [← (show lv2 op = r from hr)]; clear hr)
  all_goals (simp only [beq_iff_eq, beq_eq_false_iff_ne, ne_eq] at *; unfold lv2)
  all_goals (first | (subst_vars; rfl) | (repeat' split) <;> first | rfl | omega)
theorem lv2_range (op : Int) : 1 ≤ lv2 op ∧ lv2 op ≤ 7 := by
  unfold lv2
  repeat' split
  all_goals omega
set_option maxRecDepth 20000 in
set_option maxHeartbeats 1000000 in
theorem side_any (own : Int) (i : Nat) (r : Int) (hr : Hidden (side own (decide (i = 0)) = r)) (h0 : 1 ≤ own) (h1 : own ≤ 7) (w : World) : Calls Tryz.prog 179 #[ci own, ci (i : Int)] w fun e w' => e = .returned (ci r) ∧ w' = w := by
  obtain rfl | rfl | rfl | rfl | rfl | rfl | rfl : own = 1 ∨ own = 2 ∨ own = 3 ∨ own = 4 ∨ own = 5 ∨ own = 6 ∨ own = 7 := by omega
  all_goals
    go_enter Tryz.func179, Tryz.ntmps179
    go_wp2
    all_goals (go_ret; refine ⟨?_, rfl⟩; rw [← (show side _ (decide (i = 0)) = r from hr)]; clear hr h0 h1)
    all_goals (simp only [decide_eq_true_eq, decide_eq_false_iff_not] at *)
    all_goals (first | rfl | (have hi : i ≠ 0 := (by omega); simp [side, hi]) | (have hi : i = 0 := (by omega); subst hi; rfl))

set_option maxRecDepth 20000 in
set_option maxHeartbeats 1000000 in
theorem kp_any (h : EH) (kv : Value) (hkv : ∃ ao n cap, kv = .slice ao n cap) (i : Nat) (l d : Int) (hl : Hidden (kidL h (decide (i = 0)) = l)) (hd : Hidden (kidD h = d)) (w : World) :
    Calls Tryz.prog 164 #[exV h kv, ci (i : Int)] w fun e w' => e = .returned (.tuple #[ci l, ci d]) ∧ Fr (fun _ => False) w w' := by
  obtain ⟨ao, n, cap, rfl⟩ := hkv
  obtain ⟨kind, op, mod, name, vt, vb⟩ := h
  have k1 := fun w => lv2_any op _ rfl w
  have k2 := fun w => side_any (lv2 op) i _ rfl (lv2_range op).1 (lv2_range op).2 w
  go_enter Tryz.func164, Tryz.ntmps164
  go_wp2_with (first
    | (go_at_call 178; refine (k1 _).mono ?_; rintro e w' ⟨rfl, rfl⟩)
    | (go_at_call 179; refine (k2 _).mono ?_; rintro e w' ⟨rfl, rfl⟩))
  all_goals (go_ret2; refine ⟨?_, Fr.alloc _ _ _⟩; rw [← (show kidL _ _ = l from hl), ← (show kidD _ = d from hd)]; clear hl hd k1 k2)
  all_goals (simp only [beq_iff_eq, beq_eq_false_iff_ne, ne_eq] at *)
  all_goals (subst_vars; simp [kidL, kidD, *])
set_option maxRecDepth 20000 in
set_option maxHeartbeats 1000000 in
theorem level_any (h : EH) (kv : Value) (hkv : ∃ ao n cap, kv = .slice ao n cap) (l : Int) (hl : Hidden (level h = l)) (w : World) :
    Calls Tryz.prog 163 #[exV h kv] w fun e w' => e = .returned (ci l) ∧ Fr (fun _ => False) w w' := by
  obtain ⟨ao, n, cap, rfl⟩ := hkv
  obtain ⟨kind, op, mod, name, vt, vb⟩ := h
  have k1 := fun w => lv2_any op _ rfl w
  go_enter Tryz.func163, Tryz.ntmps163
  go_wp2_with (go_at_call 178; refine (k1 _).mono ?_; rintro e w' ⟨rfl, rfl⟩)
  all_goals (go_ret; refine ⟨?_, Fr.alloc _ _ _⟩; rw [← (show level _ = l from hl)]; clear hl k1)
  all_goals (simp only [beq_iff_eq, beq_eq_false_iff_ne, ne_eq] at *)
  all_goals (subst_vars; simp [level, *])

def DepthC (h : EH) (k : Exs) : Prop := ∀ (least a R : Int) (ao : Option Addr) (cap : Nat) (w : World), Hidden (dX h k least a = R) → ExL w ao cap k →
  Calls Tryz.prog 149 #[exV h (.slice ao k.len cap), ci least, ci a] w fun e w' => e = .returned (ci R) ∧ Fr (fun _ => False) w w'
set_option maxRecDepth 20000 in
set_option maxHeartbeats 4000000 in
theorem depth_step (h : EH) (k : Exs) (ih : ∀ h' k', k'.size < k.size → DepthC h' k') : DepthC h k := by
  intro least a R ao cap w hR hk
  have hrest := hk.rest
  obtain ⟨hcap, hmax, _⟩ := hk
  have klev := fun w => level_any h (.slice ao k.len cap) ⟨_, _, _, rfl⟩ _ rfl w
  have hbx : Hidden ((w.alloc (.cells #[ci h.kind, ci h.op, ct h.mod, ct h.name, ci h.vt, .int .u64 h.vb, .slice ao k.len cap] 55)).heap[w.heap.size]? = some (.cells #[ci h.kind, ci h.op, ct h.mod, ct h.name, ci h.vt, .int .u64 h.vb, .slice ao k.len cap] 55 (0, 0))) := alloc_new _ _
  have hfr0 : Fr (fun _ => False) w (w.alloc (.cells #[ci h.kind, ci h.op, ct h.mod, ct h.name, ci h.vt, .int .u64 h.vb, .slice ao k.len cap] 55)) := Fr.alloc _ _ _
  generalize hb0 : w.alloc (.cells #[ci h.kind, ci h.op, ct h.mod, ct h.name, ci h.vt, .int .u64 h.vb, .slice ao k.len cap] 55) = W0 at hbx hfr0
  have hb0H : Hidden (w.alloc (.cells #[ci h.kind, ci h.op, ct h.mod, ct h.name, ci h.vt, .int .u64 h.vb, .slice ao k.len cap] 55) = W0) := hb0
  clear hb0
  obtain ⟨a1, ha1⟩ : ∃ a1, inAt h least a = a1 := ⟨_, rfl⟩
  have hR1 : Hidden (dK h k true a1 a1 = R) := by rw [← ha1]; exact hR
  have hin : (level h < least ∧ Hidden (wrap64 (a + 1) = a1)) ∨ (¬ level h < least ∧ Hidden (a = a1)) := by
    by_cases hlv : level h < least
    · exact Or.inl ⟨hlv, by rw [← ha1]; simp [Hidden, inAt, hlv]⟩
    · exact Or.inr ⟨hlv, by rw [← ha1]; simp [Hidden, inAt, hlv]⟩
  clear ha1 hR
  have hlen : k.len ≤ 9223372036854775807 := by unfold maxLen at hmax; omega
  rcases hin with ⟨hlv, e1⟩ | ⟨hlv, e1⟩
  all_goals
    go_enter Tryz.func149, Tryz.ntmps149
    go_wp2_with (go_at_call 163; refine (klev _).mono ?_; rw [show _ = W0 from hb0H]; rintro e W1 ⟨rfl, f1⟩; obtain ⟨c0, c1, c2, c3, c4, c5, c6⟩ := ex_box (f1.heap hbx (fun f => f)))
    clear c0 c1 c2 c3 c4 c5 c6 hlv
    go_loopg [7, 22] k.len (fun g lv iv wr => ∃ (i : Nat) (r : Exs) (acc : Int), lv = ci acc ∧ iv = ci (i : Int) ∧ i + r.len = k.len ∧ r.size ≤ k.size ∧ ExR w ao i r ∧ dK h r (decide (i = 0)) a1 acc = R ∧ g = r.len ∧ Fr (fun _ => False) W0 wr)
    case atStart => exact ⟨0, k, a1, by rw [show _ = a1 from e1], rfl, by omega, Nat.le_refl _, hrest, hR1, rfl, f1⟩
    case round =>
      obtain ⟨i, r, acc, rfl, rfl, hlen2, hsize, hrow, hdk, hgk, hfr⟩ := hrel
      have hgkH : Hidden (gk = r.len) := hgk
      have hdkH : Hidden (dK h r (decide (i = 0)) a1 acc = R) := hdk
      have hlenH : Hidden (i + r.len = k.len) := hlen2
      clear hgk hdk hlen2 hrest
      cases r with
      | nil =>
        have hi : i = k.len := hlenH
        subst hi
        have : acc = R := hdkH
        subst this
        go_wp2_with fail
        go_ret
        exact ⟨rfl, hfr0.same hfr⟩
      | cons h' k' r' =>
        have hil : i < k.len := by have : i + (r'.len + 1) = k.len := hlenH; omega
        obtain ⟨b, off, ao', cap', rfl, hL, hrow2, d0, d1, d2, d3, d4, d5, d6⟩ := hrow.next
        have fw := hfr0.same hfr
        have d0 := fw.cellN d0
        have d1 := fw.cellN d1
        have d2 := fw.cellN d2
        have d3 := fw.cellN d3
        have d4 := fw.cellN d4
        have d5 := fw.cellN d5
        have d6 := fw.cellN d6
        have hbw : wr.heap[w.heap.size]? = some (.cells #[ci h.kind, ci h.op, ct h.mod, ct h.name, ci h.vt, .int .u64 h.vb, .slice (some ⟨b, off, none⟩) k.len cap] 55 (0, 0)) := hfr.heap hbx (fun f => f)
        have hbo := fun o : Obj => ex_box ((Fr.alloc (fun _ => False) wr o).heap hbw (fun f => f))
        have kk := fun w => kp_any h (.slice (some ⟨b, off, none⟩) k.len cap) ⟨_, _, _, rfl⟩ i _ _ rfl rfl w
        have hs' : k'.size < k.size := by simp only [Exs.size] at hsize; omega
        have ke := ih h' k' hs'
        unfold DepthC at ke
        go_wp2_with fail
        obtain ⟨c0, c1, c2, c3, c4, c5, c6⟩ := hbo (.cells #[ci h'.kind, ci h'.op, ct h'.mod, ct h'.name, ci h'.vt, .int .u64 h'.vb, .slice ao' k'.len cap'] 55)
        go_wp2_with fail
        go_at_call 164
        refine (kk _).mono ?_
        rintro e W2 ⟨rfl, f2⟩
        obtain ⟨e0, e1', e2, e3, e4, e5, e6⟩ := ex_box (f2.heap (alloc_new wr (.cells #[ci h'.kind, ci h'.op, ct h'.mod, ct h'.name, ci h'.vt, .int .u64 h'.vb, .slice ao' k'.len cap'] 55)) (fun f => f))
        have f02 := hfr.same ((Fr.alloc _ wr _).same f2)
        go_wp2_with fail
        go_at_call 149
        refine (ke _ _ _ ao' cap' W2 rfl (hL.keep (hfr0.same f02))).mono ?_
        rintro e W3 ⟨rfl, f3⟩
        go_wp2_with fail
        all_goals
          go_roundg r'.len
          case measure =>
            have : gk = r'.len + 1 := hgkH
            omega
          case rel =>
            refine ⟨i + 1, r', _, rfl, by go_num, ?_, ?_, hrow2, ?_, rfl, f02.same f3⟩
            · have : i + (r'.len + 1) = k.len := hlenH
              omega
            · simp only [Exs.size] at hsize; omega
            · rw [show _ = a1 from e1] at *
              rw [← (show _ = R from hdkH), show decide (i + 1 = 0) = false by simp]
              show dK _ r' false a1 _ = dK _ r' false a1 (max acc (dX h' k' _ _))
              congr 1
              omega
theorem depth_any (h : EH) (k : Exs) : DepthC h k := by
  have : ∀ (n : Nat) (h : EH) (k : Exs), k.size < n → DepthC h k := by
    intro n
    induction n with
    | zero => intro h k hk; omega
    | succ n ih => intro h k hk; exact depth_step h k (fun h' k' hk' => ih h' k' (by omega))
  exact this (k.size + 1) h k (by omega)
end Go.Proofs.YtakkiipkmogagaaGreat
