/- The document's levels and the depth of expressions. -/
import Derived.Test.YteijjaabngkbjaaGreatDoorTrD2
namespace Go.Proofs.YteijjaabngkbjaaGreatDoor.X
open Go.RowKit Te
set_option linter.unusedSimpArgs false
set_option linter.unusedVariables false

set_option maxRecDepth 20000 in
set_option maxHeartbeats 4000000 in
theorem level_any (h : EH) (kv : Value) (hkv : ∃ ao n cap, kv = .slice ao n cap) (l : Int) (hl : Hidden (level h = l)) (w : World) :
    Calls Tryz.prog 91 #[exV h kv] w fun e w' => e = .returned (ci l) ∧ Fr (fun _ => False) w w' := by
  obtain ⟨ao, n, cap, rfl⟩ := hkv
  obtain ⟨kind, op, mod, name, vt, vb⟩ := h
  go_enter Tryz.func91, Tryz.ntmps91
  go_wp2
  all_goals (go_ret; refine ⟨?_, Fr.alloc _ _ _⟩; rw [← (show level _ = l from hl)]; clear hl)
  all_goals (simp only [beq_iff_eq, beq_eq_false_iff_ne, ne_eq, bne_iff_ne, bne_eq_false_iff_eq] at *; unfold level lv2)
  all_goals (refine ret_int ?_)
  all_goals (first | (subst_vars; simp; done) | (simp only []; (repeat' split) <;> first | rfl | omega))
theorem left_any (l r : Int) (hr : Hidden ((if l = 3 then 4 else l) = r)) (w : World) : Calls Tryz.prog 138 #[ci l] w fun e w' => e = .returned (ci r) ∧ w' = w := by
  by_cases h : l = 3
  · subst h
    obtain rfl : 4 = r := hr
    go_enter Tryz.func138, Tryz.ntmps138
    go_wp2
    go_ret
    exact ⟨rfl, rfl⟩
  · have h3 : (l == 3) = false := by simp [h]
    have hr2 : Hidden (l = r) := by rw [← (show _ = r from hr), if_neg h]; exact rfl
    clear hr
    go_enter Tryz.func138, Tryz.ntmps138
    go_wp2
    go_ret
    exact ⟨ret_int hr2, rfl⟩
theorem right_any (l r : Int) (h0 : 0 ≤ l) (h1 : l ≤ 7) (hr : Hidden (l + 1 = r)) (w : World) : Calls Tryz.prog 140 #[ci l] w fun e w' => e = .returned (ci r) ∧ w' = w := by
  go_enter Tryz.func140, Tryz.ntmps140
  go_wp2
  go_ret
  exact ⟨ret_int hr, rfl⟩
set_option maxRecDepth 20000 in
set_option maxHeartbeats 4000000 in
theorem kid_any (h : EH) (kv : Value) (hkv : ∃ ao n cap, kv = .slice ao n cap) (i : Nat) (hi : i ≤ 9223372036854775807) (l d : Int) (hl : Hidden (kidL h (decide (i = 0)) = l)) (hd : Hidden (kidD h = d)) (w : World) :
    Calls Tryz.prog 172 #[exV h kv, ci (i : Int)] w fun e w' => e = .returned (.tuple #[ci l, ci d]) ∧ Fr (fun _ => False) w w' := by
  have klev := fun w => level_any h kv hkv _ rfl w
  obtain ⟨ao, n, cap, rfl⟩ := hkv
  obtain ⟨kind, op, mod, name, vt, vb⟩ := h
  by_cases h7 : kind = 7
  · subst h7
    have hlev : level ⟨7, op, mod, name, vt, vb⟩ = lv2 op := by simp [level]
    rw [hlev] at klev
    clear hlev
    have hl2 : Hidden (side (lv2 op) (decide (i = 0)) = l) := by rw [← (show _ = l from hl)]; simp [Hidden, kidL]
    obtain rfl : 0 = d := by rw [← (show _ = d from hd)]; simp [kidD]
    have hr := lv2_range op
    generalize lv2 op = own at klev hl2 hr
    clear hl hd
    have hbx : Hidden ((w.alloc (.cells #[ci 7, ci op, ct mod, ct name, ci vt, .int .u64 vb, .slice ao n cap] 59)).heap[w.heap.size]? = some (.cells #[ci 7, ci op, ct mod, ct name, ci vt, .int .u64 vb, .slice ao n cap] 59 (0, 0))) := alloc_new _ _
    have f0 : Fr (fun _ => False) w (w.alloc (.cells #[ci 7, ci op, ct mod, ct name, ci vt, .int .u64 vb, .slice ao n cap] 59)) := Fr.alloc _ _ _
    obtain ⟨hr0, hr1⟩ := hr
    by_cases ho : own < 7
    · by_cases hz : i = 0
      · subst hz
        have hv : Hidden ((if own = 3 then 4 else own) = l) := by
          rw [← (show _ = l from hl2)]
          show (if own = 3 then 4 else own) = side own true
          unfold side
          by_cases h3 : own = 3
          · subst h3; rfl
          · rw [if_neg h3, if_neg (show ¬ own = 7 by omega), if_neg (by simp [h3])]
        clear hl2
        have kle := fun w => left_any own l hv w
        go_enter Tryz.func172, Tryz.ntmps172
        go_wp2_with fail
        go_at_call 91
        refine (klev _).mono ?_
        rintro e w1 ⟨rfl, f1⟩
        have y1 := f1.heap hbx (fun f => f)
        obtain ⟨c0, c1, c2, c3, c4, c5, c6⟩ := ex_box y1
        go_wp2_with fail
        go_at_call 91
        refine (klev _).mono ?_
        rintro e w2 ⟨rfl, f2⟩
        go_wp2_with fail
        go_at_call 138
        refine (kle _).mono ?_
        rintro e w3 ⟨rfl, rfl⟩
        go_wp2_with fail
        go_ret2
        exact ⟨rfl, (f0.same f1).same f2⟩
      · have hi0 : ((i : Int) == 0) = false := by rw [beq_eq_false_iff_ne]; omega
        have hv : Hidden (own + 1 = l) := by
          rw [← (show _ = l from hl2)]
          show own + 1 = side own (decide (i = 0))
          unfold side
          rw [if_neg (show ¬ own = 7 by omega), if_pos (Or.inl (decide_eq_false hz))]
        clear hl2 hz
        have kri := fun w => right_any own l (by omega) hr1 hv w
        go_enter Tryz.func172, Tryz.ntmps172
        go_wp2_with fail
        go_at_call 91
        refine (klev _).mono ?_
        rintro e w1 ⟨rfl, f1⟩
        have y1 := f1.heap hbx (fun f => f)
        obtain ⟨c0, c1, c2, c3, c4, c5, c6⟩ := ex_box y1
        go_wp2_with fail
        go_at_call 91
        refine (klev _).mono ?_
        rintro e w2 ⟨rfl, f2⟩
        have y2 := f2.heap y1 (fun f => f)
        obtain ⟨b0, b1, b2, b3, b4, b5, b6⟩ := ex_box y2
        go_wp2_with fail
        go_at_call 91
        refine (klev _).mono ?_
        rintro e w3 ⟨rfl, f3⟩
        go_wp2_with fail
        go_at_call 140
        refine (kri _).mono ?_
        rintro e w4 ⟨rfl, rfl⟩
        go_wp2_with fail
        go_ret2
        exact ⟨rfl, ((f0.same f1).same f2).same f3⟩
    · obtain rfl : own = 7 := by omega
      obtain rfl : 1 = l := hl2
      go_enter Tryz.func172, Tryz.ntmps172
      go_wp2_with fail
      go_at_call 91
      refine (klev _).mono ?_
      rintro e w1 ⟨rfl, f1⟩
      have y1 := f1.heap hbx (fun f => f)
      obtain ⟨c0, c1, c2, c3, c4, c5, c6⟩ := ex_box y1
      go_wp2_with fail
      go_at_call 91
      refine (klev _).mono ?_
      rintro e w2 ⟨rfl, f2⟩
      go_wp2_with fail
      go_ret2
      exact ⟨rfl, (f0.same f1).same f2⟩
  · have n7 : (kind == 7) = false := by simp [h7]
    clear klev
    go_enter Tryz.func172, Tryz.ntmps172
    go_wp2
    all_goals (go_ret2; refine ⟨?_, Fr.alloc _ _ _⟩; rw [← (show kidL _ _ = l from hl), ← (show kidD _ = d from hd)]; clear hl hd)
    all_goals (simp only [beq_iff_eq, beq_eq_false_iff_ne, ne_eq] at *)
    all_goals (subst_vars; first | (simp [kidL, kidD, *]; done) | (have h2 : op = 2 := (by omega); subst h2; simp [kidL, kidD]; done) | (have h2 : op = 4 := (by omega); subst h2; simp [kidL, kidD]; done))

def DepthC (h : EH) (k : Exs) : Prop := ∀ (least a R : Int) (ao : Option Addr) (cap : Nat) (w : World), Hidden (dX h k least a = R) → ExL w ao cap k →
  Calls Tryz.prog 132 #[exV h (.slice ao k.len cap), ci a, ci least] w fun e w' => e = .returned (ci R) ∧ Fr (fun _ => False) w w'
set_option maxRecDepth 20000 in
set_option maxHeartbeats 4000000 in
theorem depth_step (h : EH) (k : Exs) (ih : ∀ h' k', k'.size < k.size → DepthC h' k') : DepthC h k := by
  intro least a R ao cap w hR hk
  have hrest := hk.rest
  obtain ⟨hcap, hmax, _⟩ := hk
  have klev := fun w => level_any h (.slice ao k.len cap) ⟨_, _, _, rfl⟩ _ rfl w
  have hbx : Hidden ((w.alloc (.cells #[ci h.kind, ci h.op, ct h.mod, ct h.name, ci h.vt, .int .u64 h.vb, .slice ao k.len cap] 59)).heap[w.heap.size]? = some (.cells #[ci h.kind, ci h.op, ct h.mod, ct h.name, ci h.vt, .int .u64 h.vb, .slice ao k.len cap] 59 (0, 0))) := alloc_new _ _
  have hfr0 : Fr (fun _ => False) w (w.alloc (.cells #[ci h.kind, ci h.op, ct h.mod, ct h.name, ci h.vt, .int .u64 h.vb, .slice ao k.len cap] 59)) := Fr.alloc _ _ _
  generalize hb0 : w.alloc (.cells #[ci h.kind, ci h.op, ct h.mod, ct h.name, ci h.vt, .int .u64 h.vb, .slice ao k.len cap] 59) = W0 at hbx hfr0
  have hb0H : Hidden (w.alloc (.cells #[ci h.kind, ci h.op, ct h.mod, ct h.name, ci h.vt, .int .u64 h.vb, .slice ao k.len cap] 59) = W0) := hb0
  clear hb0
  obtain ⟨a1, ha1⟩ : ∃ a1, inAt h least a = a1 := ⟨_, rfl⟩
  have hR1 : Hidden (dK h k true a1 a1 = R) := by rw [← ha1]; exact hR
  have hin : (level h < least ∧ Hidden (wrap64 (a + 1) = a1)) ∨ (¬ level h < least ∧ Hidden (a = a1)) := by
    by_cases hlv : level h < least
    · exact Or.inl ⟨hlv, by rw [← ha1]; simp [Hidden, inAt, hlv]⟩
    · exact Or.inr ⟨hlv, by rw [← ha1]; simp [Hidden, inAt, hlv]⟩
  clear ha1 hR
  have hlen : k.len ≤ 9223372036854775807 := by unfold maxLen at hmax; omega
  rcases hin with ⟨hlv, e1⟩ | ⟨hlv, e1⟩
  all_goals
    go_enter Tryz.func132, Tryz.ntmps132
    go_wp2_with (go_at_call 91; refine (klev _).mono ?_; rw [show _ = W0 from hb0H]; rintro e W1 ⟨rfl, f1⟩; obtain ⟨c0, c1, c2, c3, c4, c5, c6⟩ := ex_box (f1.heap hbx (fun f => f)))
    clear c0 c1 c2 c3 c4 c5 c6 hlv
    go_loopg [7, 8] k.len (fun g lv iv wr => ∃ (i : Nat) (r : Exs) (acc : Int), lv = ci acc ∧ iv = ci (i : Int) ∧ i + r.len = k.len ∧ r.size ≤ k.size ∧ ExR w ao i r ∧ dK h r (decide (i = 0)) a1 acc = R ∧ g = r.len ∧ Fr (fun _ => False) W0 wr)
    case atStart => exact ⟨0, k, a1, by rw [show _ = a1 from e1], rfl, by omega, Nat.le_refl _, hrest, hR1, rfl, f1⟩
    case round =>
      obtain ⟨i, r, acc, rfl, rfl, hlen2, hsize, hrow, hdk, hgk, hfr⟩ := hrel
      have hgkH : Hidden (gk = r.len) := hgk
      have hdkH : Hidden (dK h r (decide (i = 0)) a1 acc = R) := hdk
      have hlenH : Hidden (i + r.len = k.len) := hlen2
      have hbw : wr.heap[w.heap.size]? = some (.cells #[ci h.kind, ci h.op, ct h.mod, ct h.name, ci h.vt, .int .u64 h.vb, .slice ao k.len cap] 59 (0, 0)) := hfr.heap hbx (fun f => f)
      clear hgk hdk hlen2 hrest
      cases r with
      | nil =>
        have hi : i = k.len := hlenH
        subst hi
        have : acc = R := hdkH
        subst this
        obtain ⟨c0, c1, c2, c3, c4, c5, c6⟩ := ex_box hbw
        go_wp2_with fail
        go_ret
        exact ⟨rfl, hfr0.same hfr⟩
      | cons h' k' r' =>
        have hil : i < k.len := by have : i + (r'.len + 1) = k.len := hlenH; omega
        have hi9 : i ≤ 9223372036854775807 := by omega
        obtain ⟨b, off, ao', cap', rfl, hL, hrow2, d0, d1, d2, d3, d4, d5, d6⟩ := hrow.next
        have fw := hfr0.same hfr
        obtain ⟨c0, c1, c2, c3, c4, c5, c6⟩ := ex_box hbw
        have kk := fun w => kid_any h (.slice (some ⟨b, off, none⟩) k.len cap) ⟨_, _, _, rfl⟩ i hi9 _ _ rfl rfl w
        have hs' : k'.size < k.size := by simp only [Exs.size] at hsize; omega
        have ke := ih h' k' hs'
        unfold DepthC at ke
        go_wp2_with fail
        go_at_call 172
        refine (kk _).mono ?_
        rintro e W2 ⟨rfl, f2⟩
        obtain ⟨e0, e1', e2, e3, e4, e5, e6⟩ := ex_box (f2.heap hbw (fun f => f))
        have fw2 := fw.same f2
        have d0 := fw2.cellN d0
        have d1 := fw2.cellN d1
        have d2 := fw2.cellN d2
        have d3 := fw2.cellN d3
        have d4 := fw2.cellN d4
        have d5 := fw2.cellN d5
        have d6 := fw2.cellN d6
        go_wp2_with fail
        go_at_call 132
        refine (ke _ _ _ ao' cap' W2 rfl (hL.keep fw2)).mono ?_
        rintro e W3 ⟨rfl, f3⟩
        go_wp2_with fail
        all_goals
          go_roundg r'.len
          case measure =>
            have : gk = r'.len + 1 := hgkH
            omega
          case rel =>
            refine ⟨i + 1, r', _, rfl, by go_num, ?_, ?_, hrow2, ?_, rfl, (hfr.same f2).same f3⟩
            · have : i + (r'.len + 1) = k.len := hlenH
              omega
            · simp only [Exs.size] at hsize; omega
            · rw [show _ = a1 from e1] at *
              rw [← (show _ = R from hdkH), show decide (i + 1 = 0) = false by simp]
              show dK _ r' false a1 _ = dK _ r' false a1 (max acc (dX h' k' _ _))
              congr 1
              omega
theorem depth_any (h : EH) (k : Exs) : DepthC h k := by
  have : ∀ (n : Nat) (h : EH) (k : Exs), k.size < n → DepthC h k := by
    intro n
    induction n with
    | zero => intro h k hk; omega
    | succ n ih => intro h k hk; exact depth_step h k (fun h' k' hk' => ih h' k' (by omega))
  exact this (k.size + 1) h k (by omega)
end Go.Proofs.YteijjaabngkbjaaGreatDoor.X
