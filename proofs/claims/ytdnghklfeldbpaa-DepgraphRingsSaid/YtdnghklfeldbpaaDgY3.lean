/- DepgraphRings. -/
import Derived.Test.YtdnghklfeldbpaaDgY2
namespace Go.Proofs.Ytdnghklfeldbpaa.Dg
open Go.RowKit Go.Sort
/-- What the law asks of a ring. -/
theorem ring_next {g : Gr} (hg : g.WF) (i : Nat) (a : Str) (h : (ringS g)[i]? = some a) : ∃ b, (ringS g)[(i + 1) % (ringS g).length]? = some b ∧ b ∈ g.im a ∧ a ∉ (ringS g).take i := by
  have hi : i < (ringS g).length := (List.getElem?_eq_some_iff.1 h).1
  rcases ringS_spec hg with ⟨h0, _⟩ | ⟨s, hs, ⟨x, hp, hx, hn⟩, _⟩
  · rw [h0] at h; simp at h
  · have hlast := hp.lastP
    obtain ⟨t, ht⟩ := hp.head
    have hnot : a ∉ (ringS g).take i := by
      intro hm
      obtain ⟨j, hj⟩ := List.getElem?_of_mem hm
      have hji : j < i := by have := (List.getElem?_eq_some_iff.1 hj).1; simp at this; omega
      rw [List.getElem?_take_of_lt hji] at hj
      have := (List.getElem?_inj (by omega) hn).1 (hj.trans h.symm)
      omega
    by_cases hl : i + 1 < (ringS g).length
    · rw [Nat.mod_eq_of_lt hl]
      exact ⟨(ringS g)[i + 1], List.getElem?_eq_getElem hl, hp.chain i a _ h (List.getElem?_eq_getElem hl), hnot⟩
    · have e : i + 1 = (ringS g).length := by omega
      rw [e, Nat.mod_self]
      refine ⟨s, by rw [ht]; rfl, ?_, hnot⟩
      have : (ringS g).getLast? = some a := by rw [List.getLast?_eq_getElem?, ← e]; exact h
      rw [Dg.lastP, List.getLastD_eq_getLast?, this] at hlast
      simp at hlast
      rw [hlast]
      exact hx
theorem at_in {w : World} {v : Value} {l : List Str} (s : Str) (h : Tl w v l) (hs : s ∈ l) : ∃ k : Nat, ∀ W, Fr (fun _ => False) w W → Calls Try.prog 34 #[v, .string ⟨s.toArray⟩] W (fun e w' => e = .returned (.int .i64 (k : Int)) ∧ w' = W) := by
  obtain ⟨R, h1, h2⟩ := at_is s h
  have h0 : 0 ≤ R := (h2.resolve_right fun h => h.1 hs).2.1
  obtain ⟨k, rfl⟩ := Int.eq_ofNat_of_zero_le h0
  exact ⟨k, h1⟩
theorem ring_self {g : Gr} (hg : g.WF) (n : Str) (h : Dg.Reach g n n) : ∃ s t, ringS g = s :: t ∧ ¬ n < s := by
  rcases ringS_spec hg with ⟨_, h0⟩ | ⟨s, hs, ⟨x, hp, hx, hn⟩, h1⟩
  · exact absurd h (h0 n)
  · obtain ⟨t, ht⟩ := hp.head
    exact ⟨s, t, ht, fun hl => h1 n (Reach.node hg h) hl h⟩
end Go.Proofs.Ytdnghklfeldbpaa.Dg
namespace Go.Proofs.Ytdnghklfeldbpaa.depgraphRings
open Go.RowKit Go.Sort Dg
set_option linter.unusedSimpArgs false
set_option linter.unusedVariables false
set_option maxRecDepth 20000 in
set_option maxHeartbeats 4000000 in
theorem walk (v : Value) (nl : List Nd) (w : World) (hm : NL w v nl) (hok : ∀ n ∈ nl, OkN n.1 ∧ ∀ x ∈ n.2, OkN x) (hsz : nl.length * 40 ≤ 140737488355328 ∧ ∀ n ∈ nl, n.2.length * 16 ≤ 140737488355328) :
    Calls Try.prog 6 #[v] w fun e w' => e = .returned (.bool true) ∧ Fr (fun _ => False) w w' := by
  obtain ⟨ao, cap, rfl, t1, t2, _⟩ := id hm
  have ko := own_any ao cap nl w hm hsz.1 hsz.2
  have hokH : Hidden (∀ n ∈ nl, OkN n.1 ∧ ∀ x ∈ n.2, OkN x) := hok
  obtain ⟨nn, hnn⟩ : ∃ n, n = nl.length := ⟨_, rfl⟩
  rw [← hnn] at ko t1 ⊢
  have hnnH : Hidden (nn = nl.length) := hnn
  clear hm hok hsz hnn
  go_enter Try.func6, Try.ntmps6
  go_wp2_with fail
  refine ko.mono ?_
  rintro e w1 ⟨ao1, cap1, xs, rfl, o1, f1⟩
  have f1H : Hidden (Fr (fun _ => False) w w1) := f1
  have kn := new_any ao1 cap1 nl w1 (by rw [← (show nn = nl.length from hnnH)]; exact o1.nl) hokH
  rw [← (show nn = nl.length from hnnH)] at kn
  clear ko o1 f1
  go_wp2_with fail
  refine kn.mono ?_
  rintro e w2 ⟨hR, f2⟩
  have f2H : Hidden (Fr (fun _ => False) w w2) := Fr.same f1H f2
  have ka := alive_any w2
  clear kn f2
  rcases hR with ⟨hE, rfl⟩ | ⟨_, B, rfl, hG⟩
  · have hE' : (newE nl == 0) = false := beq_eq_false_iff_ne.2 hE
    generalize newE nl = E at *
    go_wp2_with fail
    refine ka.mono ?_
    rintro e w3 ⟨rfl, f3⟩
    have f3H : Hidden (Fr (fun _ => False) w w3) := Fr.same f2H f3
    clear ka f3
    go_wp2
    go_ret
    exact ⟨rfl, f3H⟩
  have hg : Gp w2 (.pointer (some ⟨B, 0, none⟩)) (gOf nl) := hG w2 (Fr.refl _ _)
  have hgH : Hidden (Gp w2 (.pointer (some ⟨B, 0, none⟩)) (gOf nl)) := hg
  have hsm := hg.small
  have hwf := gOf_wf nl
  clear hG hg
  generalize gOf nl = g at *
  go_wp2_with fail
  refine ka.mono ?_
  rintro e w3 ⟨rfl, f3⟩
  have f3H : Hidden (Fr (fun _ => False) w2 w3) := f3
  have kn := ring_any _ _ w3 (Gp.later hgH f3H)
  clear ka f3
  go_wp2_with fail
  refine kn.mono ?_
  rintro e w4 ⟨⟨aor, capr, rfl, t4⟩, f4⟩
  have f4H : Hidden (Fr (fun _ => False) w2 w4) := Fr.same f3H f4
  have t4H : Hidden (Tl w4 (.slice aor (ringS g).length capr) (ringS g)) := t4
  have kn := names_any _ _ w4 (Gp.later hgH f4H)
  clear t4 f4
  go_wp2_with fail
  refine kn.mono ?_
  rintro e w5 ⟨⟨aon, capn, rfl, t5⟩, f5⟩
  have f5H : Hidden (Fr (fun _ => False) w2 w5) := Fr.same f4H f5
  have t5H : Hidden (Tl w5 (.slice aon g.ks.length capn) g.ks) := t5.tn.tl
  have t4H' : Hidden (Tl w5 (.slice aor (ringS g).length capr) (ringS g)) := Tl.later t4H f5
  clear kn t5 f5 t4H
  have hwfH : Hidden g.WF := hwf
  have hcr : (ringS g).length ≤ capr ∧ capr ≤ 9223372036854775807 := by obtain ⟨_, _, e, q1, q2, _⟩ := (show Tl w5 _ _ from t4H'); cases e; exact ⟨q1, q2⟩
  have hcn : g.ks.length ≤ capn ∧ capn ≤ 9223372036854775807 := by obtain ⟨_, _, e, q1, q2, _⟩ := (show Tl w5 _ _ from t5H); cases e; exact ⟨q1, q2⟩
  obtain ⟨hcr1, hcr2⟩ := hcr
  obtain ⟨hcn1, hcn2⟩ := hcn
  clear hwf kn
  obtain ⟨rl, hrl⟩ : ∃ rl, (ringS g).length = rl := ⟨_, rfl⟩
  have hrlH : Hidden ((ringS g).length = rl) := hrl
  rw [hrl] at t4H' hcr1 ⊢
  clear hrl
  go_wp2
  go_loopg [7] g.ks.length (fun k iv wr => ∃ j : Nat, iv = .int .i64 (j : Int) ∧ j ≤ g.ks.length ∧ k = g.ks.length - j ∧ Fr (fun _ => False) w5 wr)
  case atStart => exact ⟨0, rfl, by omega, rfl, Fr.refl _ _⟩
  case round =>
    obtain ⟨j, rfl, hj, hk, hf⟩ := hrel
    have hkH : Hidden (gk = g.ks.length - j) := hk
    have hfH : Hidden (Fr (fun _ => False) w5 wr) := hf
    have fw : Hidden (Fr (fun _ => False) w2 wr) := Fr.same f5H hf
    clear hk
    by_cases hjl : j < g.ks.length
    · obtain ⟨n, hn⟩ : ∃ n, g.ks[j]? = some n := ⟨g.ks[j], List.getElem?_eq_getElem hjl⟩
      have hnok : OkN n := (show Gp w2 _ g from hgH).okN (List.mem_of_getElem? hn)
      obtain ⟨b, off, rfl, cx⟩ := Tl.at (Tl.later t5H hf) hn
      have kd : ∀ W, Fr (fun _ => False) wr W → Calls Try.prog 20 #[.pointer (some ⟨B, 0, none⟩), ct n] W fun e w' => (∃ l, Ret W.heap.size l e w' ∧ IsUnder g n l) ∧ Fr (fun _ => False) W w' := fun W hW => under_any _ _ n W (Gp.later hgH (Fr.same fw hW)) hnok
      clear hn hf
      go_wp2_with fail
      go_region_held3 (fun w' => w'.cell? ⟨b, off + j, none⟩ = some (ct n)) (first | (with_reducible assumption) | go_keep) (first
        | (go_at_call 20
           first
             | (refine (kd wr (Fr.refl _ _)).mono ?_; rintro e w6 ⟨⟨l6, ⟨ao6, cap6, rfl, t6⟩, u6⟩, f6⟩; have f6w : Fr (fun _ => False) wr w6 := f6; have cx6 := f6w.cellN cx; obtain ⟨rr, ka, hrr⟩ := at_is n t6.tn.tl; rw [u6.2] at hrr; have hrrH : Hidden ((Dg.Reach g n n ∧ 0 ≤ rr ∧ rr < 9223372036854775807) ∨ (¬ Dg.Reach g n n ∧ rr = -1)) := hrr; have f6H : Hidden (Fr (fun _ => False) wr w6) := f6w; clear t6 u6 f6 f6w hrr)
             | (refine (kd wr.drew (Fr.drew _ _)).mono ?_; rintro e w6 ⟨⟨l6, ⟨ao6, cap6, rfl, t6⟩, u6⟩, f6⟩; have f6w : Fr (fun _ => False) wr w6 := (Fr.drew _ _).same f6; have cx6 := f6w.cellN cx; obtain ⟨rr, ka, hrr⟩ := at_is n t6.tn.tl; rw [u6.2] at hrr; have hrrH : Hidden ((Dg.Reach g n n ∧ 0 ≤ rr ∧ rr < 9223372036854775807) ∨ (¬ Dg.Reach g n n ∧ rr = -1)) := hrr; have f6H : Hidden (Fr (fun _ => False) wr w6) := f6w; clear t6 u6 f6 f6w hrr))
        | (go_at_call 34
           first
             | (refine (ka w6 (Fr.refl _ _)).mono ?_; rintro e w7 ⟨rfl, hw7⟩; replace hw7 := hw7.symm; subst hw7)
             | (refine (ka w6.drew (Fr.drew _ _)).mono ?_; rintro e w7 ⟨rfl, hw7⟩; replace hw7 := hw7.symm; subst hw7)))
      all_goals (
        rcases (show (Dg.Reach g n n ∧ 0 ≤ rr ∧ rr < 9223372036854775807) ∨ (¬ Dg.Reach g n n ∧ rr = -1) from hrrH) with ⟨hre, hr0, hr1⟩ | ⟨_, hr0⟩
        · obtain ⟨s, t, hst, hlt⟩ := ring_self hwfH n hre
          have hless : (!Op.bytesLess s n && !s == n) = false := by
            rw [bytesLess_eq]
            rcases Std.lt_trichotomy s n with h | h | h
            · rw [decide_eq_true h]; rfl
            · rw [h]; simp
            · exact absurd h hlt
          obtain ⟨br, offr, hbr, cr⟩ := Tl.at (Tl.later t4H' (Fr.same hfH f6H)) (j := 0) (x := s) (by rw [hst]; rfl)
          have hrp : 0 < rl := by rw [← (show (ringS g).length = rl from hrlH), hst]; simp
          have hz0 : (rl : Int) ≠ 0 := by omega
          have hz1 : ((rl : Int) == 0) = false := by simp; omega
          have hz2 : rl ≠ 0 := by omega
          subst hbr
          rw [Nat.add_zero] at cr
          clear hst hlt
          rw [decide_eq_true hr0]
          go_wp2_with fail
          go_quiet (fail)
          go_wp2_with fail
          go_roundg (g.ks.length - (j + 1))
          case measure => have := (show gk = g.ks.length - j from hkH); omega
          case rel => exact ⟨j + 1, by go_num, by omega, rfl, (Fr.same hfH f6H).same (fr_drewN _ _)⟩
        · subst hr0
          rw [show decide ((0 : Int) ≤ -1) = false from rfl]
          go_wp2_with fail
          go_quiet (fail)
          go_wp2_with fail
          go_roundg (g.ks.length - (j + 1))
          case measure => have := (show gk = g.ks.length - j from hkH); omega
          case rel => exact ⟨j + 1, by go_num, by omega, rfl, (Fr.same hfH f6H).same (fr_drewN _ _)⟩)
    · obtain rfl : j = g.ks.length := by omega
      have t6H : Hidden (Tl wr (.slice aor rl capr) (ringS g)) := Tl.later t4H' hf
      obtain ⟨w6, hw6⟩ : ∃ w6, w6 = wr := ⟨wr, rfl⟩
      subst hw6
      clear hf
      go_wp2
      go_loopg [9] rl (fun k iv wr => ∃ j : Nat, iv = .int .i64 (j : Int) ∧ j ≤ rl ∧ k = rl - j ∧ Fr (fun _ => False) w6 wr)
      case atStart => exact ⟨0, rfl, by omega, rfl, Fr.refl _ _⟩
      case round =>
        obtain ⟨j, rfl, hj, hk, hf⟩ := hrel
        have hkH : Hidden (gk = rl - j) := hk
        have hfH : Hidden (Fr (fun _ => False) w6 wr) := hf
        have fw2 : Hidden (Fr (fun _ => False) w2 wr) := Fr.same fw hf
        clear hk
        by_cases hjl : j < rl
        · have hrl : (ringS g).length = rl := hrlH
          obtain ⟨a, ha⟩ : ∃ a, (ringS g)[j]? = some a := ⟨(ringS g)[j]'(by omega), List.getElem?_eq_getElem _⟩
          obtain ⟨y, hy, hya, hnot⟩ := ring_next hwfH j a ha
          have haok : OkN a := (show Gp w2 _ g from hgH).okN (Reach.node hwfH (.one hya))
          obtain ⟨b, off, hb0, cx⟩ := Tl.at (Tl.later t6H hf) ha
          subst hb0
          obtain ⟨b', off', hb0, cy⟩ := Tl.at (Tl.later t6H hf) hy
          simp only [Option.some.injEq, Addr.mk.injEq, and_true] at hb0
          obtain ⟨rfl, rfl⟩ := hb0
          have ki : ∀ W, Fr (fun _ => False) wr W → Calls Try.prog 16 #[.pointer (some ⟨B, 0, none⟩), ct a] W fun e w' => Ret W.heap.size (g.im a) e w' ∧ Fr (fun _ => False) W w' := fun W hW => imports_any _ _ a W (Gp.later hgH (Fr.same fw2 hW)) haok
          have ht2 : Hidden (Tl wr (.slice (some ⟨b, off, none⟩) j capr) ((ringS g).take j)) := by
            obtain ⟨ao', cap', e, q1, q2, q3, q4⟩ := Tl.later t6H hf
            cases e
            have el : ((ringS g).take j).length = j := by simp; omega
            refine ⟨some ⟨b, off, none⟩, capr, by rw [el], by rw [el]; omega, q2, q3, ?_⟩
            rcases q4 with q4 | ⟨b2, off2, e2, q5⟩
            · rw [q4] at ha; simp at ha
            · refine Or.inr ⟨b2, off2, e2, fun i x hx => q5 i x ?_⟩
              have hi : i < j := by have := (List.getElem?_eq_some_iff.1 hx).1; omega
              rw [List.getElem?_take_of_lt hi] at hx
              exact hx
          obtain ⟨r2, k2, hr2⟩ := at_is a ht2
          obtain rfl : r2 = -1 := (hr2.resolve_left fun h => hnot h.1).2
          rw [hrl] at hy cy
          obtain ⟨m, hm⟩ : ∃ m, (j + 1) % rl = m := ⟨_, rfl⟩
          have hml : m < rl := by rw [← hm]; exact Nat.mod_lt _ (by omega)
          have hrem : ((j : Int) + 1).tmod (rl : Int) = (m : Int) := by rw [← hm]; rfl
          have hj0 : (0 : Int) ≤ (j : Int) := by omega
          have hj1 : (j : Int) ≤ (capr : Int) := by omega
          have hj2 : (j : Int) < (rl : Int) := by omega
          have hz0 : (rl : Int) ≠ 0 := by omega
          have hz1 : ((rl : Int) == 0) = false := by simp; omega
          have hz2 : rl ≠ 0 := by omega
          have hm0 : (0 : Int) ≤ (m : Int) := by omega
          have hm1 : (m : Int) < (rl : Int) := by omega
          have hwm : IntKind.i64.wrap (m : Int) = (m : Int) := Dg.wrap_small (by omega) (by omega)
          have hwj : IntKind.i64.wrap ((j : Int) + 1) = (j : Int) + 1 := Dg.wrap_small (by omega) (by omega)
          have hmem : Hidden (y ∈ g.im a) := hya
          rw [hm] at cy hy
          clear ha hy hya hnot hf hr2 hrl hm t4H' t5H
          go_wp2_with fail
          go_region_held3 (fun w' => w'.cell? ⟨b, off + j, none⟩ = some (ct a) ∧ w'.cell? ⟨b, off + m, none⟩ = some (ct y)) (first | (refine ⟨by with_reducible assumption, by with_reducible assumption⟩) | go_keep) (first
            | (go_at_call 16
               first
                 | (refine (ki wr.drew (Fr.drew _ _)).mono ?_; rintro e w7 ⟨⟨ao7, cap7, rfl, t7⟩, f7⟩; have f7w : Fr (fun _ => False) wr w7 := (Fr.drew _ _).same f7; have cx7 := f7w.cellN cx; have cy7 := f7w.cellN cy; obtain ⟨rr, ka⟩ := at_in y t7.tn.tl hmem; have f7H : Hidden (Fr (fun _ => False) wr w7) := f7w; clear t7 f7 f7w))
            | (go_at_call 34
               first
                 | (with_reducible refine (ka w7 (Fr.refl _ _)).mono ?_; rintro e w8 ⟨rfl, hw8⟩; replace hw8 := hw8.symm; subst hw8)
                 | (with_reducible refine (ka w7.drew (Fr.drew _ _)).mono ?_; rintro e w8 ⟨rfl, hw8⟩; replace hw8 := hw8.symm; subst hw8)
                 | (refine (k2 w7 f7H).mono ?_; rintro e w8 ⟨rfl, hw8⟩; replace hw8 := hw8.symm; subst hw8)
                 | (refine (k2 w7.drew (Fr.same f7H (Fr.drew _ _))).mono ?_; rintro e w8 ⟨rfl, hw8⟩; replace hw8 := hw8.symm; subst hw8)))
          all_goals (
            go_wp2_with fail
            go_roundg (rl - (j + 1))
            case measure => have := (show gk = rl - j from hkH); omega
            case rel => exact ⟨j + 1, by go_num, by omega, rfl, Fr.same hfH f7H⟩)
        · obtain rfl : j = rl := by omega
          clear hf
          go_wp2
          go_ret
          exact ⟨rfl, Fr.same f2H fw2⟩
end Go.Proofs.Ytdnghklfeldbpaa.depgraphRings
