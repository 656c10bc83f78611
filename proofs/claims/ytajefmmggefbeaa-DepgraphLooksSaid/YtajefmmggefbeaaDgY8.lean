/- DepgraphLooks. -/
import Derived.Test.YtajefmmggefbeaaDgY7
namespace Go.Proofs.Ytajefmmggefbeaa.Dg
open Go.RowKit Go.Sort
theorem under_same {g : Gr} {n : Str} {a b : List Str} (ha : IsUnder g n a) (hb : IsUnder g n b) : a = b := SS.ext ha.1 hb.1 fun x => by rw [ha.2 x, hb.2 x]
theorem over_same {g : Gr} {n : List Str} {a b : List Str} (ha : IsOver g n a) (hb : IsOver g n b) : a = b := SS.ext ha.1 hb.1 fun x => by rw [ha.2 x, hb.2 x]
theorem missV_shape2 (r : Option (Str × Str)) : ∃ (a b : Str) (c : Bool), missV r = .tuple #[ct a, ct b, .bool c] := by
  obtain ⟨a, b, h⟩ := missV_shape r
  exact ⟨a, b, _, h⟩
end Go.Proofs.Ytajefmmggefbeaa.Dg
namespace Go.Proofs.Ytajefmmggefbeaa.depgraphLooks
open Go.RowKit Go.Sort Dg
set_option linter.unusedSimpArgs false
set_option linter.unusedVariables false
set_option maxRecDepth 20000 in
set_option maxHeartbeats 8000000 in
theorem walk (v : Value) (nl : List Nd) (x : Str) (vn : Value) (ns : List Str) (w : World) (hm : NL w v nl) (hok : ∀ n ∈ nl, OkN n.1 ∧ ∀ x ∈ n.2, OkN x) (hsz : nl.length * 40 ≤ 140737488355328 ∧ ∀ n ∈ nl, n.2.length * 16 ≤ 140737488355328) (hx : x.length ≤ 140737488351232) (hn : Tl w vn ns) (hl : ns.length * 16 ≤ 140737488355328) (hnok : ∀ s ∈ ns, s.length ≤ 9223372036854775807) :
    Calls Try.prog 3 #[v, .string ⟨x.toArray⟩, vn] w fun e w' => e = .returned (.bool true) ∧ Fr (fun _ => False) w w' := by
  obtain ⟨ao, cap, rfl, t1, t2, _⟩ := id hm
  have km := made_any ao cap nl w hm hok hsz
  have hxok : Hidden (OkN x) := by show _ ≤ _; omega
  obtain ⟨aon, capn, hvn, n1, n2, _⟩ := id hn
  subst hvn
  have hnH : Hidden (Tl w (.slice aon ns.length capn) ns) := hn
  have hlH : Hidden (ns.length * 16 ≤ 140737488355328) := hl
  have hnokH : Hidden (∀ s ∈ ns, OkN s) := hnok
  obtain ⟨nn, hnn⟩ : ∃ n, n = nl.length := ⟨_, rfl⟩
  rw [← hnn] at km t1 ⊢
  obtain ⟨ln, hln⟩ : ∃ n, n = ns.length := ⟨_, rfl⟩
  have hlnH : Hidden (ln = ns.length) := hln
  rw [← hln] at n1 ⊢
  clear hm hok hsz hx hn hl hnok hnn hln
  go_enter Try.func3, Try.ntmps3
  go_wp2_with fail
  refine km.mono ?_
  rintro e w2 ⟨hR, f2⟩
  have f2H : Hidden (Fr (fun _ => False) w w2) := f2
  clear km f2
  rcases hR with ⟨_, rfl⟩ | ⟨_, B1, B2, rfl, hG, hT⟩
  · go_wp2
    go_ret
    exact ⟨rfl, f2H⟩
  have hGH : Hidden (Gp w2 (.pointer (some ⟨B1, 0, none⟩)) (gOf nl)) := hG
  have hTH : Hidden (Rg w2 (.pointer (some ⟨B2, 0, none⟩)) (gOf nl)) := hT
  obtain ⟨ma, mb, mc, hms⟩ := missV_shape2 (missS (gOf nl))
  have hmsH : Hidden (missV (missS (gOf nl)) = .tuple #[ct ma, ct mb, .bool mc]) := hms
  have hn2 : Hidden (Tl w2 (.slice aon ns.length capn) ns) := Tl.later hnH f2H
  clear hG hT hms
  go_wp2_with fail
  go_loopg [10] 2 (fun q iv wr => ∃ i : Nat, iv = .int .i64 (i : Int) ∧ i ≤ 2 ∧ q = 2 - i ∧ Fr (fun _ => False) w2 wr)
  case atStart => exact ⟨0, rfl, by omega, rfl, Fr.refl _ _⟩
  case round =>
    obtain ⟨i, rfl, hi, hq, hf⟩ := hrel
    have hqH : Hidden (gk = 2 - i) := hq
    have g0 : Hidden (Fr (fun _ => False) w2 wr) := hf
    clear hq hf
    by_cases hil : i < 2
    · have hil2 : (i : Int) < 2 := by omega
      have k1 := missing_any _ _ wr (Gp.later hGH g0)
      rw [(show missV _ = _ from hmsH)] at k1
      go_wp2_with fail
      refine k1.mono ?_
      rintro e v1 ⟨rfl, f1⟩
      have g1 : Hidden (Fr (fun _ => False) w2 v1) := Fr.same g0 f1
      have k2 := rmissing_any _ _ v1 (Rg.later hTH g1)
      rw [(show missV _ = _ from hmsH)] at k2
      clear k1 f1
      go_wp2_with fail
      refine k2.mono ?_
      rintro e v2 ⟨rfl, f2⟩
      have g2 : Hidden (Fr (fun _ => False) w2 v2) := Fr.same g1 f2
      clear k2 f2 g1
      have k1 := names_any _ _ v2 (Gp.later hGH g2)
      go_wp2_with fail
      refine k1.mono ?_
      rintro e v3 ⟨⟨aoa, capa, rfl, ta⟩, fa⟩
      have g3 : Hidden (Fr (fun _ => False) w2 v3) := Fr.same g2 fa
      have taH : Hidden (Tl v3 (.slice aoa ((gOf nl).ks).length capa) ((gOf nl).ks)) := ta.tn.tl
      have k2 := rnames_any _ _ v3 (Rg.later hTH g3)
      clear k1 ta fa g2
      go_wp2_with fail
      refine k2.mono ?_
      rintro e v4 ⟨⟨aob, capb, rfl, tb⟩, fb⟩
      have g4 : Hidden (Fr (fun _ => False) w2 v4) := Fr.same g3 fb
      have k3 := texts3_is _ _ ((gOf nl).ks) ((gOf nl).ks) v4 (Tl.later taH fb) (tb.tn.tl) true (by simp)
      clear k2 tb fb g3 taH
      go_wp2_with fail
      refine k3.mono ?_
      rintro e v5 ⟨rfl, fc⟩
      have g5 : Hidden (Fr (fun _ => False) w2 v5) := Fr.same g4 fc
      clear k3 fc g4
      have k1 := imports_any _ _ x v5 (Gp.later hGH g5) hxok
      go_wp2_with fail
      refine k1.mono ?_
      rintro e v6 ⟨⟨aoa, capa, rfl, ta⟩, fa⟩
      have g6 : Hidden (Fr (fun _ => False) w2 v6) := Fr.same g5 fa
      have taH : Hidden (Tl v6 (.slice aoa ((gOf nl).im x).length capa) ((gOf nl).im x)) := ta.tn.tl
      have k2 := rimports_any _ _ x v6 (Rg.later hTH g6)
      clear k1 ta fa g5
      go_wp2_with fail
      refine k2.mono ?_
      rintro e v7 ⟨⟨aob, capb, rfl, tb⟩, hw⟩
      have fb : Fr (fun _ => False) v6 v7 := by rw [hw]; exact Fr.refl _ _
      clear hw
      have g7 : Hidden (Fr (fun _ => False) w2 v7) := Fr.same g6 fb
      have k3 := texts3_is _ _ ((gOf nl).im x) ((gOf nl).im x) v7 (Tl.later taH fb) (tb) true (by simp)
      clear k2 tb fb g6 taH
      go_wp2_with fail
      refine k3.mono ?_
      rintro e v8 ⟨rfl, fc⟩
      have g8 : Hidden (Fr (fun _ => False) w2 v8) := Fr.same g7 fc
      clear k3 fc g7
      have k1 := users_any _ _ x v8 (Gp.later hGH g8)
      go_wp2_with fail
      refine k1.mono ?_
      rintro e v9 ⟨⟨aoa, capa, rfl, ta⟩, fa⟩
      have g9 : Hidden (Fr (fun _ => False) w2 v9) := Fr.same g8 fa
      have taH : Hidden (Tl v9 (.slice aoa (usersS (gOf nl) x).length capa) (usersS (gOf nl) x)) := ta.tn.tl
      have k2 := rusers_any _ _ x v9 (Rg.later hTH g9)
      clear k1 ta fa g8
      go_wp2_with fail
      refine k2.mono ?_
      rintro e v10 ⟨⟨aob, capb, rfl, tb⟩, fb⟩
      have g10 : Hidden (Fr (fun _ => False) w2 v10) := Fr.same g9 fb
      have k3 := texts3_is _ _ (usersS (gOf nl) x) (usersS (gOf nl) x) v10 (Tl.later taH fb) (tb.tn.tl) true (by simp)
      clear k2 tb fb g9 taH
      go_wp2_with fail
      refine k3.mono ?_
      rintro e v11 ⟨rfl, fc⟩
      have g11 : Hidden (Fr (fun _ => False) w2 v11) := Fr.same g10 fc
      clear k3 fc g10
      have k1 := under_any _ _ x v11 (Gp.later hGH g11) hxok
      go_wp2_with fail
      refine k1.mono ?_
      rintro e v12 ⟨⟨la, ⟨aoa, capa, rfl, ta⟩, ua⟩, fa⟩
      have g12 : Hidden (Fr (fun _ => False) w2 v12) := Fr.same g11 fa
      have taH : Hidden (Tl v12 (.slice aoa (la).length capa) (la)) := ta.tn.tl
      have uaH : Hidden (IsUnder (gOf nl) x la) := ua
      have k2 := runder_any _ _ x v12 (Rg.later hTH g12)
      clear k1 ta fa g11 ua
      go_wp2_with fail
      refine k2.mono ?_
      rintro e v13 ⟨⟨lb, ⟨aob, capb, rfl, tb⟩, ub⟩, fb⟩
      have g13 : Hidden (Fr (fun _ => False) w2 v13) := Fr.same g12 fb
      have k3 := texts3_is _ _ (la) (lb) v13 (Tl.later taH fb) (tb.tn.tl) true (by rw [under_same (show IsUnder (gOf nl) x la from uaH) ub]; simp)
      clear k2 tb fb g12 taH uaH ub
      go_wp2_with fail
      refine k3.mono ?_
      rintro e v14 ⟨rfl, fc⟩
      have g14 : Hidden (Fr (fun _ => False) w2 v14) := Fr.same g13 fc
      clear k3 fc g13
      have ov1 : ∀ W, Fr (fun _ => False) w2 W → Calls Try.prog 17 #[.pointer (some ⟨B1, 0, none⟩), .slice aon ln capn] W fun e w' => (∃ l, RetL l e w' ∧ IsOver (gOf nl) ns l) ∧ Fr (fun _ => False) W w' := fun W hW => by rw [(show ln = ns.length from hlnH)]; exact over_any _ _ aon capn ns W (Gp.later hGH hW) (Tl.later hn2 hW) hnokH hlH
      have ov2 : ∀ W, Fr (fun _ => False) w2 W → Calls Try.prog 18 #[.pointer (some ⟨B2, 0, none⟩), .slice aon ln capn] W fun e w' => (∃ l, Ret W.heap.size l e w' ∧ IsOver (gOf nl) ns l) ∧ Fr (fun _ => False) W w' := fun W hW => by rw [(show ln = ns.length from hlnH)]; exact rover_any _ _ _ ns W (Rg.later hTH hW) (Tl.later hn2 hW)
      have k1 := ov1 v14 g14
      go_wp2_with fail
      refine k1.mono ?_
      rintro e v15 ⟨⟨la, ⟨aoa, capa, rfl, ta⟩, ua⟩, fa⟩
      have g15 : Hidden (Fr (fun _ => False) w2 v15) := Fr.same g14 fa
      have taH : Hidden (Tl v15 (.slice aoa (la).length capa) (la)) := ta
      have uaH : Hidden (IsOver (gOf nl) ns la) := ua
      have k2 := ov2 v15 g15
      clear k1 ta fa g14 ua
      go_wp2_with fail
      refine k2.mono ?_
      rintro e v16 ⟨⟨lb, ⟨aob, capb, rfl, tb⟩, ub⟩, fb⟩
      have g16 : Hidden (Fr (fun _ => False) w2 v16) := Fr.same g15 fb
      have k3 := texts3_is _ _ (la) (lb) v16 (Tl.later taH fb) (tb.tn.tl) true (by rw [over_same (show IsOver (gOf nl) ns la from uaH) ub]; simp)
      clear k2 tb fb g15 taH uaH ub
      go_wp2_with fail
      refine k3.mono ?_
      rintro e v17 ⟨rfl, fc⟩
      have g17 : Hidden (Fr (fun _ => False) w2 v17) := Fr.same g16 fc
      clear k3 fc g16
      have k1 := names_any _ _ v17 (Gp.later hGH g17)
      go_wp2_with fail
      refine k1.mono ?_
      rintro e v18 ⟨⟨aoa, capa, rfl, ta⟩, fa⟩
      have k2 := spoil_any _ _ _ v18 ta
      have low : Hidden (∀ k, (Value.slice aoa ((gOf nl).ks).length capa).ownBlock = some k → w2.heap.size ≤ k) := fun k hk => Nat.le_trans (show Fr (fun _ => False) w2 v17 from g17).size (ta.own k hk).1
      have g18 : Hidden (Fr (fun _ => False) w2 v18) := Fr.same g17 fa
      clear k1 ta fa g17
      go_wp2_with fail
      refine k2.mono ?_
      rintro e v19 ⟨rfl, fb⟩
      have g19 : Hidden (Fr (fun _ => False) w2 v19) := Fr.over g18 fb low
      clear k2 fb g18 low
      have k1 := imports_any _ _ x v19 (Gp.later hGH g19) hxok
      go_wp2_with fail
      refine k1.mono ?_
      rintro e v20 ⟨⟨aoa, capa, rfl, ta⟩, fa⟩
      have k2 := spoil_any _ _ _ v20 ta
      have low : Hidden (∀ k, (Value.slice aoa ((gOf nl).im x).length capa).ownBlock = some k → w2.heap.size ≤ k) := fun k hk => Nat.le_trans (show Fr (fun _ => False) w2 v19 from g19).size (ta.own k hk).1
      have g20 : Hidden (Fr (fun _ => False) w2 v20) := Fr.same g19 fa
      clear k1 ta fa g19
      go_wp2_with fail
      refine k2.mono ?_
      rintro e v21 ⟨rfl, fb⟩
      have g21 : Hidden (Fr (fun _ => False) w2 v21) := Fr.over g20 fb low
      clear k2 fb g20 low
      have k1 := users_any _ _ x v21 (Gp.later hGH g21)
      go_wp2_with fail
      refine k1.mono ?_
      rintro e v22 ⟨⟨aoa, capa, rfl, ta⟩, fa⟩
      have k2 := spoil_any _ _ _ v22 ta
      have low : Hidden (∀ k, (Value.slice aoa (usersS (gOf nl) x).length capa).ownBlock = some k → w2.heap.size ≤ k) := fun k hk => Nat.le_trans (show Fr (fun _ => False) w2 v21 from g21).size (ta.own k hk).1
      have g22 : Hidden (Fr (fun _ => False) w2 v22) := Fr.same g21 fa
      clear k1 ta fa g21
      go_wp2_with fail
      refine k2.mono ?_
      rintro e v23 ⟨rfl, fb⟩
      have g23 : Hidden (Fr (fun _ => False) w2 v23) := Fr.over g22 fb low
      clear k2 fb g22 low
      have k1 := under_any _ _ x v23 (Gp.later hGH g23) hxok
      go_wp2_with fail
      refine k1.mono ?_
      rintro e v24 ⟨⟨la, ⟨aoa, capa, rfl, ta⟩, ua⟩, fa⟩
      have k2 := spoil_any _ _ _ v24 ta
      have low : Hidden (∀ k, (Value.slice aoa (la).length capa).ownBlock = some k → w2.heap.size ≤ k) := fun k hk => Nat.le_trans (show Fr (fun _ => False) w2 v23 from g23).size (ta.own k hk).1
      have g24 : Hidden (Fr (fun _ => False) w2 v24) := Fr.same g23 fa
      clear k1 ta fa g23 ua
      go_wp2_with fail
      refine k2.mono ?_
      rintro e v25 ⟨rfl, fb⟩
      have g25 : Hidden (Fr (fun _ => False) w2 v25) := Fr.over g24 fb low
      clear k2 fb g24 low
      clear ov1 ov2
      go_wp2
      go_roundg (2 - (i + 1))
      case measure => have := (show gk = 2 - i from hqH); omega
      case rel => exact ⟨i + 1, by go_num, by omega, rfl, g25⟩
    · obtain rfl : i = 2 := by omega
      go_wp2
      go_ret
      exact ⟨rfl, Fr.same f2H g0⟩
end Go.Proofs.Ytajefmmggefbeaa.depgraphLooks
