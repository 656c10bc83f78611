/- The program's firstOfEach. -/
import Derived.Test.YtjnjajiofhkinaaGreatDoorTyG
namespace Go.Proofs.YtjnjajiofhkinaaGreatDoor.Ty
open Go.RowKit
set_option linter.unusedSimpArgs false
set_option linter.unusedVariables false

set_option maxRecDepth 20000 in
set_option maxHeartbeats 4000000 in
theorem first_any (ao : Option Addr) (cap : Nat) (l : List It) (w : World) (h : ItL w ao cap l) (hok : ∀ i ∈ l, OkI i) :
    Calls Tryz.prog 29 #[.slice ao l.length cap] w fun e w' => ∃ n, e = .returned (.map (some w.heap.size)) ∧ n ≤ l.length ∧ FM w w' w.heap.size n l ∧ Fr (fun _ => False) w w' := by
  have m1 := h.1
  have m2 : cap ≤ 9223372036854775807 := by have := h.2.1; unfold maxLen at this; omega
  have hH : Hidden (ItL w ao cap l) := h
  have hokH : Hidden (∀ i ∈ l, OkI i) := hok
  clear h hok
  have hmm := @run_makeMap Tryz.prog
  go_enter Tryz.func29, Tryz.ntmps29
  go_wp2_with fail
  go_loopg [11] l.length (fun g iv wr => ∃ (i n : Nat), iv = ci (i : Int) ∧ i ≤ l.length ∧ n ≤ i ∧ FM w wr w.heap.size n (l.take i) ∧ g = l.length - i ∧ Fr (fun _ => False) w wr)
  case atStart => exact ⟨0, 0, rfl, by omega, by omega, FM.new _ _, rfl, Fr.alloc _ _ _⟩
  case round =>
    obtain ⟨i, n, rfl, hi, hni, hfm, hgk, hfr⟩ := hrel
    have hgkH : Hidden (gk = l.length - i) := hgk
    have hfrH : Hidden (Fr (fun _ => False) w wr) := hfr
    have hniH : Hidden (n ≤ i) := hni
    clear hgk hni
    by_cases hil : i < l.length
    · obtain ⟨p, hp⟩ : ∃ p, l[i]? = some p := ⟨l[i], List.getElem?_eq_getElem hil⟩
      have hpo : OkI p := (show ∀ i ∈ l, OkI i from hokH) p (List.mem_of_getElem? hp)
      obtain ⟨b, off, ap, cp, rfl, hin, d0, d1, d2, d3, d4⟩ := ItL.at hH hp
      replace d0 := hfr.cellN d0
      replace d1 := hfr.cellN d1
      replace d2 := hfr.cellN d2
      replace d3 := hfr.cellN d3
      replace d4 := hfr.cellN d4
      have htk : Hidden (l.take (i + 1) = l.take i ++ [p]) := by show _ = _; rw [List.take_add_one, hp]; rfl
      obtain ⟨kind, name, typ, bits, params⟩ := p
      simp only at d0 d1 d2 d3 d4 hin
      have hnm : OkN name := hpo.name
      have hbl : Hidden (w.heap.size < wr.heap.size) := hfm.lt
      obtain ⟨D, hown, hD⟩ := hfm
      have hDH : Hidden (∀ s : Bs, (firstI (l.take i) s = none ∧ Maps.has D (.string s) = false) ∨ ∃ i' c, firstI (l.take i) s = some i' ∧ Maps.has D (.string s) = true ∧ (∀ zd, D.atKey (.string s) zd = .held (ipV c)) ∧ ItI w i' (ipV c)) := hD
      have hiw : Hidden (ItI w ⟨kind, name, typ, bits, params⟩ (ipV ⟨kind, ⟨name.toArray⟩, typ, bits, ap, params.length, cp⟩)) := ⟨ap, cp, rfl, hin⟩
      have hml : n < maxLen := by have : n ≤ i := hniH; unfold maxLen; omega
      have hism : Hidden (Maps.IsMap D) := hown.isMap
      have f1 := Fr.alloc (fun _ => False) wr (.cells #[ci kind, ct name, ci typ, .int .u64 bits, .slice ap params.length cp] 28)
      have own1 := own_fr hown f1 (fun f => f)
      obtain ⟨r, hr⟩ : ∃ r, Maps.has D (.string name) = r := ⟨_, rfl⟩
      have hrH : Hidden (Maps.has D (.string name) = r) := hr
      have hownH : Hidden (wr.ownsMap Tryz.prog 9 RI w.heap.size n D) := hown
      clear hD hfr hin hpo hp hown
      cases r
      · go_wp2_with (first
          | (at_lookup; refine wpl_look _ rfl _ _ rfl w.heap.size n D name false rfl own1 rfl hnm hr ?_; intro c hc)
          | (at_mapUpdate; refine wpl_put _ rfl _ _ _ rfl w.heap.size n D name ⟨kind, ⟨name.toArray⟩, typ, bits, ap, params.length, cp⟩ rfl (own_fr own1 (Fr.alloc (fun _ => False) _ _) (fun f => f)) hml rfl rfl hnm ?_; intro w3 own3 f3))
        go_roundg (l.length - (i + 1))
        case measure => have : gk = l.length - i := hgkH; omega
        case rel =>
          have hnone : firstI (l.take i) name = none := by
            rcases (show ∀ s : Bs, _ from hDH) name with ⟨a1, _⟩ | ⟨_, _, _, a2, _⟩
            · exact a1
            · rw [(show Maps.has D (.string name) = false from hrH)] at a2; cases a2
          refine ⟨i + 1, n + 1, by go_num, by omega, by have : n ≤ i := hniH; omega, ?_, rfl, ?_⟩
          · rw [(show l.take (i + 1) = _ from htk)]
            exact FM.put (w := wr) (i := ⟨kind, name, typ, bits, params⟩) hDH hism own3 hnone hiw
          · exact ((show Fr (fun _ => False) w wr from hfrH).same (f1.same (Fr.alloc _ _ _))).over f3 (fun k hk => by subst hk; exact Nat.le_refl _)
      · go_wp2_with (at_lookup; refine wpl_look _ rfl _ _ rfl w.heap.size n D name true rfl own1 rfl hnm hr ?_; intro c hc)
        go_roundg (l.length - (i + 1))
        case measure => have : gk = l.length - i := hgkH; omega
        case rel =>
          have hsome : (firstI (l.take i) name).isSome = true := by
            rcases (show ∀ s : Bs, _ from hDH) name with ⟨_, a2⟩ | ⟨_, _, a1, _, _⟩
            · rw [(show Maps.has D (.string name) = true from hrH)] at a2; cases a2
            · rw [a1]; rfl
          refine ⟨i + 1, n, by go_num, by omega, by have : n ≤ i := hniH; omega, ?_, rfl, ?_⟩
          · rw [(show l.take (i + 1) = _ from htk)]
            refine FM.old ⟨D, own_fr own1 (Fr.alloc (fun _ => False) _ _) (fun f => f), hDH⟩ hsome
          · exact (show Fr (fun _ => False) w wr from hfrH).same (f1.same (Fr.alloc _ _ _))
    · obtain rfl : i = l.length := by omega
      rw [List.take_length] at hfm
      have hfmH : Hidden (FM w wr w.heap.size n l) := hfm
      clear hfm hfr
      go_wp2_with fail
      go_ret
      exact ⟨n, rfl, hniH, hfmH, hfrH⟩
end Go.Proofs.YtjnjajiofhkinaaGreatDoor.Ty
