/- New, whole. -/
import Derived.Test.YtajefmmggefbeaaDgK
namespace Go.Proofs.Ytajefmmggefbeaa.Dg
open Go.RowKit Go.Sort
set_option linter.unusedSimpArgs false
set_option linter.unusedVariables false

theorem Tl.keepE {S : Nat → Prop} {w w' : World} {v : Value} {l : List Str} (h : Tl w v l) (hf : Fr S w w') (hn : l ≠ [] → ∀ k, v.ownBlock = some k → ¬ S k) : Tl w' v l := by
  obtain ⟨ao, cap, rfl, h1, h2, h3, h4⟩ := h
  refine ⟨ao, cap, rfl, h1, h2, h3, ?_⟩
  rcases h4 with rfl | ⟨b, off, rfl, hc⟩
  · exact Or.inl rfl
  · by_cases h0 : l = []
    · exact Or.inl h0
    · exact Or.inr ⟨b, off, rfl, fun i x hx => hf.cell (hc i x hx) (hn h0 b rfl)⟩
theorem Tn.ownE {w : World} {B : Nat} {v : Value} {l : List Str} (h : Tn w B v l) (hl : l ≠ []) : ∀ k, v.ownBlock = some k → B ≤ k ∧ k < w.heap.size := by
  obtain ⟨ao, cap, rfl, h1, h2, h3, h4⟩ := h
  intro k hk
  rcases h4 with h0 | ⟨b, off, rfl, hB, hb, _⟩
  · exact absurd h0 hl
  · have : b = k := by simpa [Value.ownBlock] using hk
    subst this
    exact ⟨hB, hb⟩
/-- The map holds each node's imports, under its name. -/
def GM (w : World) (b n : Nat) (nl : List Nd) : Prop :=
  ∃ D, w.ownsMap Try.prog 9 RS b n D ∧ ∀ s : Str, (s ∉ nl.map (·.1) ∧ Maps.has D (.string s) = false) ∨ ∃ nd ∈ nl, nd.1 = s ∧ Maps.has D (.string s) = true ∧ ∃ v, (∀ zd, D.atKey (.string s) zd = .held v) ∧ Tl w v (setS nd.2) ∧ (setS nd.2 ≠ [] → ∀ k, v.ownBlock = some k → b < k ∧ k < w.heap.size)
theorem GM.keep {S : Nat → Prop} {w w' : World} {b n : Nat} {nl : List Nd} (h : GM w b n nl) (hf : Fr S w w') (hb : ∀ k, b ≤ k → k < w.heap.size → ¬ S k) : GM w' b n nl := by
  obtain ⟨D, h1, h2⟩ := h
  refine ⟨D, own_fr h1 hf (hb b (Nat.le_refl _) h1.lt), fun s => ?_⟩
  rcases h2 s with k | ⟨nd, k1, k2, k3, v, k4, k5, k6⟩
  · exact Or.inl k
  · exact Or.inr ⟨nd, k1, k2, k3, v, k4, Tl.keepE k5 hf (fun h0 k hk => hb k (by have := (k6 h0 k hk).1; omega) (k6 h0 k hk).2), fun h0 k hk => ⟨(k6 h0 k hk).1, Nat.lt_of_lt_of_le (k6 h0 k hk).2 hf.size⟩⟩
theorem GM.later {w w' : World} {b n : Nat} {nl : List Nd} (h : GM w b n nl) (hf : Fr (fun _ => False) w w') : GM w' b n nl := h.keep hf (fun _ _ _ f => f)
theorem GM.lt {w : World} {b n : Nat} {nl : List Nd} (h : GM w b n nl) : b < w.heap.size := by
  obtain ⟨D, h1, _⟩ := h
  exact h1.lt
theorem GM.new (w : World) : GM (w.alloc (.map #[] 0)) w.heap.size 0 [] := ⟨_, World.ownsMap_made w _ _ _, fun s => Or.inl ⟨by simp, rfl⟩⟩
theorem GM.look {w : World} {b n : Nat} {nl : List Nd} (h : GM w b n nl) (s : Str) (hs : OkN s) : ∃ ao m cap, (Instr.lookup 52 (.map (some b)) (ct s) true).run Try.prog w = .ok (.tuple #[.slice ao m cap, .bool (decide (s ∈ nl.map (·.1)))]) w := by
  obtain ⟨D, h1, h2⟩ := h
  obtain ⟨v, ps, hrun, hv⟩ := h1.look_ok SK gmap_under (zero_sl w) (RS_mk none 0 0) (key_str s hs)
  have hsl : ∃ ao n cap, v = .slice ao n cap := by
    unfold RS at hv
    split at hv
    · exact ⟨_, _, _, rfl⟩
    · cases hv
  obtain ⟨ao, m, cap, rfl⟩ := hsl
  have hh : Maps.has D (.string s) = decide (s ∈ nl.map (·.1)) := by
    rcases h2 s with ⟨k1, k2⟩ | ⟨nd, k1, k2, k3, _⟩
    · rw [k2, decide_eq_false k1]
    · rw [k3, decide_eq_true]; subst k2; exact List.mem_map.2 ⟨nd, k1, rfl⟩
  rw [hh] at hrun
  exact ⟨ao, m, cap, hrun⟩
theorem GM.put {w : World} {b n : Nat} {nl : List Nd} (h : GM w b n nl) (nd : Nd) (hs : OkN nd.1) (hn : n < 9223372036854775807) (hnew : nd.1 ∉ nl.map (·.1)) (ao : Option Addr) (cap : Nat) (ht : Tl w (.slice ao (setS nd.2).length cap) (setS nd.2)) (hB : setS nd.2 ≠ [] → ∀ k, (Value.slice ao (setS nd.2).length cap).ownBlock = some k → b < k ∧ k < w.heap.size) :
    ∃ w', (Instr.mapUpdate 52 (.map (some b)) (ct nd.1) (.slice ao (setS nd.2).length cap)).run Try.prog w = .ok () w' ∧ GM w' b (n + 1) (nl ++ [nd]) ∧ Fr (fun k => k = b) w w' := by
  obtain ⟨D, h1, h2⟩ := h
  obtain ⟨w', hrun, h3, h4⟩ := h1.update SK gmap_under (by unfold maxLen; omega) (key_str nd.1 hs) (RS_mk ao (setS nd.2).length cap)
  have hf : Fr (fun k => k = b) w w' := (grown_fr h4).mono fun k _ e => (Option.some.inj e).symm
  refine ⟨w', hrun, ⟨_, h3, fun x => ?_⟩, hf⟩
  by_cases e : x = nd.1
  · subst e
    exact Or.inr ⟨nd, by simp, rfl, Maps.has_put_same h1.isMap (keylit _) _, _, fun zd => Maps.atKey_put_same h1.isMap (keylit _) _ zd, Tl.keepE ht hf (fun h0 k hk e => by have := (hB h0 k hk).1; omega), fun h0 k hk => ⟨(hB h0 k hk).1, Nat.lt_of_lt_of_le (hB h0 k hk).2 hf.size⟩⟩
  · have hne : (Lit.string x) ≠ .string nd.1 := fun h => e (by cases h; rfl)
    rcases h2 x with ⟨k1, k2⟩ | ⟨m, k1, k2, k3, v, k4, k5, k6⟩
    · refine Or.inl ⟨?_, by rw [Maps.has_put_other hne]; exact k2⟩
      rw [List.map_append, List.mem_append]
      rintro (q | q)
      · exact k1 q
      · simp at q; exact e q
    · exact Or.inr ⟨m, by simp [k1], k2, by rw [Maps.has_put_other hne]; exact k3, v, fun zd => by rw [Maps.atKey_put_other hne]; exact k4 zd, Tl.keepE k5 hf (fun h0 k hk e => by have := (k6 h0 k hk).1; omega), fun h0 k hk => ⟨(k6 h0 k hk).1, Nat.lt_of_lt_of_le (k6 h0 k hk).2 hf.size⟩⟩
theorem find_nodup {nl : List Nd} (hnd : (nl.map (·.1)).Nodup) {nd : Nd} (h : nd ∈ nl) : nl.find? (fun n => decide (n.1 = nd.1)) = some nd := by
  induction nl with
  | nil => cases h
  | cons m r ih =>
    rw [List.map_cons, List.nodup_cons] at hnd
    rw [List.find?_cons]
    rcases List.mem_cons.1 h with rfl | h
    · simp
    · have hne : m.1 ≠ nd.1 := fun e => hnd.1 (e ▸ List.mem_map.2 ⟨nd, h, rfl⟩)
      simp only [decide_eq_false hne]
      exact ih hnd.2 h
theorem find_none {nl : List Nd} {s : Str} (h : s ∉ nl.map (·.1)) : nl.find? (fun n => decide (n.1 = s)) = none := by
  rw [List.find?_eq_none]
  intro n hn
  simp only [decide_eq_true_eq]
  intro e
  exact h (e ▸ List.mem_map.2 ⟨n, hn, rfl⟩)
theorem gOf_wf (nl : List Nd) : (gOf nl).WF := by
  refine ⟨setS_ss _, fun n => ?_, fun n hn => ?_⟩
  · show SS (match nl.find? (fun m => decide (m.1 = n)) with | some n => setS n.2 | none => [])
    cases nl.find? (fun m => decide (m.1 = n)) with
    | none => exact List.Pairwise.nil
    | some m => exact setS_ss _
  · show (match nl.find? (fun m => decide (m.1 = n)) with | some n => setS n.2 | none => []) = []
    rw [find_none (fun h => hn (mem_setS.2 h))]
theorem right_len {s : Str} (h : badN s = false) : s.length ≤ 32 := by
  unfold badN rightS at h
  apply Classical.byContradiction
  intro hl
  have : 32 < s.length := by omega
  cases hs : speltS s
  · rw [hs] at h; simp at h
  · rw [hs, if_pos rfl, if_pos this] at h; simp at h
/-- What New hands back, once all is read. -/
theorem GM.graph {w : World} {b n : Nat} {nl : List Nd} (h : GM w b n nl) (hn : n ≤ 32) (hbig : bigS nl = false) (hbad : badS nl = false) (hnd : (nl.map (·.1)).Nodup) (B : Nat) (hB : b ≤ B) (hc : w.cell? ⟨B, 0, none⟩ = some (.map (some b))) :
    ∀ W, Fr (fun k => k < b) w W → Gp W (.pointer (some ⟨B, 0, none⟩)) (gOf nl) := by
  intro W hW
  have h' : GM W b n nl := h.keep hW (fun k h1 _ e => by omega)
  obtain ⟨D, h1, h2⟩ := h'
  unfold bigS at hbig
  rw [Bool.or_eq_false_iff] at hbig
  have hb1 : nl.length ≤ 32 := by simpa using hbig.1
  have hb2 : ∀ nd ∈ nl, nd.2.length ≤ 16 := fun nd hm => by have := List.any_eq_false.1 hbig.2 nd hm; simpa using this
  have hg : ∀ nd ∈ nl, badN nd.1 = false ∧ ∀ s ∈ nd.2, badN s = false := fun nd hm => by
    have := List.any_eq_false.1 hbad nd hm
    simp only [Bool.or_eq_true, not_or, Bool.not_eq_true] at this
    exact ⟨this.1, fun s hs => by have := List.any_eq_false.1 this.2 s hs; simpa using this⟩
  have him : ∀ s, (s ∉ nl.map (·.1) ∧ (gOf nl).im s = []) ∨ ∃ nd ∈ nl, nd.1 = s ∧ (gOf nl).im s = setS nd.2 := fun s => by
    by_cases hs : s ∈ nl.map (·.1)
    · obtain ⟨nd, q1, q2⟩ := List.mem_map.1 hs
      refine Or.inr ⟨nd, q1, q2, ?_⟩
      subst q2
      show (match nl.find? (fun m => decide (m.1 = nd.1)) with | some n => setS n.2 | none => []) = _
      rw [find_nodup hnd q1]
    · refine Or.inl ⟨hs, ?_⟩
      show (match nl.find? (fun m => decide (m.1 = s)) with | some n => setS n.2 | none => []) = _
      rw [find_none hs]
  refine ⟨gOf_wf nl, ?_, fun s => ?_, fun s hs => ?_, fun s m hm => ?_, Or.inr ⟨B, _, rfl, hW.cell hc (fun e => by have : B < b := e; omega), Or.inr ⟨b, n, D, rfl, h1, hn, fun s => ?_⟩⟩⟩
  · have := setS_len (nl.map (·.1))
    rw [List.length_map] at this
    exact Nat.le_trans this hb1
  · rcases him s with ⟨_, e⟩ | ⟨nd, q1, _, e⟩
    · rw [e]; simp
    · rw [e]; exact Nat.le_trans (setS_len _) (hb2 nd q1)
  · have hs' : s ∈ nl.map (·.1) := mem_setS.1 hs
    obtain ⟨nd, q1, q2⟩ := List.mem_map.1 hs'
    subst q2
    exact right_len (hg nd q1).1
  · rcases him s with ⟨_, e⟩ | ⟨nd, q1, _, e⟩
    · rw [e] at hm; cases hm
    · rw [e] at hm; exact right_len ((hg nd q1).2 m (mem_setS.1 hm))
  · rcases him s with ⟨q0, e⟩ | ⟨nd, q1, q2, e⟩
    · rcases h2 s with ⟨k1, k2⟩ | ⟨m, k1, k2, _⟩
      · exact Or.inl ⟨fun hm => q0 (mem_setS.1 hm), e, k2⟩
      · exact absurd (k2 ▸ List.mem_map.2 ⟨m, k1, rfl⟩) q0
    · rcases h2 s with ⟨k1, k2⟩ | ⟨m, k1, k2, k3, v, k4, k5, _⟩
      · exact absurd (q2 ▸ List.mem_map.2 ⟨nd, q1, rfl⟩) k1
      · refine Or.inr ⟨mem_setS.2 (k2 ▸ List.mem_map.2 ⟨m, k1, rfl⟩), k3, v, k4, ?_⟩
        have e1 := find_nodup hnd q1
        have e2 := find_nodup hnd k1
        rw [q2] at e1
        rw [k2, e1] at e2
        obtain rfl := Option.some.inj e2
        rw [e]
        exact k5

/-- What New answers. -/
def NewR (w0 : World) (nl : List Nd) (e : Ending) (w' : World) : Prop :=
  (newE nl ≠ 0 ∧ e = .returned (.tuple #[.pointer none, .int .i64 (newE nl)])) ∨ (newE nl = 0 ∧ ∃ B, e = .returned (.tuple #[.pointer (some ⟨B, 0, none⟩), .int .i64 0]) ∧ ∀ W, Fr (fun k => k < w0.heap.size) w' W → Gp W (.pointer (some ⟨B, 0, none⟩)) (gOf nl))
theorem new_big (ao : Option Addr) (cap : Nat) (nl : List Nd) (w : World) (h : NL w (.slice ao nl.length cap) nl) (hbig : bigS nl = true) :
    Calls Try.prog 27 #[.slice ao nl.length cap] w fun e w' => NewR w nl e w' ∧ Fr (fun _ => False) w w' := by
  have he : newE nl = 3 := by unfold newE; rw [if_pos hbig]
  have hpost : Hidden (∀ w', Fr (fun _ => False) w w' → NewR w nl (.returned (.tuple #[.pointer none, .int .i64 3])) w') := fun w' _ => Or.inl ⟨by rw [he]; decide, by rw [he]⟩
  by_cases h32 : 32 < nl.length
  · have hz : (32 : Int) < (nl.length : Int) := by omega
    clear h hbig he
    generalize nl.length = n at *
    go_enter Try.func27, Try.ntmps27
    go_wp2
    go_ret2
    exact ⟨(show ∀ w', _ → _ from hpost) _ (Fr.refl _ _), Fr.refl _ _⟩
  · unfold bigS at hbig
    rw [decide_eq_false h32, Bool.false_or] at hbig
    have kc := anyCrowded ao cap nl w h true hbig
    have hz : ¬ (32 : Int) < (nl.length : Int) := by omega
    clear h hbig he
    generalize nl.length = n at *
    go_enter Try.func27, Try.ntmps27
    go_wp2_with (go_at_call 54; refine kc.mono ?_; rintro e w1 ⟨rfl, f1⟩)
    go_ret2
    exact ⟨(show ∀ w', _ → _ from hpost) _ f1, f1⟩
set_option maxRecDepth 20000 in
theorem new_bad (ao : Option Addr) (cap : Nat) (nl : List Nd) (w : World) (h : NL w (.slice ao nl.length cap) nl) (hok : ∀ n ∈ nl, OkN n.1 ∧ ∀ x ∈ n.2, OkN x) (hbig : bigS nl = false) (hbad : badS nl = true) :
    Calls Try.prog 27 #[.slice ao nl.length cap] w fun e w' => NewR w nl e w' ∧ Fr (fun _ => False) w w' := by
  have he : newE nl = 12 := by unfold newE; rw [if_neg (by simp [hbig]), if_pos hbad]
  have hpost : Hidden (∀ w', Fr (fun _ => False) w w' → NewR w nl (.returned (.tuple #[.pointer none, .int .i64 12])) w') := fun w' _ => Or.inl ⟨by rw [he]; decide, by rw [he]⟩
  unfold bigS at hbig
  rw [Bool.or_eq_false_iff] at hbig
  have h32 : ¬ 32 < nl.length := by simpa using hbig.1
  have kc := anyCrowded ao cap nl w h false hbig.2
  have km : ∀ W, Fr (fun _ => False) w W → _ := fun W hW => anyMisnamed ao cap nl W (h.later hW) hok true hbad
  have hz : ¬ (32 : Int) < (nl.length : Int) := by omega
  have tok : True := trivial
  clear h hbig he hok hbad
  generalize nl.length = n at *
  go_enter Try.func27, Try.ntmps27
  go_wp2_with (first
    | (go_at_call 54; have t1 := tok; refine kc.mono ?_; rintro e w1 ⟨rfl, f1⟩; have km1 := km w1 f1; have f1H : Hidden (Fr (fun _ => False) w w1) := f1; clear f1 t1 tok kc)
    | (go_at_call 54; refine km1.mono ?_; rintro e w2 ⟨rfl, f2⟩; have f2H : Hidden (Fr (fun _ => False) w1 w2) := f2; clear f2))
  go_ret2
  exact ⟨(show ∀ w', _ → _ from hpost) _ (Fr.same f1H f2H), Fr.same f1H f2H⟩
set_option maxRecDepth 20000 in
set_option maxHeartbeats 8000000 in
theorem new_good (ao : Option Addr) (cap : Nat) (nl : List Nd) (w : World) (h : NL w (.slice ao nl.length cap) nl) (hok : ∀ n ∈ nl, OkN n.1 ∧ ∀ x ∈ n.2, OkN x) (hbig : bigS nl = false) (hbad : badS nl = false) :
    Calls Try.prog 27 #[.slice ao nl.length cap] w fun e w' => NewR w nl e w' ∧ Fr (fun _ => False) w w' := by
  have he : Hidden (newE nl = if (nl.map (·.1)).Nodup then 0 else 20) := by show _ = _; unfold newE; rw [if_neg (by simp [hbig]), if_neg (by simp [hbad])]
  have hbigH : Hidden (bigS nl = false) := hbig
  have hbadH : Hidden (badS nl = false) := hbad
  have hokH : Hidden (∀ n ∈ nl, OkN n.1 ∧ ∀ x ∈ n.2, OkN x) := hok
  have hH : Hidden (NL w (.slice ao nl.length cap) nl) := h
  unfold bigS at hbig
  rw [Bool.or_eq_false_iff] at hbig
  have h32 : nl.length ≤ 32 := by simpa using hbig.1
  have him : Hidden (∀ nd ∈ nl, nd.2.length ≤ 16) := fun nd hm => by have := List.any_eq_false.1 hbig.2 nd hm; simpa using this
  have kc := anyCrowded ao cap nl w h false hbig.2
  have km : ∀ W, Fr (fun _ => False) w W → Calls Try.prog 54 #[.slice ao nl.length cap, .func (.func 56) #[] #[]] W fun e w' => e = .returned (.bool false) ∧ Fr (fun _ => False) W w' := fun W hW => anyMisnamed ao cap nl W (h.later hW) hok false hbad
  have hcap : nl.length ≤ cap ∧ cap ≤ 9223372036854775807 := by obtain ⟨_, _, e, q1, q2, _⟩ := h; cases e; exact ⟨q1, q2⟩
  obtain ⟨hc1, hc2⟩ := hcap
  have hz : ¬ (32 : Int) < (nl.length : Int) := by omega
  have tok : True := trivial
  have hmm := @run_makeMap Try.prog
  clear h hbig hok hbad
  go_enter Try.func27, Try.ntmps27
  go_wp2_with (first
    | (go_at_call 54; have t1 := tok; refine kc.mono ?_; rintro e w1 ⟨rfl, f1⟩; have km1 := km w1 f1; have f1H : Hidden (Fr (fun _ => False) w w1) := f1; clear f1 t1 tok kc)
    | (go_at_call 54; refine km1.mono ?_; rintro e w2 ⟨rfl, f2⟩; have f2H : Hidden (Fr (fun _ => False) w w2) := Fr.same f1H f2; clear f2))
  have hbw : Hidden (w.heap.size ≤ w2.heap.size) := (show Fr (fun _ => False) w w2 from f2H).size
  go_loopg [21] nl.length (fun k iv wr => ∃ (j : Nat), iv = .int .i64 (j : Int) ∧ j ≤ nl.length ∧ k = nl.length - j ∧ GM wr w2.heap.size j (nl.take j) ∧ ((nl.take j).map (·.1)).Nodup ∧ Fr (fun _ => False) w wr)
  case atStart => exact ⟨0, rfl, by omega, rfl, GM.new w2, by simp, Fr.same f2H (Fr.alloc _ _ _)⟩
  case round =>
    obtain ⟨j, rfl, hj, hk, hgm, hnd, hf⟩ := hrel
    have hkH : Hidden (gk = nl.length - j) := hk
    have hgmH : Hidden (GM wr w2.heap.size j (nl.take j)) := hgm
    have hndH : Hidden (((nl.take j).map (·.1)).Nodup) := hnd
    have hfH : Hidden (Fr (fun _ => False) w wr) := hf
    clear hk hgm hnd
    by_cases hjl : j < nl.length
    · obtain ⟨⟨s, imps⟩, hn⟩ : ∃ n, nl[j]? = some n := ⟨nl[j], List.getElem?_eq_getElem hjl⟩
      obtain ⟨b, off, aoi, capi, rfl, c1, c2, htl⟩ := NL.at (NL.later hH hf) hn
      simp only at c1 c2 htl
      have hmem := List.mem_of_getElem? hn
      have hsok : OkN s := ((show ∀ n ∈ nl, OkN n.1 ∧ ∀ x ∈ n.2, OkN x from hokH) _ hmem).1
      have himp : imps.length ≤ 16 := (show ∀ nd ∈ nl, nd.2.length ≤ 16 from him) _ hmem
      have htk : Hidden (nl.take (j + 1) = nl.take j ++ [(s, imps)]) := by show _ = _; rw [List.take_add_one, hn]; rfl
      have hsplit : Hidden (nl = nl.take j ++ (s, imps) :: nl.drop (j + 1)) := by
        show _ = _
        rw [← drop_at hn, List.take_append_drop]
      have fa := Fr.alloc (fun _ => False) wr (.cells #[ct s, .slice aoi imps.length capi] 50)
      obtain ⟨aol, ml, capl, hl⟩ := ((show GM wr w2.heap.size j (nl.take j) from hgmH).later fa).look s hsok
      have htlH : Hidden (Tl wr (.slice aoi imps.length capi) imps) := htl
      obtain ⟨wa, hwa⟩ : ∃ wa, wr.alloc (.cells #[ct s, .slice aoi imps.length capi] 50) = wa := ⟨_, rfl⟩
      have d0 : (wr.alloc (.cells #[ct s, .slice aoi imps.length capi] 50)).cell? ⟨wr.heap.size, 0, none⟩ = some (ct s) := by rw [cell_of_row _ _ _ _ _ _ (alloc_new wr _)]; rfl
      have d1 : (wr.alloc (.cells #[ct s, .slice aoi imps.length capi] 50)).cell? ⟨wr.heap.size, 1, none⟩ = some (.slice aoi imps.length capi) := by rw [cell_of_row _ _ _ _ _ _ (alloc_new wr _)]; rfl
      have hwaH : Hidden (wr.alloc (.cells #[ct s, .slice aoi imps.length capi] 50) = wa) := hwa
      have faH : Hidden (Fr (fun _ => False) wr wa) := by rw [← hwa]; exact fa
      have hbl : Hidden (w2.heap.size < wr.heap.size) := (show GM wr w2.heap.size j (nl.take j) from hgmH).lt
      have hwas : Hidden (wa.heap.size = wr.heap.size + 1) := by show _ = _; rw [← hwa]; simp
      clear hn hmem htl fa hwa hf
      by_cases hdup : s ∈ (nl.take j).map (·.1)
      · rw [decide_eq_true hdup] at hl
        have hE : Hidden (newE nl = 20) := by
          show _ = _
          rw [(show newE nl = _ from he), if_neg]
          intro hnn
          rw [(show nl = _ from hsplit), List.map_append, List.nodup_append] at hnn
          exact hnn.2.2 s hdup s (by simp) rfl
        clear hdup
        go_wp2
        go_ret2
        refine ⟨Or.inl ⟨by rw [(show newE nl = 20 from hE)]; decide, by rw [(show newE nl = 20 from hE)]; rfl⟩, Fr.same hfH (Fr.alloc _ _ _)⟩
      · rw [decide_eq_false hdup] at hl
        have hdupH : Hidden (s ∉ (nl.take j).map (·.1)) := hdup
        clear hdup
        go_wp2_with fail
        rw [(show wr.alloc (.cells #[ct s, .slice aoi imps.length capi] 50) = wa from hwaH)] at d0 d1 ⊢
        clear hl
        have ks : ∀ W, Fr (fun _ => False) wa W → Calls Try.prog 57 #[.slice aoi imps.length capi] W fun e w' => ∃ v', e = .returned v' ∧ Tn w' W.heap.size v' (setS imps) ∧ Fr (fun _ => False) W w' := fun W hW => set_any _ imps W (Tl.later htlH (Fr.same faH hW)) (by omega)
        go_region_held3 (fun w' => w'.cell? ⟨wr.heap.size, 0, none⟩ = some (ct s) ∧ w'.cell? ⟨wr.heap.size, 1, none⟩ = some (.slice aoi imps.length capi)) (first | (refine ⟨by with_reducible assumption, by with_reducible assumption⟩) | go_keep) (first
          | (go_at_call 57
             refine (ks wa.drew (Fr.drew _ _)).mono ?_
             rintro e w5 ⟨v5, rfl, t5, f5⟩
             have g5 : Fr (fun _ => False) wa w5 := (Fr.drew _ _).same f5
             obtain ⟨ao5, cap5, hv5, q5, _⟩ := id t5
             subst hv5
             have hszd : wa.drew.heap.size = wr.heap.size + 1 := hwas
             obtain ⟨w6, hrun, gm6, f6⟩ := (GM.later (GM.later hgmH faH) g5).put (s, imps) hsok (by omega) hdupH ao5 cap5 t5.tl (fun h0 k hk => by
               have h1 := Tn.ownE t5 h0 k hk
               have h2 : w2.heap.size < wr.heap.size := hbl
               exact ⟨by omega, h1.2⟩)
             have e0 := g5.cellN d0
             have e1 := g5.cellN d1
             have h2 : w2.heap.size < wr.heap.size := hbl
             have e2 := f6.cell e0 (fun e => by have h3 : wr.heap.size = w2.heap.size := e; omega)
             have e3 := f6.cell e1 (fun e => by have h3 : wr.heap.size = w2.heap.size := e; omega)
             have gm6H : Hidden (GM w6 w2.heap.size (j + 1) (nl.take j ++ [(s, imps)])) := gm6
             have fr6 : Hidden (Fr (fun k => k = w2.heap.size) wr w6) := (Fr.mono (Fr.same faH g5) fun _ _ f => f.elim).same f6
             simp only at hrun
             clear t5 f5 g5 q5 gm6 f6 h2 hszd))
        go_wp2
        go_roundg (nl.length - (j + 1))
        case measure => have := (show gk = nl.length - j from hkH); omega
        case rel =>
          refine ⟨j + 1, by go_num, by omega, rfl, ?_, ?_, Fr.over hfH fr6 (fun k hk => by have : w.heap.size ≤ w2.heap.size := hbw; omega)⟩
          · rw [(show nl.take (j + 1) = _ from htk)]
            exact gm6H
          · rw [(show nl.take (j + 1) = _ from htk), List.map_append, List.nodup_append]
            refine ⟨hndH, by simp, fun a ha c hc => ?_⟩
            simp at hc
            intro e
            apply (show s ∉ (nl.take j).map (·.1) from hdupH)
            rw [← hc, ← e]
            exact ha
    · obtain rfl : j = nl.length := by omega
      have hgm2 : Hidden (GM wr w2.heap.size nl.length nl) := by
        have := (show GM wr w2.heap.size nl.length (nl.take nl.length) from hgmH)
        rw [List.take_length] at this
        exact this
      have hnd2 : Hidden ((nl.map (·.1)).Nodup) := by
        have := (show ((nl.take nl.length).map (·.1)).Nodup from hndH)
        rw [List.take_length] at this
        exact this
      clear hf
      go_wp2
      go_ret2
      refine ⟨Or.inr ⟨?_, wr.heap.size, rfl, fun W hW => ?_⟩, Fr.same hfH (Fr.alloc _ _ _)⟩
      · rw [(show newE nl = _ from he), if_pos (show (nl.map (·.1)).Nodup from hnd2)]
      · exact GM.graph ((show GM wr w2.heap.size nl.length nl from hgm2).later (Fr.alloc _ _ _)) h32 hbigH hbadH hnd2 wr.heap.size (Nat.le_of_lt (show GM wr w2.heap.size nl.length nl from hgm2).lt) (box_cell _ _ _) W (hW.mono fun k _ e => by have h1 : w.heap.size ≤ w2.heap.size := hbw; have h2 : k < w.heap.size := e; show k < w2.heap.size; omega)
theorem new_any (ao : Option Addr) (cap : Nat) (nl : List Nd) (w : World) (h : NL w (.slice ao nl.length cap) nl) (hok : ∀ n ∈ nl, OkN n.1 ∧ ∀ x ∈ n.2, OkN x) :
    Calls Try.prog 27 #[.slice ao nl.length cap] w fun e w' => NewR w nl e w' ∧ Fr (fun _ => False) w w' := by
  cases hbig : bigS nl
  · cases hbad : badS nl
    · exact new_good ao cap nl w h hok hbig hbad
    · exact new_bad ao cap nl w h hok hbig hbad
  · exact new_big ao cap nl w h hbig
end Go.Proofs.Ytajefmmggefbeaa.Dg
