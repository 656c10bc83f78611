/- iface.takeItems, iface.Decode, of bytes that are there. -/
import Derived.Test.YtpjahcncknccdaaGreatIcM
import Derived.Test.YtpjahcncknccdaaGreatIcK
import Derived.Test.YtpjahcncknccdaaGreatTyH2
namespace Go.Proofs.YtpjahcncknccdaaGreat.Fo.Ic
open Go.RowKit Te
set_option linter.unusedSimpArgs false
set_option linter.unusedVariables false
set_option maxRecDepth 20000

/-- Where an item's parameters lie, if it has some. -/
def PmW (w : World) (B : Nat) (lv : Value) (x : IV) : Prop := Ty.InL w x.2.1 x.2.2 x.1.params ∧ (x.1.params = [] ∨ ∀ k, (Value.slice x.2.1 x.1.params.length x.2.2).ownBlock = some k → B ≤ k ∧ k < w.heap.size ∧ lv.ownBlock ≠ some k)
theorem InL_nil {w w' : World} {ao : Option Addr} {cap : Nat} (h : Ty.InL w ao cap []) : Ty.InL w' ao cap [] := ⟨h.1, h.2.1, h.2.2.1, Or.inl rfl⟩
theorem PmW.keep {S : Nat → Prop} {w w' : World} {B : Nat} {lv : Value} {x : IV} (h : PmW w B lv x) (hf : Fr S w w') (hn : ∀ k, B ≤ k → k < w.heap.size → lv.ownBlock ≠ some k → ¬ S k) : PmW w' B lv x := by
  obtain ⟨⟨k1, n1, t1, b1, p1⟩, a1, c1⟩ := x
  obtain ⟨h1, h2⟩ := h
  simp only at *
  rcases h2 with h0 | h2
  · subst h0
    exact ⟨InL_nil h1, Or.inl rfl⟩
  · exact ⟨InL_keepS h1 hf fun k hk => hn k (h2 k hk).1 (h2 k hk).2.1 (h2 k hk).2.2, Or.inr fun k hk => ⟨(h2 k hk).1, Nat.lt_of_lt_of_le (h2 k hk).2.1 hf.size, (h2 k hk).2.2⟩⟩
theorem PmW.grow {w w' : World} {B : Nat} {lv lv' : Value} {x : IV} (h : PmW w B lv x) (hf : Fr (fun b => lv.ownBlock = some b) w w') (hv : lv'.ownBlock = lv.ownBlock ∨ lv'.ownBlock = some w.heap.size) : PmW w' B lv' x := by
  obtain ⟨h1, h2⟩ := h.keep hf (fun k _ _ e q => e q)
  refine ⟨h1, ?_⟩
  rcases h2 with h0 | h2
  · exact Or.inl h0
  · rcases h.2 with g0 | g2
    · exact Or.inl g0
    right
    refine fun k hk => ⟨(h2 k hk).1, (h2 k hk).2.1, fun e => ?_⟩
    rcases hv with q | q
    · rw [q] at e; exact (h2 k hk).2.2 e
    · rw [q] at e
      have e : w.heap.size = k := by simpa using e
      have := (g2 k hk).2.1
      omega
/-- A row of items, read. -/
theorem row_itw {w : World} {B : Nat} {v : Value} {l : List IV} (h : Rw.Row RP 59 5 w B v l) (hp : ∀ x ∈ l, Ty.InL w x.2.1 x.2.2 x.1.params) : ∃ ao cap, v = .slice ao (l.map (·.1)).length cap ∧ Ty.ItL w ao cap (l.map (·.1)) := by
  obtain ⟨cells, h1, h2⟩ := h
  obtain ⟨ao, cap, e, hnc, hcm, hnn, hl, hh⟩ := own_slice h1 (by decide)
  refine ⟨ao, cap, by rw [List.length_map]; exact e, by rw [List.length_map]; exact hnc, hcm, hnn, ?_⟩
  rcases hh with h0 | ⟨g, rfl, hB, hg, hc⟩
  · left
    rw [List.eq_nil_of_length_eq_zero h0]; rfl
  · refine Or.inr ⟨g, 0, rfl, fun i x hx => ?_⟩
    rw [List.getElem?_map] at hx
    cases hy : l[i]? with
    | none => rw [hy] at hx; cases hx
    | some y =>
      rw [hy] at hx
      simp only [Option.map_some, Option.some.injEq] at hx
      subst hx
      obtain ⟨c, r1, r2, r3⟩ := h2.get hy
      have r1 : c = encI y := r1
      subst r1
      refine ⟨y.2.1, y.2.2, hp y (List.mem_of_getElem? hy), fun j u hu => ?_⟩
      rw [Nat.zero_add]
      exact hc _ _ (r3 j u hu)
set_option maxHeartbeats 2000000 in
theorem takeItems_in (its : List Ty.It) (q : Nat) (rest : List UInt8) (w : World) (hr : Wi.Rd w q (Wi.i31 (its.length : Int) ++ ((its.map itemB).flatten ++ rest)) 0) (hl : its.length ≤ 64) (hi : ∀ i ∈ its, Ty.rightI i = 0) (hb : ∀ i ∈ its, U64 i.bits) :
    Calls Tryz.prog 25 #[Wi.rp q] w fun e w' => ∃ ao cap, e = .returned (.slice ao its.length cap) ∧ (∀ w'', Fr (fun k => k < w.heap.size) w' w'' → Ty.ItL w'' ao cap its) ∧ Wi.Rd w' q rest 0 ∧ Fr (fun k => k = q) w w' := by
  have hq : Hidden (q < w.heap.size) := hr.lt
  have k1 := int_in q its.length _ w (by omega) hr
  have hiH : Hidden (∀ i ∈ its, Ty.rightI i = 0) := hi
  have hbH : Hidden (∀ i ∈ its, U64 i.bits) := hb
  have hl64 : ((64 : Int) < (its.length : Int)) = False := by simp; omega
  have hlH : Hidden (its.length ≤ 64) := hl
  have hn1 : its.length ≤ 9223372036854775807 := by omega
  clear hr hi hb hl
  go_enter Tryz.func25, Tryz.ntmps25
  go_wp2_with (go_at_call 51; refine k1.mono ?_; rintro e w1 ⟨rfl, r1, f1⟩)
  go_loopg [4, 12] its.length (fun g lv iv wr => ∃ (j : Nat) (acc : List IV), iv = ci (j : Int) ∧ j ≤ its.length ∧ g = its.length - j ∧ acc.map (·.1) = its.take j ∧ Rw.Row RP 59 5 wr w.heap.size lv acc ∧ (∀ x ∈ acc, PmW wr w.heap.size lv x) ∧ Wi.Rd wr q (((its.drop j).map itemB).flatten ++ rest) 0 ∧ Fr (fun k => k = q) w wr)
  case atStart => exact ⟨0, [], rfl, by omega, rfl, rfl, ⟨[], ⟨by simp, Or.inl ⟨rfl, rfl⟩⟩, rfl⟩, by simp, r1, f1⟩
  case round =>
    obtain ⟨j, acc, rfl, hj, hgk, hacc, hrow, hpm, hrd, hfr⟩ := hrel
    obtain ⟨ao2, cap2, hv, _⟩ := hrow.slice
    subst hv
    have hal : acc.length = j := by have := congrArg List.length hacc; simp at this; omega
    have hgkH : Hidden (gk = its.length - j) := hgk
    have hrowH : Hidden (Rw.Row RP 59 5 wr w.heap.size (.slice ao2 acc.length cap2) acc) := hrow
    have hpmH : Hidden (∀ x ∈ acc, PmW wr w.heap.size (.slice ao2 acc.length cap2) x) := hpm
    have hfrH : Hidden (Fr (fun k => k = q) w wr) := hfr
    have haccH : Hidden (acc.map (·.1) = its.take j) := hacc
    have halH : Hidden (acc.length = j) := hal
    clear hgk hrow hpm hfr hacc hal r1 f1 k1
    by_cases hjl : j < its.length
    · obtain ⟨x, hx⟩ : ∃ x, its[j]? = some x := ⟨its[j], List.getElem?_eq_getElem hjl⟩
      have hmem := List.mem_of_getElem? hx
      have hrd' : Wi.Rd wr q (itemB x ++ (((its.drop (j + 1)).map itemB).flatten ++ rest)) 0 := by
        rw [dropAt hx] at hrd
        simpa using hrd
      have kT := takeItem_in x q _ wr hrd' ((show ∀ i ∈ its, Ty.rightI i = 0 from hiH) x hmem) ((show ∀ i ∈ its, U64 i.bits from hbH) x hmem)
      have htk : Hidden (acc.map (·.1) ++ [x] = its.take (j + 1)) := by show _ = _; rw [take_snoc hx]; rw [(show acc.map (·.1) = its.take j from haccH)]
      have hsw : w.heap.size ≤ wr.heap.size := (show Fr (fun k => k = q) w wr from hfrH).size
      have hswH : Hidden (w.heap.size ≤ wr.heap.size) := hsw
      clear hx hmem hrd hrd' hsw
      go_wp2_with (first
        | (go_at_call 52; refine Calls.mono kT ?_; rintro e w3 ⟨po, pc, rfl, hin3, ho3, r3, f3⟩; have hrow4 : Hidden (Rw.Row RP 59 5 (w3.alloc (.cells (encI (x, po, pc)).toArray 59 (0, 0))) w.heap.size (.slice ao2 acc.length cap2) acc) := ((show Rw.Row RP _ 5 wr _ _ _ from hrowH).keep f3 (fun k hk e => by have h1 := (Rw.Row.low (show Rw.Row RP _ 5 wr _ _ _ from hrowH) k hk).1; have h2 : q < w.heap.size := hq; have e : k = q := e; omega)).keep (Fr.alloc FN _ _) (fun _ _ f => f); have hs3 : Hidden (wr.heap.size ≤ w3.heap.size) := f3.size)
        | (at_builtin; have hrow4' := hrow4; refine wpl_one (R := RP) rfl _ _ 22 59 _ 5 64 Tryz.underlying22 info_it rfl (by decide) rfl w.heap.size (.slice ao2 acc.length cap2) acc (x, po, pc) (encI (x, po, pc)) w3.heap.size 59 rfl hrow4' rfl rfl rfl (alloc_new _ _) (it_one _) ?_ ?_ ?_ ?_; (focus (simp only [maxLen]; have : its.length ≤ 64 := hlH; have : acc.length = j := halH; omega)); (focus (have : its.length ≤ 64 := hlH; have : acc.length = j := halH; omega)); (focus (have h1 : w.heap.size ≤ wr.heap.size := hswH; have h2 : wr.heap.size ≤ w3.heap.size := hs3; simp; omega)); intro v5 w5 hr5 f5 ho5))
      go_roundg (its.length - (j + 1))
      case measure => have : gk = its.length - j := hgkH; omega
      case rel =>
        have h1 : w.heap.size ≤ wr.heap.size := hswH
        have h2 : wr.heap.size ≤ w3.heap.size := hs3
        have h3 : q < w.heap.size := hq
        have low := Rw.Row.low (show Rw.Row RP _ 5 wr _ _ _ from hrowH)
        refine ⟨j + 1, acc ++ [(x, po, pc)], by go_num, by omega, rfl, by rw [List.map_append]; exact htk, hr5, ?_, ?_, ?_⟩
        · intro y hy
          have fa := Fr.alloc FN w3 (.cells (encI (x, po, pc)).toArray 59 (0, 0))
          refine PmW.grow ?_ f5 ho5
          rcases List.mem_append.1 hy with hy | hy
          · exact (((show ∀ x ∈ acc, PmW wr w.heap.size _ x from hpmH) y hy).keep f3 (fun k hk _ _ e => by have e : k = q := e; omega)).keep fa (fun _ _ _ _ f => f)
          · rw [List.mem_singleton.1 hy]
            refine PmW.keep (w := w3) ⟨hin3, ?_⟩ fa (fun _ _ _ _ f => f)
            rcases ho3 with h0 | ho3
            · exact Or.inl h0
            · refine Or.inr fun k hk => ⟨by have := (ho3 k hk).1; omega, (ho3 k hk).2, fun e => ?_⟩
              have := (low k e).2
              have := (ho3 k hk).1
              omega
        · exact (r3.later (to_wi (Fr.alloc FN w3 _))).aside (to_wi f5) (fun k hk => by have := (low k hk).1; omega)
        · refine (((show Fr (fun k => k = q) w wr from hfrH).same f3).same (Fr.alloc _ _ _)).trans f5 (fun k hk e => ?_)
          have := (low k e).1
          omega
    · obtain rfl : j = its.length := by omega
      have hrd2 : Wi.Rd wr q rest 0 := by rw [List.drop_length] at hrd; exact hrd
      have hrdH : Hidden (Wi.Rd wr q rest 0) := hrd2
      clear hrd hrd2
      go_wp2_with fail
      go_ret
      have hm := (show acc.map (·.1) = its.take its.length from haccH)
      rw [List.take_length] at hm
      have low := Rw.Row.low (show Rw.Row RP _ 5 wr _ _ _ from hrowH)
      refine ⟨ao2, cap2, by rw [(show acc.length = its.length from halH)]; rfl, fun w'' hw => ?_, hrdH, hfrH⟩
      obtain ⟨ao3, cap3, e3, h3⟩ := row_itw ((show Rw.Row RP _ 5 wr _ _ _ from hrowH).keep hw (fun k hk e => by have := (low k hk).1; have e : k < w.heap.size := e; omega)) (fun x hx => (((show ∀ x ∈ acc, PmW wr w.heap.size _ x from hpmH) x hx).keep hw (fun k hk _ _ e => by have e : k < w.heap.size := e; omega)).1)
      rw [hm] at e3 h3
      simp only [Value.slice.injEq] at e3
      obtain ⟨rfl, _, rfl⟩ := e3
      exact h3
end Go.Proofs.YtpjahcncknccdaaGreat.Fo.Ic
