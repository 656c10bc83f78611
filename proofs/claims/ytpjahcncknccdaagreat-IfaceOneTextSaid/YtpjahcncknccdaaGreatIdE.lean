/- IfaceOneText. -/
import Derived.Test.YtpjahcncknccdaaGreatIdAll
import Derived.Test.YtpjahcncknccdaaGreatIdIn
import Derived.Test.YtpjahcncknccdaaGreatIcBll
import Derived.Test.YtpjahcncknccdaaGreatTrG
import Derived.Deep.DeepCutAuto
import Derived.Deep.RegionHeld3
namespace Go.Proofs.YtpjahcncknccdaaGreat.ifaceOneText
open Go.RowKit Te Fo Fo.Ic
set_option linter.unusedSimpArgs false
set_option linter.unusedVariables false
set_option maxRecDepth 20000

theorem n21 (w : World) (a b : Obj) : ((w.alloc a).alloc b).heap[w.heap.size]? = some a := (alloc_old _ _ _ (by simp)).trans (alloc_new w a)
theorem n22 (w : World) (a b : Obj) : ((w.alloc a).alloc b).heap[w.heap.size + 1]? = some b := alloc_at _ _ _ (by simp)
set_option maxHeartbeats 8000000 in
theorem walkB (vf : Value) (f : Ty.Fc) (vg : Value) (g : Ty.Fc) (vb : Value) (b : List UInt8) (w : World) (hf : Ty.FcI w f vf) (okf : Ty.OkN f.name ∧ ∀ p ∈ f.items, Ty.OkI p) (_hsf : f.items.length ≤ 2199023255552 ∧ ∀ i ∈ f.items, i.params.length ≤ 17592186044416) (hg : Ty.FcI w g vg) (okg : Ty.OkN g.name ∧ ∀ p ∈ g.items, Ty.OkI p) (_hsg : g.items.length ≤ 2199023255552 ∧ ∀ i ∈ g.items, i.params.length ≤ 17592186044416) (hb : Wi.Sl w vb (Wi.bc b)) (hlen : b.length ≤ 140737488351232) :
    Calls Tryz.prog 3 #[vf, vg, vb] w fun e w' => e = .returned (.bool true) ∧ Fr (fun _ => False) w w' := by
  have kB0 : ∀ u, Fr FN w u → Calls Tryz.prog 10 #[vb] u fun e w' => ∃ (f : Ty.Fc) (fo : Option Addr) (fc : Nat) (k : Int), e = .returned (.tuple #[.agg #[ct f.name, .slice fo f.items.length fc], ci k]) ∧ Ty.ItL w' fo fc f.items ∧ Dec b f k ∧ Fr FN u w' := fun u hu => decode_st b vb u (by omega) (hb.keep (to_wi hu) (fun _ _ f => f))
  have kC0 : ∀ (u : World) (v : Value) (a : List UInt8), Fr FN w u → Wi.Sl u v (Wi.bc a) → Calls Tryz.prog 12 #[v, vb] u fun e w' => e = .returned (.bool (decide (a = b))) ∧ w' = u := fun u v a hu hv => sameB_any a b v vb u hv (hb.keep (to_wi hu) (fun _ _ f => f))
  obtain ⟨fo, fc, rfl, hfi⟩ := hf
  obtain ⟨go, gc, rfl, hgi⟩ := hg
  obtain ⟨bo, bc, rfl, hb1, hb2, _⟩ := hb
  simp only [Wi.bc_length] at kB0 kC0 hb1 ⊢
  have kB := kB0
  have kC := kC0
  have bcm : bc ≤ 9223372036854775807 := by unfold maxLen at hb2; omega
  have fcm : fc ≤ 9223372036854775807 := by have := hfi.2.1; unfold maxLen at this; omega
  have gcm : gc ≤ 9223372036854775807 := by have := hgi.2.1; unfold maxLen at this; omega
  have fcn := hfi.1
  have gcn := hgi.1
  have kS : ∀ (u : World) (x y : Ty.Fc) (xo yo : Option Addr) (xc yc : Nat), Ty.ItL u xo xc x.items → Ty.ItL u yo yc y.items → Calls Tryz.prog 11 #[.agg #[ct x.name, .slice xo x.items.length xc], .agg #[ct y.name, .slice yo y.items.length yc]] u fun e w' => e = .returned (.bool (decide (x = y))) ∧ Fr FN u w' := fun u x y xo yo xc yc q1 q2 => Ty.sameIface_any x y _ _ u ⟨xo, xc, rfl, q1⟩ ⟨yo, yc, rfl, q2⟩
  have kE : ∀ (u : World) (x : Ty.Fc) (xo : Option Addr) (xc : Nat), Ty.ItL u xo xc x.items → Ty.OkN x.name → (∀ i ∈ x.items, Ty.OkI i) → Ty.rightF x = 0 → Calls Tryz.prog 8 #[.agg #[ct x.name, .slice xo x.items.length xc]] u fun e w' => ∃ ao cap, e = .returned (.tuple #[.slice ao (encS x).length cap, ci 0]) ∧ Wi.Sl w' (.slice ao (encS x).length cap) (Wi.bc (encS x)) ∧ (encS x).length ≤ cap ∧ cap ≤ 9223372036854775807 ∧ Fr FN u w' := fun u x xo xc q1 q2 q3 q4 => by
    have := encode_any x (.agg #[ct x.name, .slice xo x.items.length xc]) u ⟨xo, xc, rfl, q1⟩ q2 q3
    rw [q4, if_pos rfl] at this
    refine this.mono fun e w' ⟨ao, cap, h1, h2, h3⟩ => ⟨ao, cap, h1, h2.1, ?_, ?_, h3⟩
    · obtain ⟨a, c, e, q⟩ := h2.1
      simp only [Value.slice.injEq, Wi.bc_length] at e q
      obtain ⟨_, _, rfl⟩ := e
      exact q.1
    · obtain ⟨a, c, e, q⟩ := h2.1
      simp only [Value.slice.injEq, Wi.bc_length] at e q
      obtain ⟨_, _, rfl⟩ := e
      have := q.2.1
      unfold maxLen at this
      omega
  have kN : ∀ (u : World) (x : Ty.Fc) (xo : Option Addr) (xc : Nat), Ty.ItL u xo xc x.items → Ty.OkN x.name → (∀ i ∈ x.items, Ty.OkI i) → Ty.rightF x ≠ 0 → Calls Tryz.prog 8 #[.agg #[ct x.name, .slice xo x.items.length xc]] u fun e w' => ∃ ao cap, e = .returned (.tuple #[.slice ao 0 cap, ci (Ty.rightF x)]) ∧ cap ≤ 9223372036854775807 ∧ Fr FN u w' := fun u x xo xc q1 q2 q3 q4 => by
    have := encode_any x (.agg #[ct x.name, .slice xo x.items.length xc]) u ⟨xo, xc, rfl, q1⟩ q2 q3
    rw [if_neg q4] at this
    refine this.mono fun e w' ⟨ao, cap, h1, h2, h3⟩ => ⟨ao, cap, h1, ?_, h3⟩
    obtain ⟨a, c, e, q⟩ := h2.1
    simp only [Value.slice.injEq, Wi.bc_length] at e q
    obtain ⟨_, _, rfl⟩ := e
    have := q.2.1
    unfold maxLen at this
    omega
  have kRf : ∀ u, Fr FN w u → Calls Tryz.prog 9 #[.agg #[ct f.name, .slice fo f.items.length fc]] u fun e w' => e = .returned (ci (Ty.rightF f)) ∧ Fr FN u w' := fun u hu => Ty.rightIface_any f _ u ⟨fo, fc, rfl, hfi.keep hu⟩ okf.1 okf.2
  obtain ⟨W0, hW0⟩ : ∃ W, W = (w.alloc (.cells #[ct f.name, .slice fo f.items.length fc] 24)).alloc (.cells #[ct g.name, .slice go g.items.length gc] 24) := ⟨_, rfl⟩
  have f0 : Fr FN w W0 := by rw [hW0]; exact (Fr.alloc _ _ _).same (Fr.alloc _ _ _)
  have hA : W0.heap[w.heap.size]? = some (.cells #[ct f.name, .slice fo f.items.length fc] 24 (0, 0)) := by rw [hW0]; exact n21 _ _ _
  have hB : W0.heap[w.heap.size + 1]? = some (.cells #[ct g.name, .slice go g.items.length gc] 24 (0, 0)) := by rw [hW0]; exact n22 _ _ _
  have boxH : Hidden (∀ u, Fr FN W0 u → (u.cell? ⟨w.heap.size, 0, none⟩ = some (ct f.name) ∧ u.cell? ⟨w.heap.size, 1, none⟩ = some (.slice fo f.items.length fc)) ∧ (u.cell? ⟨w.heap.size + 1, 0, none⟩ = some (ct g.name) ∧ u.cell? ⟨w.heap.size + 1, 1, none⟩ = some (.slice go g.items.length gc))) := fun u hu => ⟨Ty.box2 (hu.heap hA (fun f => f)), Ty.box2 (hu.heap hB (fun f => f))⟩
  have kL := live_any W0
  have f0H : Hidden (Fr FN w W0) := f0
  have hW0H : Hidden (W0 = _) := hW0
  have hfiH : Hidden (Ty.ItL w fo fc f.items) := hfi
  have hgiH : Hidden (Ty.ItL w go gc g.items) := hgi
  have okfH : Hidden (Ty.OkN f.name ∧ ∀ p ∈ f.items, Ty.OkI p) := okf
  have okgH : Hidden (Ty.OkN g.name ∧ ∀ p ∈ g.items, Ty.OkI p) := okg
  clear hA hB f0 hW0 hb2 hlen kB0 kC0 _hsf _hsg
  by_cases hrf : Ty.rightF f = 0
  · have kEf : ∀ u, Fr FN w u → _ := fun u hu => kE u f fo fc (hfi.keep hu) okf.1 okf.2 hrf
    have kD : ∀ (u : World) (v : Value), Wi.Sl u v (Wi.bc (encS f)) → Calls Tryz.prog 10 #[v] u fun e w' => ∃ (ba : Option Addr) (bk : Nat), e = .returned (.tuple #[.agg #[ct f.name, .slice ba f.items.length bk], ci 0]) ∧ Ty.ItL w' ba bk f.items ∧ Fr FN u w' := fun u v h => (decode_in f v u hrf okf.1 okf.2 h).mono fun e w' ⟨fv, h1, ⟨ba, bk, h2, h3⟩, h4⟩ => ⟨ba, bk, by rw [h1, h2], h3, h4⟩
    obtain ⟨LF, hLF⟩ : ∃ L, (encS f).length = L := ⟨_, rfl⟩
    rw [hrf] at kRf
    by_cases hrg : Ty.rightF g = 0
    · have kEg : ∀ u, Fr FN w u → _ := fun u hu => kE u g go gc (hgi.keep hu) okg.1 okg.2 hrg
      obtain ⟨LG, hLG⟩ : ∃ L, (encS g).length = L := ⟨_, rfl⟩
      obtain ⟨EQ, hEQ⟩ : ∃ q, decide (f = g) = q := ⟨_, rfl⟩
      have hee := enc_iff hrf hrg okf.2 okg.2
      rw [hEQ] at hee
      have kG : ∀ (u : World) (x y : Value), Wi.Sl u x (Wi.bc (encS f)) → Wi.Sl u y (Wi.bc (encS g)) → Calls Tryz.prog 12 #[x, y] u fun e w' => e = .returned (.bool EQ) ∧ w' = u := fun u x y hx hy => by
        have := sameB_any (encS f) (encS g) x y u hx hy
        rw [hee] at this
        exact this
      have kSfg : ∀ u, Fr FN w u → Calls Tryz.prog 11 #[.agg #[ct f.name, .slice fo f.items.length fc], .agg #[ct g.name, .slice go g.items.length gc]] u fun e w' => e = .returned (.bool EQ) ∧ Fr FN u w' := fun u hu => by
        have := kS u f g fo go fc gc (hfi.keep hu) (hgi.keep hu)
        rw [hEQ] at this
        exact this
      rw [hLF] at kEf
      rw [hLG] at kEg
      clear hfi hgi okf okg hrf hrg hLF hLG hEQ hee kN
      go_enter Tryz.func3, Tryz.ntmps3
      go_wp2_with fail
      rw [← (show W0 = _ from hW0H)]
      go_at_call 7
      refine Calls.mono kL ?_
      rintro e w1 ⟨rfl, f1⟩
      have fw1 : Fr FN w w1 := (show Fr FN w W0 from f0H).same f1
      obtain ⟨⟨a0, a1⟩, b0, b1⟩ := (show ∀ u, Fr FN W0 u → _ from boxH) w1 f1
      have kEf1 := kEf w1 fw1
      clear kL kEf
      go_wp2_with fail
      go_at_call 8
      refine Calls.mono kEf1 ?_
      rintro e w2 ⟨xo, xc, rfl, sl2, hx1, hx2, f2⟩
      have f02 := f1.same f2
      have fw2 := fw1.same f2
      clear kEf1 a0 a1 b0 b1
      obtain ⟨⟨a0, a1⟩, b0, b1⟩ := (show ∀ u, Fr FN W0 u → _ from boxH) w2 f02
      clear f1 f2 fw1
      have kEg3 := kEg w2 fw2
      clear kEg
      go_wp2_with fail
      go_at_call 8
      refine Calls.mono kEg3 ?_
      rintro e w3 ⟨yo, yc, rfl, sl3, hy1, hy2, f3⟩
      have f03 := f02.same f3
      have fw3 := fw2.same f3
      have sl2 := sl2.keep (to_wi f3) (fun _ _ f => f)
      have kR3 := kRf w3 fw3
      clear kEg3 kRf a0 a1 b0 b1
      obtain ⟨⟨a0, a1⟩, b0, b1⟩ := (show ∀ u, Fr FN W0 u → _ from boxH) w3 f03
      go_wp2_with fail
      go_at_call 9
      refine Calls.mono kR3 ?_
      rintro e w4 ⟨rfl, f4⟩
      have f04 := f03.same f4
      have fw4 := fw3.same f4
      have sl2 := sl2.keep (to_wi f4) (fun _ _ f => f)
      have sl3 := sl3.keep (to_wi f4) (fun _ _ f => f)
      have kD4 := kD w4 _ sl2
      clear kR3 a0 a1 b0 b1 kD
      go_wp2_with fail
      go_at_call 10
      refine Calls.mono kD4 ?_
      rintro e w5 ⟨ba, bk, rfl, hb5, f5⟩
      have bkm : bk ≤ 9223372036854775807 := by have := hb5.2.1; unfold maxLen at this; omega
      have bkn := hb5.1
      obtain ⟨U, hU⟩ : ∃ U, U = w5.alloc (.cells #[ct f.name, .slice ba f.items.length bk] 24) := ⟨_, rfl⟩
      have f5U : Fr FN w5 U := by rw [hU]; exact Fr.alloc _ _ _
      have f0U : Fr FN W0 U := (f04.same f5).same f5U
      have fwU : Fr FN w U := (fw4.same f5).same f5U
      have hUb : U.heap[w5.heap.size]? = some (.cells #[ct f.name, .slice ba f.items.length bk] 24 (0, 0)) := by rw [hU]; exact alloc_new _ _
      have hbU := hb5.keep f5U
      have kS1 : ∀ u, Fr FN U u → Calls Tryz.prog 11 #[.agg #[ct f.name, .slice ba f.items.length bk], .agg #[ct f.name, .slice fo f.items.length fc]] u fun e w' => e = .returned (.bool true) ∧ Fr FN U w' := fun u hu => by
        have := kS u f f ba fo bk fc (hbU.keep hu) ((show Ty.ItL w fo fc f.items from hfiH).keep (fwU.same hu))
        rw [decide_eq_true rfl] at this
        exact this.mono fun _ _ ⟨q1, q2⟩ => ⟨q1, hu.same q2⟩
      have kS2 : ∀ u, Fr FN U u → Calls Tryz.prog 11 #[.agg #[ct f.name, .slice fo f.items.length fc], .agg #[ct g.name, .slice go g.items.length gc]] u fun e w' => e = .returned (.bool EQ) ∧ Fr FN U w' := fun u hu => (kSfg u (fwU.same hu)).mono fun _ _ ⟨q1, q2⟩ => ⟨q1, hu.same q2⟩
      have slxU := (sl2.keep (to_wi f5) (fun _ _ f => f)).keep (to_wi f5U) (fun _ _ f => f)
      have slyU := (sl3.keep (to_wi f5) (fun _ _ f => f)).keep (to_wi f5U) (fun _ _ f => f)
      have kG2 : ∀ u, Fr FN U u → _ := fun u hu => kG u _ _ (slxU.keep (to_wi hu) (fun _ _ f => f)) (slyU.keep (to_wi hu) (fun _ _ f => f))
      have bx : ∀ u, Fr FN U u → ((u.cell? ⟨w.heap.size, 0, none⟩ = some (ct f.name) ∧ u.cell? ⟨w.heap.size, 1, none⟩ = some (.slice fo f.items.length fc)) ∧ (u.cell? ⟨w.heap.size + 1, 0, none⟩ = some (ct g.name) ∧ u.cell? ⟨w.heap.size + 1, 1, none⟩ = some (.slice go g.items.length gc))) ∧ (u.cell? ⟨w5.heap.size, 0, none⟩ = some (ct f.name) ∧ u.cell? ⟨w5.heap.size, 1, none⟩ = some (.slice ba f.items.length bk)) := fun u hu => ⟨(show ∀ u, Fr FN W0 u → _ from boxH) u (f0U.same hu), Ty.box2 (hu.heap hUb (fun f => f))⟩
      have bxH : Hidden (∀ u, Fr FN U u → ((u.cell? ⟨w.heap.size, 0, none⟩ = some (ct f.name) ∧ u.cell? ⟨w.heap.size, 1, none⟩ = some (.slice fo f.items.length fc)) ∧ (u.cell? ⟨w.heap.size + 1, 0, none⟩ = some (ct g.name) ∧ u.cell? ⟨w.heap.size + 1, 1, none⟩ = some (.slice go g.items.length gc))) ∧ (u.cell? ⟨w5.heap.size, 0, none⟩ = some (ct f.name) ∧ u.cell? ⟨w5.heap.size, 1, none⟩ = some (.slice ba f.items.length bk))) := bx
      obtain ⟨⟨⟨a0, a1⟩, b0, b1⟩, c0, c1⟩ := bx U (Fr.refl _ _)
      have fwUH : Hidden (Fr FN w U) := fwU
      have hUH : Hidden (U = _) := hU
      have ebb : (EQ != EQ) = false := by cases EQ <;> rfl
      clear hU f5U f0U fwU hUb hbU slxU slyU sl2 sl3 f4 f5 f04 fw4 fw3 f03 f3 hb5 bx kD4 kG kSfg f02 fw2
      go_upto_region 9 with fail
      rw [← (show U = _ from hUH)]
      go_cut [70] (fun v wx => v = .bool false ∧ Fr FN U wx)
      case first =>
        clear kB kC kS kE
        go_region_held3 (fun w' => w'.cell? ⟨w.heap.size, 0, none⟩ = some (ct f.name) ∧ w'.cell? ⟨w.heap.size, 1, none⟩ = some (.slice fo f.items.length fc) ∧ w'.cell? ⟨w.heap.size + 1, 0, none⟩ = some (ct g.name) ∧ w'.cell? ⟨w.heap.size + 1, 1, none⟩ = some (.slice go g.items.length gc) ∧ w'.cell? ⟨w5.heap.size, 0, none⟩ = some (ct f.name) ∧ w'.cell? ⟨w5.heap.size, 1, none⟩ = some (.slice ba f.items.length bk)) (first | (refine ⟨by with_reducible assumption, by with_reducible assumption, by with_reducible assumption, by with_reducible assumption, by with_reducible assumption, by with_reducible assumption⟩) | go_keep) (first
          | (go_at_call 11; (with_reducible refine Calls.mono (kS2 w6 f6) ?_); rintro e w7 ⟨rfl, f7⟩; obtain ⟨⟨⟨r0, r1⟩, r2, r3⟩, r4, r5⟩ := (show ∀ u, Fr FN U u → _ from bxH) w7 f7)
          | (go_at_call 12; (with_reducible refine Calls.mono (kG2 w7 f7) ?_); rintro e w8 ⟨rfl, hw8⟩; rw [hw8]; clear hw8)
          | (go_at_call 12; (with_reducible refine Calls.mono (kG2 w6 f6) ?_); rintro e w8 ⟨rfl, hw8⟩; rw [hw8]; clear hw8)
          | (go_at_call 11; (with_reducible refine Calls.mono (kS1 U.drew (Fr.drew _ _)) ?_); rintro e w6 ⟨rfl, f6⟩; obtain ⟨⟨⟨p0, p1⟩, p2, p3⟩, p4, p5⟩ := (show ∀ u, Fr FN U u → _ from bxH) w6 f6))
        all_goals go_wp2_with fail
        all_goals go_meet
        all_goals exact ⟨rfl, f7⟩
      case rest =>
        obtain ⟨rfl, fUc⟩ := hcut
        have fwT : Fr FN w wc := (show Fr FN w U from fwUH).same fUc
        clear kS1 kS2 kG2 fUc a0 a1 b0 b1 c0 c1
        have kB7 := kB wc (show Fr FN w wc from fwT)
        have fwTH : Hidden (Fr FN w wc) := fwT
        clear kB fwT
        go_wp2_with fail
        go_at_call 10
        refine Calls.mono kB7 ?_
        rintro e w7 ⟨d, dd, dc, k, rfl, hd7, hdec, f7⟩
        have dcm : dc ≤ 9223372036854775807 := by have := hd7.2.1; unfold maxLen at this; omega
        have dcn := hd7.1
        have fb7 := Fr.alloc FN w7 (.cells #[ct d.name, .slice dd d.items.length dc] 24)
        have fw7 : Hidden (Fr FN w (w7.alloc (.cells #[ct d.name, .slice dd d.items.length dc] 24))) := ((show Fr FN w wc from fwTH).same f7).same fb7
        have hd8 := hd7.keep fb7
        clear kB7 f7 fb7 hd7
        rcases hdec with ⟨rfl, hrd, henc, okdn, okdi⟩ | ⟨rfl, rfl⟩
        · have kE8 := kE _ d dd dc hd8 okdn okdi hrd
          have kC8 : ∀ (u : World) (v : Value), Fr FN w u → Wi.Sl u v (Wi.bc (encS d)) → Calls Tryz.prog 12 #[v, .slice bo b.length bc] u fun e w' => e = .returned (.bool true) ∧ w' = u := fun u v hu hv => by
            have := kC u v _ hu hv
            rw [decide_eq_true henc] at this
            exact this
          have hLd : ∃ L, (encS d).length = L := ⟨_, rfl⟩
          obtain ⟨LD, hLD⟩ := hLd
          rw [hLD] at kE8
          clear kE kC kS hd8 hrd henc okdn okdi hLD
          go_wp2_with fail
          go_at_call 8
          refine Calls.mono kE8 ?_
          rintro e w9 ⟨ea, ec, rfl, sl9, hc9, hm9, f9⟩
          have fw9 := (show Fr FN w _ from fw7).same f9
          have kC9 := kC8 w9 _ fw9 sl9
          have fw9H : Hidden (Fr FN w w9) := fw9
          clear kC8 kE8 fw9 sl9 f9
          go_wp2_with (go_at_call 12; refine Calls.mono kC9 ?_; rintro e w10 ⟨rfl, rfl⟩)
          go_ret
          exact ⟨rfl, fw9H⟩
        · have kS8 := kS _ ⟨[], []⟩ ⟨[], []⟩ dd none dc 0 hd8 ⟨by simp, by simp [maxLen], fun _ => rfl, Or.inl rfl⟩
          rw [decide_eq_true rfl] at kS8
          clear kE kC kS hd8
          go_wp2_with (go_at_call 11; refine Calls.mono kS8 ?_; rintro e w9 ⟨rfl, f9⟩)
          go_ret
          exact ⟨rfl, (show Fr FN w _ from fw7).same f9⟩
    · obtain ⟨RG, hRG⟩ : ∃ r, Ty.rightF g = r := ⟨_, rfl⟩
      have kEg : ∀ u, Fr FN w u → _ := fun u hu => kN u g go gc (hgi.keep hu) okg.1 okg.2 hrg
      rw [hRG] at kEg hrg
      have t9 : (RG == 0) = false := by simpa using hrg
      rw [hLF] at kEf
      clear hfi hgi okf okg hrf hrg hLF hRG kN
      go_enter Tryz.func3, Tryz.ntmps3
      go_wp2_with fail
      rw [← (show W0 = _ from hW0H)]
      go_at_call 7
      refine Calls.mono kL ?_
      rintro e w1 ⟨rfl, f1⟩
      have fw1 : Fr FN w w1 := (show Fr FN w W0 from f0H).same f1
      obtain ⟨⟨a0, a1⟩, b0, b1⟩ := (show ∀ u, Fr FN W0 u → _ from boxH) w1 f1
      have kEf1 := kEf w1 fw1
      clear kL kEf
      go_wp2_with fail
      go_at_call 8
      refine Calls.mono kEf1 ?_
      rintro e w2 ⟨xo, xc, rfl, sl2, hx1, hx2, f2⟩
      have f02 := f1.same f2
      have fw2 := fw1.same f2
      clear kEf1 a0 a1 b0 b1
      obtain ⟨⟨a0, a1⟩, b0, b1⟩ := (show ∀ u, Fr FN W0 u → _ from boxH) w2 f02
      clear f1 f2 fw1
      have kEg3 := kEg w2 fw2
      clear kEg
      go_wp2_with fail
      go_at_call 8
      refine Calls.mono kEg3 ?_
      rintro e w3 ⟨yo, yc, rfl, hy2, f3⟩
      have f03 := f02.same f3
      have fw3 := fw2.same f3
      have sl2 := sl2.keep (to_wi f3) (fun _ _ f => f)
      have kR3 := kRf w3 fw3
      clear kEg3 kRf a0 a1 b0 b1
      obtain ⟨⟨a0, a1⟩, b0, b1⟩ := (show ∀ u, Fr FN W0 u → _ from boxH) w3 f03
      go_wp2_with fail
      go_at_call 9
      refine Calls.mono kR3 ?_
      rintro e w4 ⟨rfl, f4⟩
      have f04 := f03.same f4
      have fw4 := fw3.same f4
      have sl2 := sl2.keep (to_wi f4) (fun _ _ f => f)
      have kD4 := kD w4 _ sl2
      clear kR3 a0 a1 b0 b1 kD
      go_wp2_with fail
      go_at_call 10
      refine Calls.mono kD4 ?_
      rintro e w5 ⟨ba, bk, rfl, hb5, f5⟩
      have bkm : bk ≤ 9223372036854775807 := by have := hb5.2.1; unfold maxLen at this; omega
      have bkn := hb5.1
      obtain ⟨U, hU⟩ : ∃ U, U = w5.alloc (.cells #[ct f.name, .slice ba f.items.length bk] 24) := ⟨_, rfl⟩
      have f5U : Fr FN w5 U := by rw [hU]; exact Fr.alloc _ _ _
      have f0U : Fr FN W0 U := (f04.same f5).same f5U
      have fwU : Fr FN w U := (fw4.same f5).same f5U
      have hUb : U.heap[w5.heap.size]? = some (.cells #[ct f.name, .slice ba f.items.length bk] 24 (0, 0)) := by rw [hU]; exact alloc_new _ _
      have hbU := hb5.keep f5U
      have kS0 : ∀ u, Fr FN U u → Calls Tryz.prog 11 #[.agg #[ct f.name, .slice ba f.items.length bk], .agg #[ct f.name, .slice fo f.items.length fc]] u fun e w' => e = .returned (.bool true) ∧ Fr FN u w' := fun u hu => by
        have := kS u f f ba fo bk fc (hbU.keep hu) ((show Ty.ItL w fo fc f.items from hfiH).keep (fwU.same hu))
        rw [decide_eq_true rfl] at this
        exact this
      have bx : ∀ u, Fr FN U u → ((u.cell? ⟨w.heap.size, 0, none⟩ = some (ct f.name) ∧ u.cell? ⟨w.heap.size, 1, none⟩ = some (.slice fo f.items.length fc)) ∧ (u.cell? ⟨w.heap.size + 1, 0, none⟩ = some (ct g.name) ∧ u.cell? ⟨w.heap.size + 1, 1, none⟩ = some (.slice go g.items.length gc))) ∧ (u.cell? ⟨w5.heap.size, 0, none⟩ = some (ct f.name) ∧ u.cell? ⟨w5.heap.size, 1, none⟩ = some (.slice ba f.items.length bk)) := fun u hu => ⟨(show ∀ u, Fr FN W0 u → _ from boxH) u (f0U.same hu), Ty.box2 (hu.heap hUb (fun f => f))⟩
      have bxH : Hidden (∀ u, Fr FN U u → ((u.cell? ⟨w.heap.size, 0, none⟩ = some (ct f.name) ∧ u.cell? ⟨w.heap.size, 1, none⟩ = some (.slice fo f.items.length fc)) ∧ (u.cell? ⟨w.heap.size + 1, 0, none⟩ = some (ct g.name) ∧ u.cell? ⟨w.heap.size + 1, 1, none⟩ = some (.slice go g.items.length gc))) ∧ (u.cell? ⟨w5.heap.size, 0, none⟩ = some (ct f.name) ∧ u.cell? ⟨w5.heap.size, 1, none⟩ = some (.slice ba f.items.length bk))) := bx
      obtain ⟨⟨⟨a0, a1⟩, b0, b1⟩, c0, c1⟩ := bx U (Fr.refl _ _)
      have fwUH : Hidden (Fr FN w U) := fwU
      have hUH : Hidden (U = _) := hU
      clear hU f5U f0U fwU hUb hbU sl2 f4 f5 f04 fw4 fw3 f03 f3 hb5 bx kD4 f02 fw2
      go_upto_region 9 with fail
      rw [← (show U = _ from hUH)]
      go_cut [70] (fun v wx => v = .bool false ∧ Fr FN U wx)
      case first =>
        clear kB kC kS kE
        have kS1' : ∀ u, Fr FN U u → Calls Tryz.prog 11 #[.agg #[ct f.name, .slice ba f.items.length bk], .agg #[ct f.name, .slice fo f.items.length fc]] u fun e w' => e = .returned (.bool true) ∧ Fr FN u w' := kS0
        refine wp_region_grow (by kernel_rfl) (by kernel_rfl) ?_
        (repeat (first | (refine grow_op (v := ?_) ?_ ?_ ?_; rotate_left; (focus (first | exact wanted_none rfl | (go_simp; done))); (focus (intro w' hw'; have a0 := hw'.cellN a0; have a1 := hw'.cellN a1; have b0 := hw'.cellN b0; have b1 := hw'.cellN b1; have c0 := hw'.cellN c0; have c1 := hw'.cellN c1; (go_simp; first | with_reducible rfl | (go_at_call 11; refine calls_grow hw' ?_; first | (have q := kS1' w' hw'; with_reducible exact q))))); (intro a' ha; simp only [Act.put, List.setIfInBounds_toArray, List.set_cons_zero, List.set_cons_succ] at ha; subst ha)) | (refine grow_no ?_ ?_; (focus (go_simp; done)); (intro a' ha; simp only [Act.put, List.setIfInBounds_toArray, List.set_cons_zero, List.set_cons_succ] at ha; subst ha)))); refine grow_nil ?_; intro w1 k1
        first
          | (go_meet; exact ⟨rfl, k1⟩)
          | (go_wp2_with fail; go_meet; exact ⟨rfl, k1⟩)
          | (simp only [Exit.then]; go_meet; exact ⟨rfl, k1⟩)
      case rest =>
        obtain ⟨rfl, fUc⟩ := hcut
        have fwT : Fr FN w wc := (show Fr FN w U from fwUH).same fUc
        clear kS0 fUc a0 a1 b0 b1 c0 c1
        have kB7 := kB wc (show Fr FN w wc from fwT)
        have fwTH : Hidden (Fr FN w wc) := fwT
        clear kB fwT
        go_wp2_with fail
        go_at_call 10
        refine Calls.mono kB7 ?_
        rintro e w7 ⟨d, dd, dc, k, rfl, hd7, hdec, f7⟩
        have dcm : dc ≤ 9223372036854775807 := by have := hd7.2.1; unfold maxLen at this; omega
        have dcn := hd7.1
        have fb7 := Fr.alloc FN w7 (.cells #[ct d.name, .slice dd d.items.length dc] 24)
        have fw7 : Hidden (Fr FN w (w7.alloc (.cells #[ct d.name, .slice dd d.items.length dc] 24))) := ((show Fr FN w wc from fwTH).same f7).same fb7
        have hd8 := hd7.keep fb7
        clear kB7 f7 fb7 hd7
        rcases hdec with ⟨rfl, hrd, henc, okdn, okdi⟩ | ⟨rfl, rfl⟩
        · have kE8 := kE _ d dd dc hd8 okdn okdi hrd
          have kC8 : ∀ (u : World) (v : Value), Fr FN w u → Wi.Sl u v (Wi.bc (encS d)) → Calls Tryz.prog 12 #[v, .slice bo b.length bc] u fun e w' => e = .returned (.bool true) ∧ w' = u := fun u v hu hv => by
            have := kC u v _ hu hv
            rw [decide_eq_true henc] at this
            exact this
          have hLd : ∃ L, (encS d).length = L := ⟨_, rfl⟩
          obtain ⟨LD, hLD⟩ := hLd
          rw [hLD] at kE8
          clear kE kC kS hd8 hrd henc okdn okdi hLD
          go_wp2_with fail
          go_at_call 8
          refine Calls.mono kE8 ?_
          rintro e w9 ⟨ea, ec, rfl, sl9, hc9, hm9, f9⟩
          have fw9 := (show Fr FN w _ from fw7).same f9
          have kC9 := kC8 w9 _ fw9 sl9
          have fw9H : Hidden (Fr FN w w9) := fw9
          clear kC8 kE8 fw9 sl9 f9
          go_wp2_with (go_at_call 12; refine Calls.mono kC9 ?_; rintro e w10 ⟨rfl, rfl⟩)
          go_ret
          exact ⟨rfl, fw9H⟩
        · have kS8 := kS _ ⟨[], []⟩ ⟨[], []⟩ dd none dc 0 hd8 ⟨by simp, by simp [maxLen], fun _ => rfl, Or.inl rfl⟩
          rw [decide_eq_true rfl] at kS8
          clear kE kC kS hd8
          go_wp2_with (go_at_call 11; refine Calls.mono kS8 ?_; rintro e w9 ⟨rfl, f9⟩)
          go_ret
          exact ⟨rfl, (show Fr FN w _ from fw7).same f9⟩
  · obtain ⟨RF, hRF⟩ : ∃ r, Ty.rightF f = r := ⟨_, rfl⟩
    have kEf : ∀ u, Fr FN w u → _ := fun u hu => kN u f fo fc (hfi.keep hu) okf.1 okf.2 hrf
    rw [hRF] at kEf hrf kRf
    have kEg : ∀ u, Fr FN w u → Calls Tryz.prog 8 #[.agg #[ct g.name, .slice go g.items.length gc]] u fun e w' => ∃ (yo : Option Addr) (yl yc : Nat) (RG : Int), e = .returned (.tuple #[.slice yo yl yc, ci RG]) ∧ Fr FN u w' := fun u hu => by
      by_cases hrg : Ty.rightF g = 0
      · exact (kE u g go gc (hgi.keep hu) okg.1 okg.2 hrg).mono fun e w' ⟨a, c, h1, _, _, _, h2⟩ => ⟨a, _, c, 0, h1, h2⟩
      · exact (kN u g go gc (hgi.keep hu) okg.1 okg.2 hrg).mono fun e w' ⟨a, c, h1, _, h2⟩ => ⟨a, 0, c, _, h1, h2⟩
    have t9 : (RF == 0) = false := by simpa using hrf
    have t8 : (RF != 0) = true := by simpa using hrf
    clear hfi hgi okf okg hrf hRF kN
    go_enter Tryz.func3, Tryz.ntmps3
    go_wp2_with fail
    rw [← (show W0 = _ from hW0H)]
    go_at_call 7
    refine Calls.mono kL ?_
    rintro e w1 ⟨rfl, f1⟩
    have fw1 : Fr FN w w1 := (show Fr FN w W0 from f0H).same f1
    obtain ⟨⟨a0, a1⟩, b0, b1⟩ := (show ∀ u, Fr FN W0 u → _ from boxH) w1 f1
    have kEf1 := kEf w1 fw1
    clear kL kEf
    go_wp2_with fail
    go_at_call 8
    refine Calls.mono kEf1 ?_
    rintro e w2 ⟨xo, xc, rfl, hx2, f2⟩
    have f02 := f1.same f2
    have fw2 := fw1.same f2
    clear kEf1 a0 a1 b0 b1
    obtain ⟨⟨a0, a1⟩, b0, b1⟩ := (show ∀ u, Fr FN W0 u → _ from boxH) w2 f02
    clear f1 f2 fw1
    have kEg3 := kEg w2 fw2
    clear kEg
    go_wp2_with fail
    go_at_call 8
    refine Calls.mono kEg3 ?_
    rintro e w3 ⟨yo, yl, yc, RG, rfl, f3⟩
    have f03 := f02.same f3
    have fw3 := fw2.same f3
    have kR3 := kRf w3 fw3
    clear kEg3 kRf a0 a1 b0 b1
    obtain ⟨⟨a0, a1⟩, b0, b1⟩ := (show ∀ u, Fr FN W0 u → _ from boxH) w3 f03
    go_wp2_with fail
    go_at_call 9
    refine Calls.mono kR3 ?_
    rintro e w4 ⟨rfl, f4⟩
    have fwT := fw3.same f4
    clear kR3 a0 a1 b0 b1 f4 fw3 f03 f3 f02 fw2
    have kB7 := kB w4 (show Fr FN w w4 from fwT)
    have fwTH : Hidden (Fr FN w w4) := fwT
    clear kB fwT
    go_wp2_with fail
    go_at_call 10
    refine Calls.mono kB7 ?_
    rintro e w7 ⟨d, dd, dc, k, rfl, hd7, hdec, f7⟩
    have dcm : dc ≤ 9223372036854775807 := by have := hd7.2.1; unfold maxLen at this; omega
    have dcn := hd7.1
    have fb7 := Fr.alloc FN w7 (.cells #[ct d.name, .slice dd d.items.length dc] 24)
    have fw7 : Hidden (Fr FN w (w7.alloc (.cells #[ct d.name, .slice dd d.items.length dc] 24))) := ((show Fr FN w w4 from fwTH).same f7).same fb7
    have hd8 := hd7.keep fb7
    clear kB7 f7 fb7 hd7
    rcases hdec with ⟨rfl, hrd, henc, okdn, okdi⟩ | ⟨rfl, rfl⟩
    · have kE8 := kE _ d dd dc hd8 okdn okdi hrd
      have kC8 : ∀ (u : World) (v : Value), Fr FN w u → Wi.Sl u v (Wi.bc (encS d)) → Calls Tryz.prog 12 #[v, .slice bo b.length bc] u fun e w' => e = .returned (.bool true) ∧ w' = u := fun u v hu hv => by
        have := kC u v _ hu hv
        rw [decide_eq_true henc] at this
        exact this
      have hLd : ∃ L, (encS d).length = L := ⟨_, rfl⟩
      obtain ⟨LD, hLD⟩ := hLd
      rw [hLD] at kE8
      clear kE kC kS hd8 hrd henc okdn okdi hLD
      go_wp2_with fail
      go_at_call 8
      refine Calls.mono kE8 ?_
      rintro e w9 ⟨ea, ec, rfl, sl9, hc9, hm9, f9⟩
      have fw9 := (show Fr FN w _ from fw7).same f9
      have kC9 := kC8 w9 _ fw9 sl9
      have fw9H : Hidden (Fr FN w w9) := fw9
      clear kC8 kE8 fw9 sl9 f9
      go_wp2_with (go_at_call 12; refine Calls.mono kC9 ?_; rintro e w10 ⟨rfl, rfl⟩)
      go_ret
      exact ⟨rfl, fw9H⟩
    · have kS8 := kS _ ⟨[], []⟩ ⟨[], []⟩ dd none dc 0 hd8 ⟨by simp, by simp [maxLen], fun _ => rfl, Or.inl rfl⟩
      rw [decide_eq_true rfl] at kS8
      clear kE kC kS hd8
      go_wp2_with (go_at_call 11; refine Calls.mono kS8 ?_; rintro e w9 ⟨rfl, f9⟩)
      go_ret
      exact ⟨rfl, (show Fr FN w _ from fw7).same f9⟩
end Go.Proofs.YtpjahcncknccdaaGreat.ifaceOneText
