/- NamesAlgebra walked. -/
import Derived.Test.YtlbcneoebamjiaaNmLive
import Derived.Test.YtlbcneoebamjiaaNmUnion
import Derived.Test.YtlbcneoebamjiaaNmPick2
namespace Go.Proofs.Ytlbcneoebamjiaa
open Go.RowKit Go.Sort
set_option linter.unusedSimpArgs false
set_option linter.unusedVariables false

theorem room2 {x y : Nat} (hx : x ≤ 8388608) (hy : y ≤ 8388608) : (x + y) * 16 ≤ 140737488355328 := by omega
theorem room1 {x : Nat} (hx : x ≤ 8388608) : x * 16 ≤ 140737488355328 := by omega

set_option maxHeartbeats 4000000 in
set_option maxRecDepth 20000 in
theorem namesAlgebra.walk (va : Value) (a : List Str) (vb : Value) (b : List Str) (vc : Value) (c : List Str) (w : World) (ha : Tl w va a) (hla : a.length ≤ 1048576) (_ : ∀ s ∈ a, s.length ≤ 1048576) (hb : Tl w vb b) (hlb : b.length ≤ 1048576) (_ : ∀ s ∈ b, s.length ≤ 1048576) (hc : Tl w vc c) (hlc : c.length ≤ 1048576) (_ : ∀ s ∈ c, s.length ≤ 1048576) :
    Calls Try.prog 7 #[va, vb, vc] w fun e w' => e = .returned (.bool true) ∧ Fr (fun _ => False) w w' := by
  have hl_a : Hidden ((a).length ≤ 8388608) := show (a).length ≤ 8388608 from by omega
  have hl_b : Hidden ((b).length ≤ 8388608) := show (b).length ≤ 8388608 from by omega
  have hl_c : Hidden ((c).length ≤ 8388608) := show (c).length ≤ 8388608 from by omega
  have hl_u : Hidden ((setS (a ++ b)).length ≤ 8388608) := show (setS (a ++ b)).length ≤ 8388608 from by have := setS_len (a ++ b); rw [List.length_append] at this; omega
  have hl_m : Hidden ((minusS a b).length ≤ 8388608) := show (minusS a b).length ≤ 8388608 from by have := minusS_len a b; omega
  have hl_n : Hidden ((bothS a b).length ≤ 8388608) := show (bothS a b).length ≤ 8388608 from by have := bothS_len a b; omega
  have hl_bc : Hidden ((setS (b ++ c)).length ≤ 8388608) := show (setS (b ++ c)).length ≤ 8388608 from by have := setS_len (b ++ c); rw [List.length_append] at this; omega
  have hl_ac : Hidden ((bothS a c).length ≤ 8388608) := show (bothS a c).length ≤ 8388608 from by have := bothS_len a c; omega
  have g : Fr (fun _ => False) w w := Fr.refl _ _
  have kl := live_any
  clear hla hlb hlc
  go_enter Try.func7, Try.ntmps7
  go_wp2_with fail
  refine (kl _).mono ?_
  rintro e w1 ⟨rfl, f1⟩
  replace ha := ha.later f1
  replace hb := hb.later f1
  replace hc := hc.later f1
  replace g := g.same f1
  clear f1 kl
  go_wp2_with fail
  refine (union_any _ _ _ _ _ ha hb (room2 hl_a hl_b)).mono ?_
  rintro e w2 ⟨vu, rfl, t, f⟩
  have hu := t.tl
  clear t
  replace ha := ha.later f
  replace hb := hb.later f
  replace hc := hc.later f
  replace g := g.same f
  clear f
  go_wp2_with fail
  refine (minus_any _ _ _ _ _ ha hb (room1 hl_a) (room1 hl_b)).mono ?_
  rintro e w3 ⟨vm, rfl, t, f⟩
  have hm := t.tl
  clear t
  replace ha := ha.later f
  replace hb := hb.later f
  replace hc := hc.later f
  replace hu := hu.later f
  replace g := g.same f
  clear f
  go_wp2_with fail
  refine (both_any _ _ _ _ _ ha hb (room1 hl_a) (room1 hl_b)).mono ?_
  rintro e w4 ⟨vn, rfl, t, f⟩
  have hn := t.tl
  clear t
  replace ha := ha.later f
  replace hb := hb.later f
  replace hc := hc.later f
  replace hu := hu.later f
  replace hm := hm.later f
  replace g := g.same f
  clear f
  go_wp2_with fail
  refine (union_any _ _ _ _ _ hb ha (room2 hl_b hl_a)).mono ?_
  rintro e w5 ⟨vt1, rfl, t, f⟩
  have ht1 := t.tl
  clear t
  replace ha := ha.later f
  replace hb := hb.later f
  replace hc := hc.later f
  replace hu := hu.later f
  replace hm := hm.later f
  replace hn := hn.later f
  replace g := g.same f
  clear f
  go_wp2_with fail
  refine (texts_is _ _ _ _ _ hu ht1 true (decide_eq_true ((set_comm a b).symm))).mono ?_
  rintro e w6 ⟨rfl, f⟩
  replace ha := ha.later f
  replace hb := hb.later f
  replace hc := hc.later f
  replace hu := hu.later f
  replace hm := hm.later f
  replace hn := hn.later f
  replace ht1 := ht1.later f
  replace g := g.same f
  clear f
  clear ht1
  go_wp2_with fail
  refine (both_any _ _ _ _ _ hb ha (room1 hl_b) (room1 hl_a)).mono ?_
  rintro e w7 ⟨vt2, rfl, t, f⟩
  have ht2 := t.tl
  clear t
  replace ha := ha.later f
  replace hb := hb.later f
  replace hc := hc.later f
  replace hu := hu.later f
  replace hm := hm.later f
  replace hn := hn.later f
  replace g := g.same f
  clear f
  go_wp2_with fail
  refine (texts_is _ _ _ _ _ hn ht2 true (decide_eq_true ((both_comm a b).symm))).mono ?_
  rintro e w8 ⟨rfl, f⟩
  replace ha := ha.later f
  replace hb := hb.later f
  replace hc := hc.later f
  replace hu := hu.later f
  replace hm := hm.later f
  replace hn := hn.later f
  replace ht2 := ht2.later f
  replace g := g.same f
  clear f
  clear ht2
  go_wp2_with fail
  refine (set_any _ _ _ hu (room1 hl_u)).mono ?_
  rintro e w9 ⟨vt3, rfl, t, f⟩
  have ht3 := t.tl
  clear t
  replace ha := ha.later f
  replace hb := hb.later f
  replace hc := hc.later f
  replace hu := hu.later f
  replace hm := hm.later f
  replace hn := hn.later f
  replace g := g.same f
  clear f
  go_wp2_with fail
  refine (texts_is _ _ _ _ _ ht3 hu true (decide_eq_true (set_twice _))).mono ?_
  rintro e w10 ⟨rfl, f⟩
  replace ha := ha.later f
  replace hb := hb.later f
  replace hc := hc.later f
  replace hu := hu.later f
  replace hm := hm.later f
  replace hn := hn.later f
  replace ht3 := ht3.later f
  replace g := g.same f
  clear f
  clear ht3
  go_wp2_with fail
  refine (union_any _ _ _ _ _ ha ha (room2 hl_a hl_a)).mono ?_
  rintro e w11 ⟨vt4, rfl, t, f⟩
  have ht4 := t.tl
  clear t
  replace ha := ha.later f
  replace hb := hb.later f
  replace hc := hc.later f
  replace hu := hu.later f
  replace hm := hm.later f
  replace hn := hn.later f
  replace g := g.same f
  clear f
  go_wp2_with fail
  refine (set_any _ _ _ ha (room1 hl_a)).mono ?_
  rintro e w12 ⟨vt5, rfl, t, f⟩
  have ht5 := t.tl
  clear t
  replace ha := ha.later f
  replace hb := hb.later f
  replace hc := hc.later f
  replace hu := hu.later f
  replace hm := hm.later f
  replace hn := hn.later f
  replace ht4 := ht4.later f
  replace g := g.same f
  clear f
  go_wp2_with fail
  refine (texts_is _ _ _ _ _ ht4 ht5 true (decide_eq_true (union_self a))).mono ?_
  rintro e w13 ⟨rfl, f⟩
  replace ha := ha.later f
  replace hb := hb.later f
  replace hc := hc.later f
  replace hu := hu.later f
  replace hm := hm.later f
  replace hn := hn.later f
  replace ht4 := ht4.later f
  replace ht5 := ht5.later f
  replace g := g.same f
  clear f
  clear ht4
  clear ht5
  go_wp2_with fail
  refine (union_any _ _ _ _ _ hm hn (room2 hl_m hl_n)).mono ?_
  rintro e w14 ⟨vt6, rfl, t, f⟩
  have ht6 := t.tl
  clear t
  replace ha := ha.later f
  replace hb := hb.later f
  replace hc := hc.later f
  replace hu := hu.later f
  replace hm := hm.later f
  replace hn := hn.later f
  replace g := g.same f
  clear f
  go_wp2_with fail
  refine (set_any _ _ _ ha (room1 hl_a)).mono ?_
  rintro e w15 ⟨vt7, rfl, t, f⟩
  have ht7 := t.tl
  clear t
  replace ha := ha.later f
  replace hb := hb.later f
  replace hc := hc.later f
  replace hu := hu.later f
  replace hm := hm.later f
  replace hn := hn.later f
  replace ht6 := ht6.later f
  replace g := g.same f
  clear f
  go_wp2_with fail
  refine (texts_is _ _ _ _ _ ht6 ht7 true (decide_eq_true (minus_both a b))).mono ?_
  rintro e w16 ⟨rfl, f⟩
  replace ha := ha.later f
  replace hb := hb.later f
  replace hc := hc.later f
  replace hu := hu.later f
  replace hm := hm.later f
  replace hn := hn.later f
  replace ht6 := ht6.later f
  replace ht7 := ht7.later f
  replace g := g.same f
  clear f
  clear ht6
  clear ht7
  go_wp2_with fail
  refine (both_any _ _ _ _ _ hm hn (room1 hl_m) (room1 hl_n)).mono ?_
  rintro e w17 ⟨vt8, rfl, t, f⟩
  have ht8 := t.tl
  clear t
  replace ha := ha.later f
  replace hb := hb.later f
  replace hc := hc.later f
  replace hu := hu.later f
  replace hm := hm.later f
  replace hn := hn.later f
  replace g := g.same f
  clear f
  rw [minus_both_none] at ht8
  obtain ⟨o8, c8, rfl, _, _, _, _⟩ := ht8
  simp only [List.length_nil]
  go_wp2_with fail
  refine (union_any _ _ _ _ _ ha hb (room2 hl_a hl_b)).mono ?_
  rintro e w18 ⟨vt9, rfl, t, f⟩
  have ht9 := t.tl
  clear t
  replace ha := ha.later f
  replace hb := hb.later f
  replace hc := hc.later f
  replace hu := hu.later f
  replace hm := hm.later f
  replace hn := hn.later f
  replace g := g.same f
  clear f
  go_wp2_with fail
  refine (union_any _ _ _ _ _ ht9 hc (room2 hl_u hl_c)).mono ?_
  rintro e w19 ⟨vt10, rfl, t, f⟩
  have ht10 := t.tl
  clear t
  replace ha := ha.later f
  replace hb := hb.later f
  replace hc := hc.later f
  replace hu := hu.later f
  replace hm := hm.later f
  replace hn := hn.later f
  replace ht9 := ht9.later f
  replace g := g.same f
  clear f
  go_wp2_with fail
  refine (union_any _ _ _ _ _ hb hc (room2 hl_b hl_c)).mono ?_
  rintro e w20 ⟨vt11, rfl, t, f⟩
  have ht11 := t.tl
  clear t
  replace ha := ha.later f
  replace hb := hb.later f
  replace hc := hc.later f
  replace hu := hu.later f
  replace hm := hm.later f
  replace hn := hn.later f
  replace ht9 := ht9.later f
  replace ht10 := ht10.later f
  replace g := g.same f
  clear f
  go_wp2_with fail
  refine (union_any _ _ _ _ _ ha ht11 (room2 hl_a hl_bc)).mono ?_
  rintro e w21 ⟨vt12, rfl, t, f⟩
  have ht12 := t.tl
  clear t
  replace ha := ha.later f
  replace hb := hb.later f
  replace hc := hc.later f
  replace hu := hu.later f
  replace hm := hm.later f
  replace hn := hn.later f
  replace ht9 := ht9.later f
  replace ht10 := ht10.later f
  replace ht11 := ht11.later f
  replace g := g.same f
  clear f
  go_wp2_with fail
  refine (texts_is _ _ _ _ _ ht10 ht12 true (decide_eq_true ((union_assoc a b c).symm))).mono ?_
  rintro e w22 ⟨rfl, f⟩
  replace ha := ha.later f
  replace hb := hb.later f
  replace hc := hc.later f
  replace hu := hu.later f
  replace hm := hm.later f
  replace hn := hn.later f
  replace ht9 := ht9.later f
  replace ht10 := ht10.later f
  replace ht11 := ht11.later f
  replace ht12 := ht12.later f
  replace g := g.same f
  clear f
  clear ht9
  clear ht10
  clear ht11
  clear ht12
  go_wp2_with fail
  refine (union_any _ _ _ _ _ hb hc (room2 hl_b hl_c)).mono ?_
  rintro e w23 ⟨vt13, rfl, t, f⟩
  have ht13 := t.tl
  clear t
  replace ha := ha.later f
  replace hb := hb.later f
  replace hc := hc.later f
  replace hu := hu.later f
  replace hm := hm.later f
  replace hn := hn.later f
  replace g := g.same f
  clear f
  go_wp2_with fail
  refine (both_any _ _ _ _ _ ha ht13 (room1 hl_a) (room1 hl_bc)).mono ?_
  rintro e w24 ⟨vt14, rfl, t, f⟩
  have ht14 := t.tl
  clear t
  replace ha := ha.later f
  replace hb := hb.later f
  replace hc := hc.later f
  replace hu := hu.later f
  replace hm := hm.later f
  replace hn := hn.later f
  replace ht13 := ht13.later f
  replace g := g.same f
  clear f
  go_wp2_with fail
  refine (both_any _ _ _ _ _ ha hb (room1 hl_a) (room1 hl_b)).mono ?_
  rintro e w25 ⟨vt15, rfl, t, f⟩
  have ht15 := t.tl
  clear t
  replace ha := ha.later f
  replace hb := hb.later f
  replace hc := hc.later f
  replace hu := hu.later f
  replace hm := hm.later f
  replace hn := hn.later f
  replace ht13 := ht13.later f
  replace ht14 := ht14.later f
  replace g := g.same f
  clear f
  go_wp2_with fail
  refine (both_any _ _ _ _ _ ha hc (room1 hl_a) (room1 hl_c)).mono ?_
  rintro e w26 ⟨vt16, rfl, t, f⟩
  have ht16 := t.tl
  clear t
  replace ha := ha.later f
  replace hb := hb.later f
  replace hc := hc.later f
  replace hu := hu.later f
  replace hm := hm.later f
  replace hn := hn.later f
  replace ht13 := ht13.later f
  replace ht14 := ht14.later f
  replace ht15 := ht15.later f
  replace g := g.same f
  clear f
  go_wp2_with fail
  refine (union_any _ _ _ _ _ ht15 ht16 (room2 hl_n hl_ac)).mono ?_
  rintro e w27 ⟨vt17, rfl, t, f⟩
  have ht17 := t.tl
  clear t
  replace ha := ha.later f
  replace hb := hb.later f
  replace hc := hc.later f
  replace hu := hu.later f
  replace hm := hm.later f
  replace hn := hn.later f
  replace ht13 := ht13.later f
  replace ht14 := ht14.later f
  replace ht15 := ht15.later f
  replace ht16 := ht16.later f
  replace g := g.same f
  clear f
  go_wp2_with fail
  refine (texts_is _ _ _ _ _ ht14 ht17 true (decide_eq_true (both_union a b c).symm)).mono ?_
  rintro e w28 ⟨rfl, f⟩
  replace ha := ha.later f
  replace hb := hb.later f
  replace hc := hc.later f
  replace hu := hu.later f
  replace hm := hm.later f
  replace hn := hn.later f
  replace ht13 := ht13.later f
  replace ht14 := ht14.later f
  replace ht15 := ht15.later f
  replace ht16 := ht16.later f
  replace ht17 := ht17.later f
  replace g := g.same f
  clear f
  go_wp2_with fail
  go_ret
  exact ⟨rfl, g⟩
end Go.Proofs.Ytlbcneoebamjiaa
