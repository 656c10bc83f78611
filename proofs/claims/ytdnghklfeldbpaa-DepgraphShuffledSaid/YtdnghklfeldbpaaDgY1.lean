/- DepgraphNils. -/
import Derived.Test.YtdnghklfeldbpaaDgX
import Derived.Test.YtdnghklfeldbpaaNmCmp
namespace Go.Proofs.Ytdnghklfeldbpaa.Dg
open Go.RowKit Go.Sort
abbrev g0 : Gr := ⟨[], fun _ => []⟩
theorem gp0 (w : World) : Gp w (.pointer none) g0 := ⟨⟨List.Pairwise.nil, fun _ => List.Pairwise.nil, fun _ _ => rfl⟩, by simp, fun _ => (by simp), fun n hn => (by cases hn), fun n m hm => (by cases hm), Or.inl ⟨rfl, rfl, fun _ => rfl⟩⟩
theorem reach0 {a b : Str} : ¬ Reach g0 a b := fun h => by
  rcases h.first with k | ⟨_, k, _⟩ <;> cases k
theorem under0 {n : Str} {l : List Str} (h : IsUnder g0 n l) : l = [] := List.eq_nil_iff_forall_not_mem.2 fun x hx => reach0 ((h.2 x).1 hx)
theorem over0 {n l : List Str} (h : IsOver g0 n l) : l = [] := List.eq_nil_iff_forall_not_mem.2 fun x hx => by cases ((h.2 x).1 hx).1
end Go.Proofs.Ytdnghklfeldbpaa.Dg
namespace Go.Proofs.Ytdnghklfeldbpaa.depgraphNils
open Go.RowKit Go.Sort Dg
set_option linter.unusedSimpArgs false
set_option linter.unusedVariables false
set_option maxRecDepth 20000 in
set_option maxHeartbeats 4000000 in
theorem walk (s : Str) (v : Value) (t : List Str) (w : World) (hs : s.length ≤ 140737488351232) (ht : Tl w v t) (hl : t.length * 16 ≤ 140737488355328) (hok : ∀ x ∈ t, x.length ≤ 9223372036854775807) :
    Calls Try.prog 9 #[.string ⟨s.toArray⟩, v] w fun e w' => e = .returned (.bool true) ∧ Fr (fun _ => False) w w' := by
  obtain ⟨aot, capt, rfl, t1, t2, _⟩ := id ht
  have htH : Hidden (Tl w (.slice aot t.length capt) t) := ht
  have hlH : Hidden (t.length * 16 ≤ 140737488355328) := hl
  have hokH : Hidden (∀ x ∈ t, x.length ≤ 9223372036854775807) := hok
  have hsok : Hidden (OkN s) := by show _ ≤ _; omega
  have ko := order_err none g0 w (gp0 w) (by decide)
  have kcmp := rcmp_any s s 0 (by show cmpS s s = 0; unfold cmpS; rw [if_neg Std.lt_irrefl, if_neg Std.lt_irrefl]) (by omega) (by omega)
  clear ht hl hok
  go_enter Try.func9, Try.ntmps9
  go_wp2_with fail
  refine ko.mono ?_
  rintro e w1 ⟨rfl, f1⟩
  have f1H : Hidden (Fr (fun _ => False) w w1) := f1
  have kl := levels_err none g0 w1 (gp0 w1) (by decide)
  clear ko f1
  go_wp2_with fail
  refine kl.mono ?_
  rintro e w2 ⟨rfl, f2⟩
  have f2H : Hidden (Fr (fun _ => False) w w2) := Fr.same f1H f2
  have km := missing_any (.pointer none) g0 w2 (gp0 w2)
  rw [show missS g0 = none from rfl] at km
  simp only [missV] at km
  clear kl f2
  go_wp2_with fail
  refine km.mono ?_
  rintro e w3 ⟨rfl, f3⟩
  have f3H : Hidden (Fr (fun _ => False) w w3) := Fr.same f2H f3
  have kn := names_any (.pointer none) g0 w3 (gp0 w3)
  clear km f3
  go_wp2_with fail
  refine kn.mono ?_
  rintro e w4 ⟨⟨ao4, cap4, rfl, _⟩, f4⟩
  have f4H : Hidden (Fr (fun _ => False) w w4) := Fr.same f3H f4
  have ki := imports_any (.pointer none) g0 s w4 (gp0 w4) hsok
  clear kn f4
  go_wp2_with fail
  refine ki.mono ?_
  rintro e w5 ⟨⟨ao5, cap5, rfl, _⟩, f5⟩
  have f5H : Hidden (Fr (fun _ => False) w w5) := Fr.same f4H f5
  have ku := users_any (.pointer none) g0 s w5 (gp0 w5)
  rw [show usersS g0 s = [] from rfl] at ku
  clear ki f5
  go_wp2_with fail
  refine ku.mono ?_
  rintro e w6 ⟨⟨ao6, cap6, rfl, _⟩, f6⟩
  have f6H : Hidden (Fr (fun _ => False) w w6) := Fr.same f5H f6
  have kr := ring_any (.pointer none) g0 w6 (gp0 w6)
  rw [show ringS g0 = [] from rfl] at kr
  clear ku f6
  go_wp2_with fail
  refine kr.mono ?_
  rintro e w7 ⟨⟨ao7, cap7, rfl, _⟩, f7⟩
  have f7H : Hidden (Fr (fun _ => False) w w7) := Fr.same f6H f7
  have kd := under_any (.pointer none) g0 s w7 (gp0 w7) hsok
  clear kr f7
  go_wp2_with fail
  refine kd.mono ?_
  rintro e w8 ⟨⟨l8, ⟨ao8, cap8, rfl, _⟩, q8⟩, f8⟩
  obtain rfl := under0 q8
  have f8H : Hidden (Fr (fun _ => False) w w8) := Fr.same f7H f8
  have kv := over_any (.pointer none) g0 aot capt t w8 (gp0 w8) (Tl.later htH f8H) hokH hlH
  clear kd f8 q8
  go_wp2_with fail
  refine kv.mono ?_
  rintro e w9 ⟨⟨l9, ⟨ao9, cap9, rfl, _⟩, q9⟩, f9⟩
  obtain rfl := over0 q9
  have f9H : Hidden (Fr (fun _ => False) w w9) := Fr.same f8H f9
  have ka := alive_any w9
  clear kv f9 q9
  go_wp2_with fail
  refine ka.mono ?_
  rintro e w10 ⟨rfl, f10⟩
  have f10H : Hidden (Fr (fun _ => False) w w10) := Fr.same f9H f10
  have kc := kcmp w10
  clear ka f10
  go_wp2_with fail
  refine kc.mono ?_
  rintro e w11 ⟨rfl, f11⟩
  have f11H : Hidden (Fr (fun _ => False) w w11) := Fr.same f10H f11
  clear kc f11
  go_wp2
  go_ret
  exact ⟨rfl, f11H⟩
end Go.Proofs.Ytdnghklfeldbpaa.depgraphNils
