/- CodeEncodes. -/
import Derived.Test.YtmkacbpeaggcpaaGreatDoorCdTsAll
import Derived.Test.YtmkacbpeaggcpaaGreatDoorCdEnAll
import Derived.Test.YtmkacbpeaggcpaaGreatDoorCdSc
import Derived.Test.YtmkacbpeaggcpaaGreatDoorCdNAll
import Derived.Test.YtmkacbpeaggcpaaGreatDoorCdIn
namespace Go.Proofs.YtmkacbpeaggcpaaGreatDoor.Cd
open Go.RowKit Ty
set_option linter.unusedSimpArgs false
set_option linter.unusedVariables false

set_option maxRecDepth 20000 in
set_option maxHeartbeats 4000000 in
theorem encodes_walk (ao : Option Addr) (n cap : Nat) (l : List In) (W : World) (hn : l.length = n) (hl : IL W ao cap l) (hok : ∀ i ∈ l, OkIn i) (hb : n ≤ 4398046510976) (ht : F.Tab W) :
    Calls Tryz.prog 3 #[.slice ao n cap] W fun e w' => e = .returned (.bool true) ∧ Fr (fun _ => False) W w' := by
  have klive := fun w (f : Fr (fun _ => False) W w) => live_any w (tab_fr ht f)
  have hub : ∀ i ∈ l, U64 i.b := fun i hi => (hok i hi).b
  have hlH : Hidden (IL W ao cap l) := hl
  have hnH : Hidden (l.length = n) := hn
  have hubH : Hidden (∀ i ∈ l, U64 i.b) := hub
  have hokH : Hidden (∀ i ∈ l, OkIn i) := hok
  have htH : Hidden (F.Tab W) := ht
  have hbH : Hidden (n ≤ 4398046510976) := hb
  have kmine := mine_any ao n cap l hn W hl (by omega)
  have hc1 : n ≤ cap := by rw [← hn]; exact hl.1
  have hc2 : cap ≤ 9223372036854775807 := by have := hl.2.1; simpa [maxLen] using this
  clear hl hn hub hok ht
  go_enter Tryz.func3, Tryz.ntmps3
  go_wp2_with fail
  go_at_call 6
  refine kmine.mono ?_
  rintro e w1 ⟨ov, rfl, hO, f1⟩
  obtain ⟨oo, co, rfl, hil⟩ := hO.il
  have kE := encode_any oo co l w1 hil hubH
  rw [show l.length = n from hnH] at kE ⊢
  have ho1 : n ≤ co := by rw [← (show l.length = n from hnH)]; exact hil.1
  have ho2 : co ≤ 9223372036854775807 := by have := hil.2.1; simpa [maxLen] using this
  have hilH : Hidden (IL w1 oo co l) := hil
  have f1H : Hidden (Fr (fun _ => False) W w1) := f1
  clear kmine hO hil f1
  obtain ⟨E, hE⟩ : ∃ E, E = (encA l).1 := ⟨_, rfl⟩
  obtain ⟨X, hX⟩ : ∃ X, X = (encA l).2 := ⟨_, rfl⟩
  rw [← hE, ← hX] at kE
  go_wp2_with fail
  go_at_call 7
  refine kE.mono ?_
  rintro e w2 ⟨xv, rfl, hx, f2⟩
  obtain ⟨xo, cx, rfl, hxb⟩ := hx.bl
  have fw2 : Hidden (Fr (fun _ => False) W w2) := (show Fr (fun _ => False) W w1 from f1H).same f2
  have il2 : Hidden (IL w2 oo co l) := (show IL w1 oo co l from hilH).keep f2
  have hxbH : Hidden (BL w2 xo cx X) := hxb
  have kR := rencode_any ao cap l w2 ((show IL W ao cap l from hlH).keep (show Fr (fun _ => False) W w2 from fw2)) hubH
  rw [show l.length = n from hnH, ← hE, ← hX] at kR
  clear kE hx f2 hxb hilH f1H
  generalize hXl : X.length = xl at kR ⊢
  have hXlH : Hidden (X.length = xl) := hXl
  clear hXl hE hX
  go_wp2_with fail
  go_at_call 8
  refine kR.mono ?_
  rintro e w3 ⟨yv, rfl, hy, f3⟩
  obtain ⟨yo, cy, rfl, hyb⟩ := hy.bl
  have fw3 : Fr (fun _ => False) W w3 := (show Fr (fun _ => False) W w2 from fw2).same f3
  have il3 : Hidden (IL w3 oo co l) := (show IL w2 oo co l from il2).keep f3
  have ksb := sameB_any xo yo cx cy X X true w3 ((show BL w2 xo cx X from hxbH).keep f3) hyb (show _ = _ by simp)
  rw [show X.length = xl from hXlH] at ksb ⊢
  have kt := texts_any oo n co l hnH w3 il3 hokH hbH (tab_fr htH fw3)
  have kx := fun w (f : Fr (fun _ => False) w3 w) => rtexts_any ao n cap l hnH w ((show IL W ao cap l from hlH).keep (fw3.same f)) hokH hbH (tab_fr htH (fw3.same f))
  have kc := fun w (f : Fr (fun _ => False) w3 w) => sameCode_any oo ao n n co cap l l hnH hnH true (show _ = _ by simp) w ((show IL w3 oo co l from il3).keep f) ((show IL W ao cap l from hlH).keep (fw3.same f))
  have kl := fun w (f : Fr (fun _ => False) w3 w) => klive w (fw3.same f)
  have fw3H : Hidden (Fr (fun _ => False) W w3) := fw3
  generalize textsGo 0 l = T at kt kx
  clear kR hy f3 hyb hxbH fw2 il2 il3 fw3 klive hb
  go_wp2_with fail
  go_at_call 9
  refine ksb.mono ?_
  rintro e w4 ⟨rfl, hw4⟩
  subst hw4
  clear ksb
  go_wp2_with fail
  go_at_call 10
  refine kt.mono ?_
  rintro e w5 ⟨rfl, f5⟩
  have k6 := kx w5 f5
  clear kt kx
  go_wp2_with fail
  go_at_call 11
  refine k6.mono ?_
  rintro e w6 ⟨rfl, f6⟩
  have k7 := kc w6 (f5.same f6)
  have f56 := f5.same f6
  clear k6 kc f5 f6
  go_wp2_with fail
  go_at_call 12
  refine k7.mono ?_
  rintro e w7 ⟨rfl, f7⟩
  have k8 := kl w7 (f56.same f7)
  have f57 := f56.same f7
  clear k7 kl f56 f7
  go_wp2_with fail
  go_at_call 13
  refine k8.mono ?_
  rintro e w8 ⟨rfl, f8⟩
  go_wp2_with fail
  go_ret
  exact ⟨rfl, (show Fr (fun _ => False) W _ from fw3H).same (f57.same f8)⟩
end Go.Proofs.YtmkacbpeaggcpaaGreatDoor.Cd
namespace Go.Proofs.YtmkacbpeaggcpaaGreatDoor.codeEncodes
open Go.RowKit Ty Cd
theorem walk (v : Value) (l : List In) (W : World) (hx : InsA W v l) (ht : F.Tab W) : Calls Tryz.prog 3 #[v] W fun e w' => e = .returned (.bool true) ∧ Fr (fun _ => False) W w' := by
  obtain ⟨ao, cap, rfl, h1, h2, h3⟩ := hx
  exact encodes_walk ao l.length cap l W rfl h1 h2 h3 ht
end Go.Proofs.YtmkacbpeaggcpaaGreatDoor.codeEncodes
