/- TrY PyA PyB PyC PyD -/
import Derived.Test.YteijjaabngkbjaaGreatDoorTrX4B
import Derived.Test.YteijjaabngkbjaaGreatDoorTrTAll
import Derived.Test.YteijjaabngkbjaaGreatDoorTrFB
import Derived.Test.YteijjaabngkbjaaGreatDoorTrX6B
namespace Go.Proofs.YteijjaabngkbjaaGreatDoor.X
open Go.RowKit Te
set_option linter.unusedSimpArgs false
set_option linter.unusedVariables false
theorem catv (a b c : Bs) (hc : a ++ b = c) (h : c.length ≤ 9223372036854775807) (w : World) : (Op.stringOp .add ⟨a.toArray⟩ ⟨b.toArray⟩).run Tryz.prog w = .ok (.string ⟨c.toArray⟩) w := by
  subst hc
  rw [List.length_append] at h
  rw [run_string_add_sum w _ _ (by simp [ByteArray.size]; omega)]
  exact congrArg (fun x => Result.ok (Value.string x) w) (N.append_str a b)
set_option maxRecDepth 20000 in
set_option maxHeartbeats 1000000 in
theorem lit_text (vt vb : Int) (hb0 : 0 ≤ vb) (hb1 : vb < 18446744073709551616) (h1 : vt = 1 → vb < 9223372036854775808) (w : World) :
    Calls Tryz.prog 136 #[.agg #[ci vt, .int .u64 vb]] w fun e w' => e = .returned (ct (txS vt vb)) ∧ Fr (fun _ => False) w w' := by
  have f0 := Fr.alloc (fun _ => False) w (.cells #[ci vt, .int .u64 vb] 40)
  by_cases e1 : vt = 1
  · subst e1
    have hlt := h1 rfl
    have kd := D.rdec_any _ vb rfl ⟨by omega, by omega⟩ (w.alloc (.cells #[ci 1, .int .u64 vb] 40))
    clear h1
    go_enter Tryz.func136, Tryz.ntmps136
    go_wp2_with fail
    go_at_call 175
    refine kd.mono ?_
    rintro e w1 ⟨rfl, f1⟩
    go_wp2_with fail
    go_ret
    exact ⟨rfl, f0.same (kb_frD f1)⟩
  · have n1 : (vt == 1) = false := by simp [e1]
    by_cases e2 : vt = 2
    · subst e2
      have kd := F.rtext_any vb ⟨by omega, by omega⟩ (w.alloc (.cells #[ci 2, .int .u64 vb] 40))
      clear h1
      go_enter Tryz.func136, Tryz.ntmps136
      go_wp2_with fail
      go_at_call 176
      refine kd.mono ?_
      rintro e w1 ⟨rfl, f1⟩
      go_wp2_with fail
      go_ret
      exact ⟨rfl, f0.same (kb_fr f1)⟩
    · have n2 : (vt == 2) = false := by simp [e2]
      clear h1
      by_cases e3 : vb = 0
      · subst e3
        go_enter Tryz.func136, Tryz.ntmps136
        go_wp2_with fail
        go_ret
        exact ⟨by simp [txS, e1, e2], f0⟩
      · have n3 : (vb == 0) = false := by simp [e3]
        go_enter Tryz.func136, Tryz.ntmps136
        go_wp2_with fail
        go_ret
        exact ⟨by simp [txS, e1, e2, e3], f0⟩
def mk (op : Int) : Bs := if op = 1 then [43] else if op = 2 then [45] else if op = 3 then [42] else if op = 4 then [47] else if op = 5 then [37] else if op = 6 then [61, 61] else if op = 7 then [33, 61] else if op = 8 then [60] else if op = 9 then [60, 61] else if op = 10 then [62] else if op = 11 then [62, 61] else if op = 12 then [38, 38] else [124, 124]
theorem mark_mk (op : Int) (h0 : 1 ≤ op) (h1 : op ≤ 13) : Te.mark op = [32] ++ mk op ++ [32] := by
  obtain rfl | rfl | rfl | rfl | rfl | rfl | rfl | rfl | rfl | rfl | rfl | rfl | rfl : op = 1 ∨ op = 2 ∨ op = 3 ∨ op = 4 ∨ op = 5 ∨ op = 6 ∨ op = 7 ∨ op = 8 ∨ op = 9 ∨ op = 10 ∨ op = 11 ∨ op = 12 ∨ op = 13 := by omega
  all_goals decide
set_option maxRecDepth 20000 in
set_option maxHeartbeats 1000000 in
theorem mark_any (op : Int) (h0 : 1 ≤ op) (h1 : op ≤ 13) (w : World) : Calls Tryz.prog 139 #[ci op] w fun e w' => e = .returned (ct (mk op)) ∧ Fr (fun _ => False) w w' := by
  obtain rfl | rfl | rfl | rfl | rfl | rfl | rfl | rfl | rfl | rfl | rfl | rfl | rfl : op = 1 ∨ op = 2 ∨ op = 3 ∨ op = 4 ∨ op = 5 ∨ op = 6 ∨ op = 7 ∨ op = 8 ∨ op = 9 ∨ op = 10 ∨ op = 11 ∨ op = 12 ∨ op = 13 := by omega
  all_goals
    go_enter Tryz.func139, Tryz.ntmps139
    go_wp2
    go_ret
    exact ⟨rfl, Fr.alloc _ _ _⟩
def hc : EH := ⟨4, 0, [], [], 0, 0⟩
theorem txK_call (p : EH) (hp : p.kind = 4 ∨ p.kind = 5) : ∀ (k : Exs) (f : Bool), txK txS p f k = txK txS hc f k
  | .nil, _ => rfl
  | .cons h k r, f => by
    have e1 : sep p = sep hc := by
      have : p.kind ≠ 7 := by omega
      simp [sep, hc, this]
    have e2 : kidL p f = kidL hc f := by
      have a : p.kind ≠ 6 := by omega
      have b : p.kind ≠ 7 := by omega
      simp [kidL, hc, a, b]
    unfold txK
    rw [txK_call p hp r false, e1, e2]
theorem txK_hc (h : EH) (k r : Exs) (f : Bool) : txK txS hc f (.cons h k r) = (if f then [] else [44, 32]) ++ txA txS h k 1 ++ txK txS hc false r := rfl
def AtC (h : EH) (k : Exs) : Prop := ∀ (least : Int) (ao : Option Addr) (cap : Nat) (w : World) (T : Bs), OkE h → OkX k → ShE h k.len → ShL k → ExL w ao cap k → Hidden (txA txS h k least = T) → T.length ≤ 9223372036854775807 →
  Calls Tryz.prog 43 #[exV h (.slice ao k.len cap), ci least] w fun e w' => e = .returned (ct T) ∧ Fr (fun _ => False) w w'
def BareC (h : EH) (k : Exs) : Prop := ∀ (ao : Option Addr) (cap : Nat) (w : World) (T : Bs), OkE h → OkX k → ShE h k.len → ShL k → ExL w ao cap k → Hidden (bare txS h k = T) → T.length ≤ 9223372036854775807 →
  Calls Tryz.prog 92 #[exV h (.slice ao k.len cap)] w fun e w' => e = .returned (ct T) ∧ Fr (fun _ => False) w w'
def KidsC (k : Exs) : Prop := ∀ (ao : Option Addr) (cap : Nat) (w : World) (T : Bs), OkX k → ShL k → ExL w ao cap k → Hidden ([40] ++ txK txS hc true k ++ [41] = T) → T.length ≤ 9223372036854775807 →
  Calls Tryz.prog 137 #[.slice ao k.len cap] w fun e w' => e = .returned (ct T) ∧ Fr (fun _ => False) w w'
set_option maxRecDepth 20000 in
set_option maxHeartbeats 4000000 in
theorem at_step (h : EH) (k : Exs) (hb : BareC h k) : AtC h k := by
  intro least ao cap w T ho hx hs hsl hk hT hl
  have klev := fun w => level_any h (.slice ao k.len cap) ⟨_, _, _, rfl⟩ _ rfl w
  have hbx : Hidden ((w.alloc (exB h ao k.len cap)).heap[w.heap.size]? = some (exB h ao k.len cap)) := alloc_new _ _
  have f0 : Fr (fun _ => False) w (w.alloc (exB h ao k.len cap)) := Fr.alloc _ _ _
  obtain ⟨B, hB⟩ : ∃ B, bare txS h k = B := ⟨_, rfl⟩
  by_cases hlv : level h < least
  · have hT2 : Hidden ([40] ++ B ++ [41] = T) := by rw [← (show _ = T from hT), ← hB]; simp [Hidden, txA, par, hlv]
    clear hT
    have hlen : B.length + 2 = T.length := by rw [← (show _ = T from hT2)]; simp
    have kb := fun (w1 : World) (f : Fr (fun _ => False) w w1) => hb ao cap w1 B ho hx hs hsl (hk.keep f) hB (by omega)
    clear hB hlen
    obtain ⟨C1, hC1⟩ : ∃ C, [40] ++ B = C := ⟨_, rfl⟩
    have hZ := (show _ = T from hT2)
    rw [hC1] at hZ
    have lhC1 := congrArg List.length hC1
    simp only [List.length_append] at lhC1
    have lhZ := congrArg List.length hZ
    simp only [List.length_append] at lhZ
    have t1 := catv [40] B _ hC1 (by omega)
    have t2 := catv C1 [41] _ hZ (by omega)
    clear lhC1 lhZ hC1 hZ hT2
    go_enter Tryz.func43, Tryz.ntmps43
    go_wp2_with fail
    go_at_call 91
    refine (klev _).mono ?_
    rintro e w1 ⟨rfl, f1⟩
    obtain ⟨c0, c1, c2, c3, c4, c5, c6⟩ := ex_box (f1.heap hbx (fun f => f))
    go_wp2_with fail
    go_at_call 92
    refine (kb _ (f0.same f1)).mono ?_
    rintro e w2 ⟨rfl, f2⟩
    go_wp2_with fail
    go_ret
    exact ⟨rfl, (f0.same f1).same f2⟩
  · have hT2 : Hidden (B = T) := by rw [← (show _ = T from hT), ← hB]; simp [Hidden, txA, par, hlv]
    clear hT
    obtain rfl : B = T := hT2
    have kb := fun (w1 : World) (f : Fr (fun _ => False) w w1) => hb ao cap w1 B ho hx hs hsl (hk.keep f) hB hl
    clear hB
    go_enter Tryz.func43, Tryz.ntmps43
    go_wp2_with fail
    go_at_call 91
    refine (klev _).mono ?_
    rintro e w1 ⟨rfl, f1⟩
    obtain ⟨c0, c1, c2, c3, c4, c5, c6⟩ := ex_box (f1.heap hbx (fun f => f))
    go_wp2_with fail
    go_at_call 92
    refine (kb _ (f0.same f1)).mono ?_
    rintro e w2 ⟨rfl, f2⟩
    go_wp2_with fail
    go_ret
    exact ⟨rfl, (f0.same f1).same f2⟩
set_option maxRecDepth 20000 in
set_option maxHeartbeats 4000000 in
theorem kids_step (k : Exs) (ih : ∀ h' k', k'.size < k.size → AtC h' k') : KidsC k := by
  intro ao cap w T hx hsl hk hT hl
  have hrest := hk.rest
  obtain ⟨hcap, hmax, _⟩ := hk
  have hlen : k.len ≤ 9223372036854775807 := by unfold maxLen at hmax; omega
  go_enter Tryz.func137, Tryz.ntmps137
  go_wp2_with fail
  go_loopg [3, 4] k.len (fun g sv iv wr => ∃ (i : Nat) (r : Exs) (ac : Bs), sv = ct ac ∧ iv = ci (i : Int) ∧ i + r.len = k.len ∧ r.size ≤ k.size ∧ OkX r ∧ ShL r ∧ ExR w ao i r ∧ ac ++ txK txS hc (decide (i = 0)) r ++ [41] = T ∧ g = r.len ∧ Fr (fun _ => False) w wr)
  case atStart => exact ⟨0, k, [40], rfl, rfl, by omega, Nat.le_refl _, hx, hsl, hrest, hT, rfl, Fr.refl _ _⟩
  case round =>
    obtain ⟨i, r, ac, rfl, rfl, hlen2, hsize, hok, hsh, hrow, hdk, hgk, hfr⟩ := hrel
    have hgkH : Hidden (gk = r.len) := hgk
    have hdkH : Hidden (ac ++ txK txS hc (decide (i = 0)) r ++ [41] = T) := hdk
    have hlenH : Hidden (i + r.len = k.len) := hlen2
    clear hgk hdk hlen2 hrest hT
    cases r with
    | nil =>
      have hi : i = k.len := hlenH
      subst hi
      have hd2 : Hidden (ac ++ [41] = T) := by rw [← (show _ = T from hdkH)]; simp [Hidden, txK]
      have t1 := catv ac [41] T hd2 hl
      clear hdkH hd2
      go_wp2_with fail
      go_ret
      exact ⟨rfl, hfr⟩
    | cons h' k' r' =>
      have hil : i < k.len := by have : i + (r'.len + 1) = k.len := hlenH; omega
      obtain ⟨b, off, ao', cap', rfl, hL, hrow2, d0, d1, d2, d3, d4, d5, d6⟩ := hrow.next
      have d0 := hfr.cellN d0
      have d1 := hfr.cellN d1
      have d2 := hfr.cellN d2
      have d3 := hfr.cellN d3
      have d4 := hfr.cellN d4
      have d5 := hfr.cellN d5
      have d6 := hfr.cellN d6
      simp only [Exs.size] at hsize
      obtain ⟨A, hA⟩ : ∃ A, txA txS h' k' 1 = A := ⟨_, rfl⟩
      have hd1 : Hidden (ac ++ ((if decide (i = 0) then [] else [44, 32]) ++ A ++ txK txS hc false r') ++ [41] = T) := by
        rw [← hA, ← txK_hc]
        exact hdkH
      have hAl : ac.length + A.length + (if decide (i = 0) then [] else [44, 32] : Bs).length ≤ 9223372036854775807 := by
        have h2 := congrArg List.length (show _ = T from hd1)
        simp only [List.length_append] at h2
        omega
      have ke := ih h' k' (by omega) 1 ao' cap' wr A hok.1 hok.2.1 hsh.1 hsh.2.1 (hL.keep hfr) hA (by omega)
      clear hdkH hA
      by_cases hz : i = 0
      · obtain ⟨C, hC⟩ : ∃ C, ac ++ A = C := ⟨_, rfl⟩
        have hd2 : Hidden (C ++ txK txS hc (decide (i + 1 = 0)) r' ++ [41] = T) := by rw [← (show _ = T from hd1), ← hC]; simp [Hidden, hz]
        have t1 := catv ac A C hC (by rw [← hC]; simp [hz] at hAl; simp; omega)
        have hpos : ¬ 0 < i := by omega
        clear hd1 hAl hC hz
        go_wp2_with fail
        go_at_call 43
        refine ke.mono ?_
        rintro e W3 ⟨rfl, f3⟩
        go_wp2_with fail
        go_roundg r'.len
        case measure =>
          have : gk = r'.len + 1 := hgkH
          omega
        case rel =>
          refine ⟨i + 1, r', _, rfl, by go_num, ?_, by omega, hok.2.2, hsh.2.2, hrow2, hd2, rfl, hfr.same f3⟩
          have : i + (r'.len + 1) = k.len := hlenH
          omega
      · obtain ⟨C0, hC0⟩ : ∃ C, ac ++ [44, 32] = C := ⟨_, rfl⟩
        obtain ⟨C, hC⟩ : ∃ C, C0 ++ A = C := ⟨_, rfl⟩
        have hd2 : Hidden (C ++ txK txS hc (decide (i + 1 = 0)) r' ++ [41] = T) := by rw [← (show _ = T from hd1), ← hC, ← hC0]; simp [Hidden, hz]
        have t0 := catv ac [44, 32] C0 hC0 (by rw [← hC0]; simp [hz] at hAl; simp; omega)
        have t1 := catv C0 A C hC (by rw [← hC, ← hC0]; simp [hz] at hAl; simp; omega)
        have hpos : 0 < i := by omega
        clear hd1 hAl hz hC hC0
        go_wp2_with fail
        go_at_call 43
        refine ke.mono ?_
        rintro e W3 ⟨rfl, f3⟩
        go_wp2_with fail
        go_roundg r'.len
        case measure =>
          have : gk = r'.len + 1 := hgkH
          omega
        case rel =>
          refine ⟨i + 1, r', _, rfl, by go_num, ?_, by omega, hok.2.2, hsh.2.2, hrow2, hd2, rfl, hfr.same f3⟩
          have : i + (r'.len + 1) = k.len := hlenH
          omega
set_option maxRecDepth 20000 in
set_option maxHeartbeats 4000000 in
theorem bare_1 (op vt vb : Int) (mod name : Bs) (k : Exs) (ih : ∀ h' k', k'.size < k.size → AtC h' k') (ao : Option Addr) (cap : Nat) (w : World) (T : Bs) (ho : OkE ⟨1, op, mod, name, vt, vb⟩) (hx : OkX k) (hsl : ShL k) (hk : ExL w ao cap k) (hT : Hidden (bare txS ⟨1, op, mod, name, vt, vb⟩ k = T)) (hl : T.length ≤ 9223372036854775807) (h0 : k.len = 0) (h1 : vt = 1 → vb < 9223372036854775808) :
    Calls Tryz.prog 92 #[exV ⟨1, op, mod, name, vt, vb⟩ (.slice ao k.len cap)] w fun e w' => e = .returned (ct T) ∧ Fr (fun _ => False) w w' := by
  have hbx : Hidden ((w.alloc (.cells #[ci 1, ci op, ct mod, ct name, ci vt, .int .u64 vb, .slice ao k.len cap] 59)).heap[w.heap.size]? = some (.cells #[ci 1, ci op, ct mod, ct name, ci vt, .int .u64 vb, .slice ao k.len cap] 59 (0, 0))) := alloc_new _ _
  have f0 : Fr (fun _ => False) w (w.alloc (.cells #[ci 1, ci op, ct mod, ct name, ci vt, .int .u64 vb, .slice ao k.len cap] 59)) := Fr.alloc _ _ _
  have hmax : cap ≤ 9223372036854775807 := by have := hk.2.1; unfold maxLen at this; omega
  have hcap := hk.1
  obtain rfl := len_nil h0
  obtain rfl : txS vt vb = T := by rw [← (show _ = T from hT)]; simp [bare, Te.pre, post, txK]
  have kl := fun w => lit_text vt vb ho.vb0 ho.vb1 h1 w
  go_enter Tryz.func92, Tryz.ntmps92
  go_wp2_with fail
  go_at_call 136
  refine (kl _).mono ?_
  rintro e w1 ⟨rfl, f1⟩
  go_wp2_with fail
  go_ret
  exact ⟨rfl, f0.same f1⟩
set_option maxRecDepth 20000 in
set_option maxHeartbeats 4000000 in
theorem bare_2 (op vt vb : Int) (mod name : Bs) (k : Exs) (ih : ∀ h' k', k'.size < k.size → AtC h' k') (ao : Option Addr) (cap : Nat) (w : World) (T : Bs) (ho : OkE ⟨2, op, mod, name, vt, vb⟩) (hx : OkX k) (hsl : ShL k) (hk : ExL w ao cap k) (hT : Hidden (bare txS ⟨2, op, mod, name, vt, vb⟩ k = T)) (hl : T.length ≤ 9223372036854775807) (h0 : k.len = 0) :
    Calls Tryz.prog 92 #[exV ⟨2, op, mod, name, vt, vb⟩ (.slice ao k.len cap)] w fun e w' => e = .returned (ct T) ∧ Fr (fun _ => False) w w' := by
  have hbx : Hidden ((w.alloc (.cells #[ci 2, ci op, ct mod, ct name, ci vt, .int .u64 vb, .slice ao k.len cap] 59)).heap[w.heap.size]? = some (.cells #[ci 2, ci op, ct mod, ct name, ci vt, .int .u64 vb, .slice ao k.len cap] 59 (0, 0))) := alloc_new _ _
  have f0 : Fr (fun _ => False) w (w.alloc (.cells #[ci 2, ci op, ct mod, ct name, ci vt, .int .u64 vb, .slice ao k.len cap] 59)) := Fr.alloc _ _ _
  have hmax : cap ≤ 9223372036854775807 := by have := hk.2.1; unfold maxLen at this; omega
  have hcap := hk.1
  obtain rfl := len_nil h0
  obtain rfl : name = T := by rw [← (show _ = T from hT)]; simp [bare, Te.pre, post, txK]
  go_enter Tryz.func92, Tryz.ntmps92
  go_wp2_with fail
  go_ret
  exact ⟨rfl, f0⟩
set_option maxRecDepth 20000 in
set_option maxHeartbeats 4000000 in
theorem bare_3 (op vt vb : Int) (mod name : Bs) (k : Exs) (ih : ∀ h' k', k'.size < k.size → AtC h' k') (ao : Option Addr) (cap : Nat) (w : World) (T : Bs) (ho : OkE ⟨3, op, mod, name, vt, vb⟩) (hx : OkX k) (hsl : ShL k) (hk : ExL w ao cap k) (hT : Hidden (bare txS ⟨3, op, mod, name, vt, vb⟩ k = T)) (hl : T.length ≤ 9223372036854775807) (h0 : k.len = 0) :
    Calls Tryz.prog 92 #[exV ⟨3, op, mod, name, vt, vb⟩ (.slice ao k.len cap)] w fun e w' => e = .returned (ct T) ∧ Fr (fun _ => False) w w' := by
  have hbx : Hidden ((w.alloc (.cells #[ci 3, ci op, ct mod, ct name, ci vt, .int .u64 vb, .slice ao k.len cap] 59)).heap[w.heap.size]? = some (.cells #[ci 3, ci op, ct mod, ct name, ci vt, .int .u64 vb, .slice ao k.len cap] 59 (0, 0))) := alloc_new _ _
  have f0 : Fr (fun _ => False) w (w.alloc (.cells #[ci 3, ci op, ct mod, ct name, ci vt, .int .u64 vb, .slice ao k.len cap] 59)) := Fr.alloc _ _ _
  have hmax : cap ≤ 9223372036854775807 := by have := hk.2.1; unfold maxLen at this; omega
  have hcap := hk.1
  obtain rfl := len_nil h0
  have hT2 : Hidden (mod ++ [46] ++ name = T) := by rw [← (show _ = T from hT)]; simp [Hidden, bare, Te.pre, post, txK]
  clear hT
  obtain ⟨C1, hC1⟩ : ∃ C, mod ++ [46] = C := ⟨_, rfl⟩
  have hZ := (show _ = T from hT2)
  rw [hC1] at hZ
  have lhC1 := congrArg List.length hC1
  simp only [List.length_append] at lhC1
  have lhZ := congrArg List.length hZ
  simp only [List.length_append] at lhZ
  have t1 := catv mod [46] _ hC1 (by omega)
  have t2 := catv C1 name _ hZ (by omega)
  clear lhC1 lhZ hC1 hZ hT2
  go_enter Tryz.func92, Tryz.ntmps92
  go_wp2_with fail
  go_ret
  exact ⟨rfl, f0⟩
set_option maxRecDepth 20000 in
set_option maxHeartbeats 4000000 in
theorem bare_4 (op vt vb : Int) (mod name : Bs) (k : Exs) (ih : ∀ h' k', k'.size < k.size → AtC h' k') (ao : Option Addr) (cap : Nat) (w : World) (T : Bs) (ho : OkE ⟨4, op, mod, name, vt, vb⟩) (hx : OkX k) (hsl : ShL k) (hk : ExL w ao cap k) (hT : Hidden (bare txS ⟨4, op, mod, name, vt, vb⟩ k = T)) (hl : T.length ≤ 9223372036854775807) :
    Calls Tryz.prog 92 #[exV ⟨4, op, mod, name, vt, vb⟩ (.slice ao k.len cap)] w fun e w' => e = .returned (ct T) ∧ Fr (fun _ => False) w w' := by
  have hbx : Hidden ((w.alloc (.cells #[ci 4, ci op, ct mod, ct name, ci vt, .int .u64 vb, .slice ao k.len cap] 59)).heap[w.heap.size]? = some (.cells #[ci 4, ci op, ct mod, ct name, ci vt, .int .u64 vb, .slice ao k.len cap] 59 (0, 0))) := alloc_new _ _
  have f0 : Fr (fun _ => False) w (w.alloc (.cells #[ci 4, ci op, ct mod, ct name, ci vt, .int .u64 vb, .slice ao k.len cap] 59)) := Fr.alloc _ _ _
  have hmax : cap ≤ 9223372036854775807 := by have := hk.2.1; unfold maxLen at this; omega
  have hcap := hk.1
  obtain ⟨K, hK⟩ : ∃ K, [40] ++ txK txS hc true k ++ [41] = K := ⟨_, rfl⟩
  have hT2 : Hidden (name ++ K = T) := by
    rw [← (show _ = T from hT), ← hK]
    simp [Hidden, bare, Te.pre, post, txK_call ⟨4, op, mod, name, vt, vb⟩ (by simp)]
  have hll : name.length + K.length = T.length := by rw [← (show _ = T from hT2)]; simp
  have kk := fun (w1 : World) (f : Fr (fun _ => False) w w1) => kids_step k ih ao cap w1 K hx hsl (hk.keep f) hK (by omega)
  clear hT hll hK
  have hZ := (show _ = T from hT2)
  have lhZ := congrArg List.length hZ
  simp only [List.length_append] at lhZ
  have t1 := catv name K _ hZ (by omega)
  clear lhZ hZ hT2
  obtain ⟨c0, c1, c2, c3, c4, c5, c6⟩ := ex_box hbx
  go_enter Tryz.func92, Tryz.ntmps92
  go_wp2_with fail
  refine wp_region_grow (by kernel_rfl) (by kernel_rfl) ?_
  (repeat (first | (refine grow_op (v := ?_) ?_ ?_ ?_; rotate_left; (focus (first | exact wanted_none rfl | (go_simp; done))); (focus (intro w' hw'; have c0 := hw'.cellN c0; have c1 := hw'.cellN c1; have c2 := hw'.cellN c2; have c3 := hw'.cellN c3; have c4 := hw'.cellN c4; have c5 := hw'.cellN c5; have c6 := hw'.cellN c6; (go_simp; first | with_reducible rfl | (go_at_call 137; refine calls_grow hw' ?_; first | (have q := kk _ (f0.same hw'); with_reducible exact q))))); (intro a' ha; simp only [Act.put, List.setIfInBounds_toArray, List.set_cons_zero, List.set_cons_succ] at ha; subst ha)) | (refine grow_no ?_ ?_; (focus (go_simp; done)); (intro a' ha; simp only [Act.put, List.setIfInBounds_toArray, List.set_cons_zero, List.set_cons_succ] at ha; subst ha)))); refine grow_nil ?_; intro w1 k1
  go_wp2_with fail
  go_ret
  exact ⟨rfl, f0.same k1⟩
set_option maxRecDepth 20000 in
set_option maxHeartbeats 4000000 in
theorem bare_5 (op vt vb : Int) (mod name : Bs) (k : Exs) (ih : ∀ h' k', k'.size < k.size → AtC h' k') (ao : Option Addr) (cap : Nat) (w : World) (T : Bs) (ho : OkE ⟨5, op, mod, name, vt, vb⟩) (hx : OkX k) (hsl : ShL k) (hk : ExL w ao cap k) (hT : Hidden (bare txS ⟨5, op, mod, name, vt, vb⟩ k = T)) (hl : T.length ≤ 9223372036854775807) :
    Calls Tryz.prog 92 #[exV ⟨5, op, mod, name, vt, vb⟩ (.slice ao k.len cap)] w fun e w' => e = .returned (ct T) ∧ Fr (fun _ => False) w w' := by
  have hbx : Hidden ((w.alloc (.cells #[ci 5, ci op, ct mod, ct name, ci vt, .int .u64 vb, .slice ao k.len cap] 59)).heap[w.heap.size]? = some (.cells #[ci 5, ci op, ct mod, ct name, ci vt, .int .u64 vb, .slice ao k.len cap] 59 (0, 0))) := alloc_new _ _
  have f0 : Fr (fun _ => False) w (w.alloc (.cells #[ci 5, ci op, ct mod, ct name, ci vt, .int .u64 vb, .slice ao k.len cap] 59)) := Fr.alloc _ _ _
  have hmax : cap ≤ 9223372036854775807 := by have := hk.2.1; unfold maxLen at this; omega
  have hcap := hk.1
  obtain ⟨K, hK⟩ : ∃ K, [40] ++ txK txS hc true k ++ [41] = K := ⟨_, rfl⟩
  have hT2 : Hidden (mod ++ [46] ++ name ++ K = T) := by
    rw [← (show _ = T from hT), ← hK]
    simp [Hidden, bare, Te.pre, post, txK_call ⟨5, op, mod, name, vt, vb⟩ (by simp)]
  have hll : mod.length + 1 + name.length + K.length = T.length := by rw [← (show _ = T from hT2)]; simp; omega
  have kk := fun (w1 : World) (f : Fr (fun _ => False) w w1) => kids_step k ih ao cap w1 K hx hsl (hk.keep f) hK (by omega)
  clear hT hll hK
  obtain ⟨C1, hC1⟩ : ∃ C, mod ++ [46] = C := ⟨_, rfl⟩
  obtain ⟨C2, hC2⟩ : ∃ C, C1 ++ name = C := ⟨_, rfl⟩
  have hZ := (show _ = T from hT2)
  rw [hC1] at hZ
  rw [hC2] at hZ
  have lhC1 := congrArg List.length hC1
  simp only [List.length_append] at lhC1
  have lhC2 := congrArg List.length hC2
  simp only [List.length_append] at lhC2
  have lhZ := congrArg List.length hZ
  simp only [List.length_append] at lhZ
  have t1 := catv mod [46] _ hC1 (by omega)
  have t2 := catv C1 name _ hC2 (by omega)
  have t3 := catv C2 K _ hZ (by omega)
  clear lhC1 lhC2 lhZ hC1 hC2 hZ hT2
  obtain ⟨c0, c1, c2, c3, c4, c5, c6⟩ := ex_box hbx
  go_enter Tryz.func92, Tryz.ntmps92
  go_wp2_with fail
  refine wp_region_grow (by kernel_rfl) (by kernel_rfl) ?_
  (repeat (first | (refine grow_op (v := ?_) ?_ ?_ ?_; rotate_left; (focus (first | exact wanted_none rfl | (go_simp; done))); (focus (intro w' hw'; have c0 := hw'.cellN c0; have c1 := hw'.cellN c1; have c2 := hw'.cellN c2; have c3 := hw'.cellN c3; have c4 := hw'.cellN c4; have c5 := hw'.cellN c5; have c6 := hw'.cellN c6; (go_simp; first | with_reducible rfl | (go_at_call 137; refine calls_grow hw' ?_; first | (have q := kk _ (f0.same hw'); with_reducible exact q))))); (intro a' ha; simp only [Act.put, List.setIfInBounds_toArray, List.set_cons_zero, List.set_cons_succ] at ha; subst ha)) | (refine grow_no ?_ ?_; (focus (go_simp; done)); (intro a' ha; simp only [Act.put, List.setIfInBounds_toArray, List.set_cons_zero, List.set_cons_succ] at ha; subst ha)))); refine grow_nil ?_; intro w1 k1
  go_wp2_with fail
  go_ret
  exact ⟨rfl, f0.same k1⟩
set_option maxRecDepth 20000 in
set_option maxHeartbeats 4000000 in
theorem bare_61 (vt vb : Int) (mod name : Bs) (k : Exs) (ih : ∀ h' k', k'.size < k.size → AtC h' k') (ao : Option Addr) (cap : Nat) (w : World) (T : Bs) (ho : OkE ⟨6, 1, mod, name, vt, vb⟩) (hx : OkX k) (hsl : ShL k) (hk : ExL w ao cap k) (hT : Hidden (bare txS ⟨6, 1, mod, name, vt, vb⟩ k = T)) (hl : T.length ≤ 9223372036854775807) (h1 : k.len = 1) :
    Calls Tryz.prog 92 #[exV ⟨6, 1, mod, name, vt, vb⟩ (.slice ao k.len cap)] w fun e w' => e = .returned (ct T) ∧ Fr (fun _ => False) w w' := by
  have hbx : Hidden ((w.alloc (.cells #[ci 6, ci 1, ct mod, ct name, ci vt, .int .u64 vb, .slice ao k.len cap] 59)).heap[w.heap.size]? = some (.cells #[ci 6, ci 1, ct mod, ct name, ci vt, .int .u64 vb, .slice ao k.len cap] 59 (0, 0))) := alloc_new _ _
  have f0 : Fr (fun _ => False) w (w.alloc (.cells #[ci 6, ci 1, ct mod, ct name, ci vt, .int .u64 vb, .slice ao k.len cap] 59)) := Fr.alloc _ _ _
  have hmax : cap ≤ 9223372036854775807 := by have := hk.2.1; unfold maxLen at this; omega
  have hcap := hk.1
  cases k with
  | nil => simp [Exs.len] at h1
  | cons h' k' r' =>
    obtain rfl : r' = .nil := by
      cases r' with
      | nil => rfl
      | cons _ _ _ => simp [Exs.len] at h1
    obtain ⟨A, hA⟩ : ∃ A, txA txS h' k' 6 = A := ⟨_, rfl⟩
    have hT2 : Hidden ([45] ++ A = T) := by
      rw [← (show _ = T from hT), ← hA]
      simp [Hidden, bare, Te.pre, post, txK, txA, kidL]
    have hll : 1 + A.length = T.length := by rw [← (show _ = T from hT2)]; simp; try omega
    obtain ⟨b, off, ao', cap', rfl, hL, _, d0, d1, d2, d3, d4, d5, d6⟩ := hk.rest.next
    simp only [Nat.zero_mul, Nat.add_zero] at d0 d1 d2 d3 d4 d5 d6
    have d0 := f0.cellN d0
    have d1 := f0.cellN d1
    have d2 := f0.cellN d2
    have d3 := f0.cellN d3
    have d4 := f0.cellN d4
    have d5 := f0.cellN d5
    have d6 := f0.cellN d6
    have ke := ih h' k' (by simp [Exs.size]) 6 ao' cap' _ A hx.1 hx.2.1 hsl.1 hsl.2.1 (hL.keep f0) hA (by omega)
    rw [h1] at ke d0 d1 d2 d3 d4 d5 d6 f0 hcap ⊢
    clear hT hll hA hbx
    have hZ := (show _ = T from hT2)
    have lhZ := congrArg List.length hZ
    simp only [List.length_append] at lhZ
    have t1 := catv [45] A _ hZ (by omega)
    clear lhZ hZ hT2
    go_enter Tryz.func92, Tryz.ntmps92
    go_wp2_with fail
    go_at_call 43
    refine ke.mono ?_
    rintro e w1 ⟨rfl, f1⟩
    go_wp2_with fail
    go_ret
    exact ⟨rfl, f0.same f1⟩
set_option maxRecDepth 20000 in
set_option maxHeartbeats 4000000 in
theorem bare_62 (vt vb : Int) (mod name : Bs) (k : Exs) (ih : ∀ h' k', k'.size < k.size → AtC h' k') (ao : Option Addr) (cap : Nat) (w : World) (T : Bs) (ho : OkE ⟨6, 2, mod, name, vt, vb⟩) (hx : OkX k) (hsl : ShL k) (hk : ExL w ao cap k) (hT : Hidden (bare txS ⟨6, 2, mod, name, vt, vb⟩ k = T)) (hl : T.length ≤ 9223372036854775807) (h1 : k.len = 1) :
    Calls Tryz.prog 92 #[exV ⟨6, 2, mod, name, vt, vb⟩ (.slice ao k.len cap)] w fun e w' => e = .returned (ct T) ∧ Fr (fun _ => False) w w' := by
  have hbx : Hidden ((w.alloc (.cells #[ci 6, ci 2, ct mod, ct name, ci vt, .int .u64 vb, .slice ao k.len cap] 59)).heap[w.heap.size]? = some (.cells #[ci 6, ci 2, ct mod, ct name, ci vt, .int .u64 vb, .slice ao k.len cap] 59 (0, 0))) := alloc_new _ _
  have f0 : Fr (fun _ => False) w (w.alloc (.cells #[ci 6, ci 2, ct mod, ct name, ci vt, .int .u64 vb, .slice ao k.len cap] 59)) := Fr.alloc _ _ _
  have hmax : cap ≤ 9223372036854775807 := by have := hk.2.1; unfold maxLen at this; omega
  have hcap := hk.1
  cases k with
  | nil => simp [Exs.len] at h1
  | cons h' k' r' =>
    obtain rfl : r' = .nil := by
      cases r' with
      | nil => rfl
      | cons _ _ _ => simp [Exs.len] at h1
    obtain ⟨A, hA⟩ : ∃ A, txA txS h' k' 6 = A := ⟨_, rfl⟩
    have hT2 : Hidden ([33] ++ A = T) := by
      rw [← (show _ = T from hT), ← hA]
      simp [Hidden, bare, Te.pre, post, txK, txA, kidL]
    have hll : 1 + A.length = T.length := by rw [← (show _ = T from hT2)]; simp; try omega
    obtain ⟨b, off, ao', cap', rfl, hL, _, d0, d1, d2, d3, d4, d5, d6⟩ := hk.rest.next
    simp only [Nat.zero_mul, Nat.add_zero] at d0 d1 d2 d3 d4 d5 d6
    have d0 := f0.cellN d0
    have d1 := f0.cellN d1
    have d2 := f0.cellN d2
    have d3 := f0.cellN d3
    have d4 := f0.cellN d4
    have d5 := f0.cellN d5
    have d6 := f0.cellN d6
    have ke := ih h' k' (by simp [Exs.size]) 6 ao' cap' _ A hx.1 hx.2.1 hsl.1 hsl.2.1 (hL.keep f0) hA (by omega)
    rw [h1] at ke d0 d1 d2 d3 d4 d5 d6 f0 hcap ⊢
    clear hT hll hA hbx
    have hZ := (show _ = T from hT2)
    have lhZ := congrArg List.length hZ
    simp only [List.length_append] at lhZ
    have t1 := catv [33] A _ hZ (by omega)
    clear lhZ hZ hT2
    go_enter Tryz.func92, Tryz.ntmps92
    go_wp2_with fail
    go_at_call 43
    refine ke.mono ?_
    rintro e w1 ⟨rfl, f1⟩
    go_wp2_with fail
    go_ret
    exact ⟨rfl, f0.same f1⟩
set_option maxRecDepth 20000 in
set_option maxHeartbeats 4000000 in
theorem bare_63 (vt vb : Int) (mod name : Bs) (k : Exs) (ih : ∀ h' k', k'.size < k.size → AtC h' k') (ao : Option Addr) (cap : Nat) (w : World) (T : Bs) (ho : OkE ⟨6, 3, mod, name, vt, vb⟩) (hx : OkX k) (hsl : ShL k) (hk : ExL w ao cap k) (hT : Hidden (bare txS ⟨6, 3, mod, name, vt, vb⟩ k = T)) (hl : T.length ≤ 9223372036854775807) (h1 : k.len = 1) :
    Calls Tryz.prog 92 #[exV ⟨6, 3, mod, name, vt, vb⟩ (.slice ao k.len cap)] w fun e w' => e = .returned (ct T) ∧ Fr (fun _ => False) w w' := by
  have hbx : Hidden ((w.alloc (.cells #[ci 6, ci 3, ct mod, ct name, ci vt, .int .u64 vb, .slice ao k.len cap] 59)).heap[w.heap.size]? = some (.cells #[ci 6, ci 3, ct mod, ct name, ci vt, .int .u64 vb, .slice ao k.len cap] 59 (0, 0))) := alloc_new _ _
  have f0 : Fr (fun _ => False) w (w.alloc (.cells #[ci 6, ci 3, ct mod, ct name, ci vt, .int .u64 vb, .slice ao k.len cap] 59)) := Fr.alloc _ _ _
  have hmax : cap ≤ 9223372036854775807 := by have := hk.2.1; unfold maxLen at this; omega
  have hcap := hk.1
  cases k with
  | nil => simp [Exs.len] at h1
  | cons h' k' r' =>
    obtain rfl : r' = .nil := by
      cases r' with
      | nil => rfl
      | cons _ _ _ => simp [Exs.len] at h1
    obtain ⟨A, hA⟩ : ∃ A, txA txS h' k' 1 = A := ⟨_, rfl⟩
    have hT2 : Hidden ([105, 110, 116, 40] ++ A ++ [41] = T) := by
      rw [← (show _ = T from hT), ← hA]
      simp [Hidden, bare, Te.pre, post, txK, txA, kidL]
    have hll : 4 + A.length + 1 = T.length := by rw [← (show _ = T from hT2)]; simp; try omega
    obtain ⟨b, off, ao', cap', rfl, hL, _, d0, d1, d2, d3, d4, d5, d6⟩ := hk.rest.next
    simp only [Nat.zero_mul, Nat.add_zero] at d0 d1 d2 d3 d4 d5 d6
    have d0 := f0.cellN d0
    have d1 := f0.cellN d1
    have d2 := f0.cellN d2
    have d3 := f0.cellN d3
    have d4 := f0.cellN d4
    have d5 := f0.cellN d5
    have d6 := f0.cellN d6
    have ke := ih h' k' (by simp [Exs.size]) 1 ao' cap' _ A hx.1 hx.2.1 hsl.1 hsl.2.1 (hL.keep f0) hA (by omega)
    rw [h1] at ke d0 d1 d2 d3 d4 d5 d6 f0 hcap ⊢
    clear hT hll hA hbx
    obtain ⟨C1, hC1⟩ : ∃ C, [105, 110, 116, 40] ++ A = C := ⟨_, rfl⟩
    have hZ := (show _ = T from hT2)
    rw [hC1] at hZ
    have lhC1 := congrArg List.length hC1
    simp only [List.length_append] at lhC1
    have lhZ := congrArg List.length hZ
    simp only [List.length_append] at lhZ
    have t1 := catv [105, 110, 116, 40] A _ hC1 (by omega)
    have t2 := catv C1 [41] _ hZ (by omega)
    clear lhC1 lhZ hC1 hZ hT2
    go_enter Tryz.func92, Tryz.ntmps92
    go_wp2_with fail
    go_at_call 43
    refine ke.mono ?_
    rintro e w1 ⟨rfl, f1⟩
    go_wp2_with fail
    go_ret
    exact ⟨rfl, f0.same f1⟩
set_option maxRecDepth 20000 in
set_option maxHeartbeats 4000000 in
theorem bare_64 (vt vb : Int) (mod name : Bs) (k : Exs) (ih : ∀ h' k', k'.size < k.size → AtC h' k') (ao : Option Addr) (cap : Nat) (w : World) (T : Bs) (ho : OkE ⟨6, 4, mod, name, vt, vb⟩) (hx : OkX k) (hsl : ShL k) (hk : ExL w ao cap k) (hT : Hidden (bare txS ⟨6, 4, mod, name, vt, vb⟩ k = T)) (hl : T.length ≤ 9223372036854775807) (h1 : k.len = 1) :
    Calls Tryz.prog 92 #[exV ⟨6, 4, mod, name, vt, vb⟩ (.slice ao k.len cap)] w fun e w' => e = .returned (ct T) ∧ Fr (fun _ => False) w w' := by
  have hbx : Hidden ((w.alloc (.cells #[ci 6, ci 4, ct mod, ct name, ci vt, .int .u64 vb, .slice ao k.len cap] 59)).heap[w.heap.size]? = some (.cells #[ci 6, ci 4, ct mod, ct name, ci vt, .int .u64 vb, .slice ao k.len cap] 59 (0, 0))) := alloc_new _ _
  have f0 : Fr (fun _ => False) w (w.alloc (.cells #[ci 6, ci 4, ct mod, ct name, ci vt, .int .u64 vb, .slice ao k.len cap] 59)) := Fr.alloc _ _ _
  have hmax : cap ≤ 9223372036854775807 := by have := hk.2.1; unfold maxLen at this; omega
  have hcap := hk.1
  cases k with
  | nil => simp [Exs.len] at h1
  | cons h' k' r' =>
    obtain rfl : r' = .nil := by
      cases r' with
      | nil => rfl
      | cons _ _ _ => simp [Exs.len] at h1
    obtain ⟨A, hA⟩ : ∃ A, txA txS h' k' 1 = A := ⟨_, rfl⟩
    have hT2 : Hidden ([102, 108, 111, 97, 116, 40] ++ A ++ [41] = T) := by
      rw [← (show _ = T from hT), ← hA]
      simp [Hidden, bare, Te.pre, post, txK, txA, kidL]
    have hll : 6 + A.length + 1 = T.length := by rw [← (show _ = T from hT2)]; simp; try omega
    obtain ⟨b, off, ao', cap', rfl, hL, _, d0, d1, d2, d3, d4, d5, d6⟩ := hk.rest.next
    simp only [Nat.zero_mul, Nat.add_zero] at d0 d1 d2 d3 d4 d5 d6
    have d0 := f0.cellN d0
    have d1 := f0.cellN d1
    have d2 := f0.cellN d2
    have d3 := f0.cellN d3
    have d4 := f0.cellN d4
    have d5 := f0.cellN d5
    have d6 := f0.cellN d6
    have ke := ih h' k' (by simp [Exs.size]) 1 ao' cap' _ A hx.1 hx.2.1 hsl.1 hsl.2.1 (hL.keep f0) hA (by omega)
    rw [h1] at ke d0 d1 d2 d3 d4 d5 d6 f0 hcap ⊢
    clear hT hll hA hbx
    obtain ⟨C1, hC1⟩ : ∃ C, [102, 108, 111, 97, 116, 40] ++ A = C := ⟨_, rfl⟩
    have hZ := (show _ = T from hT2)
    rw [hC1] at hZ
    have lhC1 := congrArg List.length hC1
    simp only [List.length_append] at lhC1
    have lhZ := congrArg List.length hZ
    simp only [List.length_append] at lhZ
    have t1 := catv [102, 108, 111, 97, 116, 40] A _ hC1 (by omega)
    have t2 := catv C1 [41] _ hZ (by omega)
    clear lhC1 lhZ hC1 hZ hT2
    go_enter Tryz.func92, Tryz.ntmps92
    go_wp2_with fail
    go_at_call 43
    refine ke.mono ?_
    rintro e w1 ⟨rfl, f1⟩
    go_wp2_with fail
    go_ret
    exact ⟨rfl, f0.same f1⟩
theorem left_fr (l r : Int) (hr : Hidden ((if l = 3 then 4 else l) = r)) (w : World) : Calls Tryz.prog 138 #[ci l] w fun e w' => e = .returned (ci r) ∧ Fr (fun _ => False) w w' := (left_any l r hr w).mono fun _ _ ⟨a, b⟩ => ⟨a, b ▸ Fr.refl _ _⟩
theorem right_fr (l r : Int) (h0 : 0 ≤ l) (h1 : l ≤ 7) (hr : Hidden (l + 1 = r)) (w : World) : Calls Tryz.prog 140 #[ci l] w fun e w' => e = .returned (ci r) ∧ Fr (fun _ => False) w w' := (right_any l r h0 h1 hr w).mono fun _ _ ⟨a, b⟩ => ⟨a, b ▸ Fr.refl _ _⟩
theorem lv2_low (op : Int) (h0 : 1 ≤ op) (h1 : op ≤ 13) : 1 ≤ lv2 op ∧ lv2 op ≤ 5 := by
  unfold lv2
  repeat' split
  all_goals omega
theorem side_l (own : Int) (h : own ≤ 5) : side own true = if own = 3 then 4 else own := by
  unfold side
  by_cases h3 : own = 3
  · subst h3; rfl
  · rw [if_neg (show ¬ own = 7 by omega), if_neg (by simp [h3]), if_neg h3]
theorem side_r (own : Int) (h : own ≤ 5) : side own false = own + 1 := by
  unfold side
  rw [if_neg (show ¬ own = 7 by omega), if_pos (Or.inl rfl)]
set_option maxRecDepth 20000 in
set_option maxHeartbeats 4000000 in
theorem bare_7 (op vt vb : Int) (mod name : Bs) (k : Exs) (ih : ∀ h' k', k'.size < k.size → AtC h' k') (ao : Option Addr) (cap : Nat) (w : World) (T : Bs) (ho : OkE ⟨7, op, mod, name, vt, vb⟩) (hx : OkX k) (hsl : ShL k) (hk : ExL w ao cap k) (hT : Hidden (bare txS ⟨7, op, mod, name, vt, vb⟩ k = T)) (hl : T.length ≤ 9223372036854775807) (h1 : k.len = 2) (q0 : 1 ≤ op) (q1 : op ≤ 13) :
    Calls Tryz.prog 92 #[exV ⟨7, op, mod, name, vt, vb⟩ (.slice ao k.len cap)] w fun e w' => e = .returned (ct T) ∧ Fr (fun _ => False) w w' := by
  have hbx : Hidden ((w.alloc (.cells #[ci 7, ci op, ct mod, ct name, ci vt, .int .u64 vb, .slice ao k.len cap] 59)).heap[w.heap.size]? = some (.cells #[ci 7, ci op, ct mod, ct name, ci vt, .int .u64 vb, .slice ao k.len cap] 59 (0, 0))) := alloc_new _ _
  have f0 : Fr (fun _ => False) w (w.alloc (.cells #[ci 7, ci op, ct mod, ct name, ci vt, .int .u64 vb, .slice ao k.len cap] 59)) := Fr.alloc _ _ _
  have hmax : cap ≤ 9223372036854775807 := by have := hk.2.1; unfold maxLen at this; omega
  have hcap := hk.1
  cases k with
  | nil => simp [Exs.len] at h1
  | cons h' k' r' =>
    cases r' with
    | nil => simp [Exs.len] at h1
    | cons h'' k'' r'' =>
      obtain rfl : r'' = .nil := by
        cases r'' with
        | nil => rfl
        | cons _ _ _ => simp [Exs.len] at h1
      have klev := fun w => level_any ⟨7, op, mod, name, vt, vb⟩ (.slice ao 2 cap) ⟨_, _, _, rfl⟩ (lv2 op) (by simp [Hidden, level]) w
      have hlow := lv2_low op q0 q1
      have km := fun w => mark_any op q0 q1 w
      obtain ⟨A, hA⟩ : ∃ A, txA txS h' k' (side (lv2 op) true) = A := ⟨_, rfl⟩
      obtain ⟨B, hB⟩ : ∃ B, txA txS h'' k'' (side (lv2 op) false) = B := ⟨_, rfl⟩
      have hT2 : Hidden (A ++ [32] ++ mk op ++ [32] ++ B = T) := by
        rw [← (show _ = T from hT), ← hA, ← hB]
        have hm := mark_mk op q0 q1
        simp [Hidden, bare, Te.pre, post, txK, txA, kidL, sep, hm]
      have hll : A.length + 1 + (mk op).length + 1 + B.length = T.length := by rw [← (show _ = T from hT2)]; simp; omega
      obtain ⟨b, off, ao1, cap1, rfl, hL1, hR, d0, d1, d2, d3, d4, d5, d6⟩ := hk.rest.next
      obtain ⟨b', off', ao2, cap2, hbb, hL2, _, x0, x1, x2, x3, x4, x5, x6⟩ := hR.next
      obtain ⟨rfl, rfl⟩ : b = b' ∧ off = off' := by simpa using hbb
      simp only [Nat.zero_mul, Nat.add_zero] at d0 d1 d2 d3 d4 d5 d6
      simp only [Nat.zero_add, Nat.one_mul] at x0 x1 x2 x3 x4 x5 x6
      have k1 := fun (w1 : World) (f : Fr (fun _ => False) w w1) => ih h' k' (by simp [Exs.size]; omega) _ ao1 cap1 w1 A hx.1 hx.2.1 hsl.1 hsl.2.1 (hL1.keep f) hA (by omega)
      have k2 := fun (w1 : World) (f : Fr (fun _ => False) w w1) => ih h'' k'' (by simp [Exs.size]; omega) _ ao2 cap2 w1 B hx.2.2.1 hx.2.2.2.1 hsl.2.2.1 hsl.2.2.2.1 (hL2.keep f) hB (by omega)
      rw [side_l _ hlow.2] at k1
      rw [side_r _ hlow.2] at k2
      generalize lv2 op = own at *
      have kle := fun w => left_fr own _ rfl w
      have kri := fun w => right_fr own _ (by omega) (by omega) rfl w
      rw [h1] at hbx f0 hcap ⊢
      generalize mk op = M at *
      clear hT hll hA hB hlow
      obtain ⟨C1, hC1⟩ : ∃ C, A ++ [32] = C := ⟨_, rfl⟩
      obtain ⟨C2, hC2⟩ : ∃ C, C1 ++ M = C := ⟨_, rfl⟩
      obtain ⟨C3, hC3⟩ : ∃ C, C2 ++ [32] = C := ⟨_, rfl⟩
      have hZ := (show _ = T from hT2)
      rw [hC1] at hZ
      rw [hC2] at hZ
      rw [hC3] at hZ
      have lhC1 := congrArg List.length hC1
      simp only [List.length_append] at lhC1
      have lhC2 := congrArg List.length hC2
      simp only [List.length_append] at lhC2
      have lhC3 := congrArg List.length hC3
      simp only [List.length_append] at lhC3
      have lhZ := congrArg List.length hZ
      simp only [List.length_append] at lhZ
      have t1 := catv A [32] _ hC1 (by omega)
      have t2 := catv C1 M _ hC2 (by omega)
      have t3 := catv C2 [32] _ hC3 (by omega)
      have t4 := catv C3 B _ hZ (by omega)
      clear lhC1 lhC2 lhC3 lhZ hC1 hC2 hC3 hZ hT2
      go_enter Tryz.func92, Tryz.ntmps92
      go_wp2_with fail
      go_at_call 91
      refine (klev _).mono ?_
      rintro e w1 ⟨rfl, f1⟩
      obtain ⟨c0, c1, c2, c3, c4, c5, c6⟩ := ex_box (f1.heap hbx (fun f => f))
      have d0 := (f0.same f1).cellN d0
      have x0 := (f0.same f1).cellN x0
      have d1 := (f0.same f1).cellN d1
      have x1 := (f0.same f1).cellN x1
      have d2 := (f0.same f1).cellN d2
      have x2 := (f0.same f1).cellN x2
      have d3 := (f0.same f1).cellN d3
      have x3 := (f0.same f1).cellN x3
      have d4 := (f0.same f1).cellN d4
      have x4 := (f0.same f1).cellN x4
      have d5 := (f0.same f1).cellN d5
      have x5 := (f0.same f1).cellN x5
      have d6 := (f0.same f1).cellN d6
      have x6 := (f0.same f1).cellN x6
      go_wp2_with fail
      refine wp_region_grow (by kernel_rfl) (by kernel_rfl) ?_
      (repeat (first | (refine grow_op (v := ?_) ?_ ?_ ?_; rotate_left; (focus (first | exact wanted_none rfl | (go_simp; done))); (focus (intro w' hw'; have c0 := hw'.cellN c0; have c1 := hw'.cellN c1; have c2 := hw'.cellN c2; have c3 := hw'.cellN c3; have c4 := hw'.cellN c4; have c5 := hw'.cellN c5; have c6 := hw'.cellN c6; have d0 := hw'.cellN d0; have d1 := hw'.cellN d1; have d2 := hw'.cellN d2; have d3 := hw'.cellN d3; have d4 := hw'.cellN d4; have d5 := hw'.cellN d5; have d6 := hw'.cellN d6; have x0 := hw'.cellN x0; have x1 := hw'.cellN x1; have x2 := hw'.cellN x2; have x3 := hw'.cellN x3; have x4 := hw'.cellN x4; have x5 := hw'.cellN x5; have x6 := hw'.cellN x6; (go_simp; first | with_reducible rfl | (go_at_call 138; refine calls_grow hw' ?_; first | (have q := kle w'; with_reducible exact q)) | (go_at_call 140; refine calls_grow hw' ?_; first | (have q := kri w'; with_reducible exact q)) | (go_at_call 139; refine calls_grow hw' ?_; first | (have q := km w'; with_reducible exact q)) | (go_at_call 43; refine calls_grow hw' ?_; first | (have q := k1 _ (f0.same (f1.same hw')); with_reducible exact q) | (have q := k2 _ (f0.same (f1.same hw')); with_reducible exact q))))); (intro a' ha; simp only [Act.put, List.setIfInBounds_toArray, List.set_cons_zero, List.set_cons_succ] at ha; subst ha)) | (refine grow_no ?_ ?_; (focus (go_simp; done)); (intro a' ha; simp only [Act.put, List.setIfInBounds_toArray, List.set_cons_zero, List.set_cons_succ] at ha; subst ha)))); refine grow_nil ?_; intro w3 kk3
      go_wp2_with fail
      all_goals
        go_ret
        exact ⟨rfl, (f0.same f1).same kk3⟩
set_option maxRecDepth 20000 in
set_option maxHeartbeats 4000000 in
theorem bare_8 (op vt vb : Int) (mod name : Bs) (k : Exs) (ih : ∀ h' k', k'.size < k.size → AtC h' k') (ao : Option Addr) (cap : Nat) (w : World) (T : Bs) (ho : OkE ⟨8, op, mod, name, vt, vb⟩) (hx : OkX k) (hsl : ShL k) (hk : ExL w ao cap k) (hT : Hidden (bare txS ⟨8, op, mod, name, vt, vb⟩ k = T)) (hl : T.length ≤ 9223372036854775807) (h0 : k.len = 0) :
    Calls Tryz.prog 92 #[exV ⟨8, op, mod, name, vt, vb⟩ (.slice ao k.len cap)] w fun e w' => e = .returned (ct T) ∧ Fr (fun _ => False) w w' := by
  have hbx : Hidden ((w.alloc (.cells #[ci 8, ci op, ct mod, ct name, ci vt, .int .u64 vb, .slice ao k.len cap] 59)).heap[w.heap.size]? = some (.cells #[ci 8, ci op, ct mod, ct name, ci vt, .int .u64 vb, .slice ao k.len cap] 59 (0, 0))) := alloc_new _ _
  have f0 : Fr (fun _ => False) w (w.alloc (.cells #[ci 8, ci op, ct mod, ct name, ci vt, .int .u64 vb, .slice ao k.len cap] 59)) := Fr.alloc _ _ _
  have hmax : cap ≤ 9223372036854775807 := by have := hk.2.1; unfold maxLen at this; omega
  have hcap := hk.1
  obtain rfl := len_nil h0
  obtain rfl : [105, 110, 112, 117, 116] = T := by rw [← (show _ = T from hT)]; simp [bare, Te.pre, post, txK]
  go_enter Tryz.func92, Tryz.ntmps92
  go_wp2_with fail
  go_ret
  exact ⟨rfl, f0⟩
theorem bare_step (h : EH) (k : Exs) (ih : ∀ h' k', k'.size < k.size → AtC h' k') : BareC h k := by
  intro ao cap w T ho hx hs hsl hk hT hl
  obtain ⟨kind, op, mod, name, vt, vb⟩ := h
  rcases hs with ⟨e, h1, h0⟩ | ⟨e, h0⟩ | ⟨e, h0⟩ | e | e | ⟨e, q0, q1, h1⟩ | ⟨e, q0, q1, h1⟩ | ⟨e, h0⟩
  · simp only at e; subst e; exact bare_1 op vt vb mod name k ih ao cap w T ho hx hsl hk hT hl h0 h1
  · simp only at e; subst e; exact bare_2 op vt vb mod name k ih ao cap w T ho hx hsl hk hT hl h0
  · simp only at e; subst e; exact bare_3 op vt vb mod name k ih ao cap w T ho hx hsl hk hT hl h0
  · simp only at e; subst e; exact bare_4 op vt vb mod name k ih ao cap w T ho hx hsl hk hT hl
  · simp only at e; subst e; exact bare_5 op vt vb mod name k ih ao cap w T ho hx hsl hk hT hl
  · simp only at e q0 q1; subst e
    obtain rfl | rfl | rfl | rfl : op = 1 ∨ op = 2 ∨ op = 3 ∨ op = 4 := by omega
    · exact bare_61 vt vb mod name k ih ao cap w T ho hx hsl hk hT hl h1
    · exact bare_62 vt vb mod name k ih ao cap w T ho hx hsl hk hT hl h1
    · exact bare_63 vt vb mod name k ih ao cap w T ho hx hsl hk hT hl h1
    · exact bare_64 vt vb mod name k ih ao cap w T ho hx hsl hk hT hl h1
  · simp only at e q0 q1; subst e; exact bare_7 op vt vb mod name k ih ao cap w T ho hx hsl hk hT hl h1 q0 q1
  · simp only at e; subst e; exact bare_8 op vt vb mod name k ih ao cap w T ho hx hsl hk hT hl h0
theorem at_any (h : EH) (k : Exs) : AtC h k := by
  have : ∀ (n : Nat) (h : EH) (k : Exs), k.size < n → AtC h k := by
    intro n
    induction n with
    | zero => intro h k hk; omega
    | succ n ih => intro h k hk; exact at_step h k (bare_step h k (fun h' k' hk' => ih h' k' (by omega)))
  exact this (k.size + 1) h k (by omega)
end Go.Proofs.YteijjaabngkbjaaGreatDoor.X
namespace Go.Proofs.YteijjaabngkbjaaGreatDoor
open Go.RowKit Te
set_option linter.unusedSimpArgs false
set_option linter.unusedVariables false
set_option maxRecDepth 20000 in
theorem type_is (t : Int) (ht : t = 0 ∨ t = 1 ∨ t = 2 ∨ t = 3) (w : World) :
    Calls Tryz.prog 80 #[ci t] w fun e w' => e = .returned (ct (tyT t)) ∧ w' = w := by
  rcases ht with rfl | rfl | rfl | rfl
  all_goals
    go_enter Tryz.func80, Tryz.ntmps80
    go_wp2
    go_ret
    exact ⟨rfl, rfl⟩
end Go.Proofs.YteijjaabngkbjaaGreatDoor
namespace Go.Proofs.YteijjaabngkbjaaGreatDoor
open Go.RowKit Te
set_option linter.unusedSimpArgs false
set_option linter.unusedVariables false
theorem line_new2 (n : Nat) (l : List Bs) (acc T : Bs) (w0 w : World) (B b : Nat) (hw : PW w0 B b acc w) (hn : n ≤ 1000000) (hl9 : l.length ≤ 1000000) (hT : acc ++ Te.pad n ++ l.flatten ++ [10] = T) (hl : T.length ≤ 140737488355328) :
    Calls Tryz.prog 37 #[bp b, ci (n : Int), .slice (some ⟨w.heap.size, 0, none⟩) l.length l.length] (w.alloc (.cells (l.map ct).toArray 9)) fun e w' => e = .returned (.tuple #[]) ∧ PWrote w0 B b T w w' :=
  (line_w n l w.heap.size acc T w0 _ B b (alloc_new _ _) (ne_pbld hw.bld) hn hl9 (hw.quiet (Fr.alloc _ _ _)) hT hl).mono fun e w' h => ⟨h.1, h.2.1, bs_then (Fr.alloc _ _ _) h.2.2⟩
set_option maxRecDepth 20000 in
set_option maxHeartbeats 1000000 in
theorem returns_none (n : Nat) (hn : n ≤ 1000000) (ao : Option Addr) (cap : Nat) (acc T : Bs) (w0 w : World) (B b : Nat) (hw : PW w0 B b acc w) (hT : Hidden (acc ++ (pad n ++ [114, 101, 116, 117, 114, 110, 59, 10]) = T)) (hl : T.length ≤ 140737488355328) :
    Calls Tryz.prog 171 #[bp b, .slice ao 0 cap, ci (n : Int)] w fun e w' => e = .returned (.tuple #[]) ∧ PWrote w0 B b T w w' := by
  have k := line_new2 n [[114, 101, 116, 117, 114, 110, 59]] acc T w0 w B b hw hn (by decide) (by rw [← (show _ = T from hT)]; simp) hl
  go_enter Tryz.func171, Tryz.ntmps171
  go_wp2_with fail
  go_at_call 37
  refine k.mono ?_
  rintro e w1 ⟨rfl, p1⟩
  go_wp2_with fail
  refine bodyPost_ret (results_none rfl _ _ _) rfl ?_
  exact ⟨rfl, p1⟩
set_option maxRecDepth 20000 in
set_option maxHeartbeats 1000000 in
theorem returns_one (n : Nat) (hn : n ≤ 1000000) (h : EH) (k : Exs) (b0 off cap : Nat) (ao1 : Option Addr) (cap1 : Nat) (acc T : Bs) (w0 w : World) (B b : Nat) (ht : F.Tab w) (ho : OkE h) (hx : OkX k) (hs : ShE h k.len) (hsl : ShL k)
    (hk : ExL w ao1 cap1 k) (h0 : w.cell? ⟨b0, off, none⟩ = some (ci h.kind)) (h1 : w.cell? ⟨b0, off + 1, none⟩ = some (ci h.op)) (h2 : w.cell? ⟨b0, off + 2, none⟩ = some (ct h.mod)) (h3 : w.cell? ⟨b0, off + 3, none⟩ = some (ct h.name)) (h4 : w.cell? ⟨b0, off + 4, none⟩ = some (ci h.vt)) (h5 : w.cell? ⟨b0, off + 5, none⟩ = some (.int .u64 h.vb)) (h6 : w.cell? ⟨b0, off + 6, none⟩ = some (.slice ao1 k.len cap1))
    (hw : PW w0 B b acc w) (hT : Hidden (acc ++ (pad n ++ ([114, 101, 116, 117, 114, 110, 32] ++ txA txS h k 1 ++ [59, 10])) = T)) (hl : T.length ≤ 140737488355328) :
    Calls Tryz.prog 171 #[bp b, .slice (some ⟨b0, off, none⟩) 1 cap, ci (n : Int)] w fun e w' => e = .returned (.tuple #[]) ∧ PWrote w0 B b T w w' := by
  have hlen : (txA txS h k 1).length ≤ 140737488355328 := by
    have := congrArg List.length (show _ = T from hT)
    simp only [List.length_append] at this
    omega
  have ke := exprText_any h k (exV h (.slice ao1 k.len cap1)) w ho hx hs hsl ⟨ao1, cap1, rfl, hk⟩ ht hlen
  generalize txA txS h k 1 = E at ke hT hlen
  go_enter Tryz.func171, Tryz.ntmps171
  go_wp2_with fail
  go_at_call 48
  refine ke.mono ?_
  rintro e w1 ⟨rfl, f1⟩
  have kl := line_new2 n [[114, 101, 116, 117, 114, 110, 32], E, [59]] acc T w0 w1 B b (hw.quiet f1) hn (by simp) (by rw [← (show _ = T from hT)]; simp) hl
  go_wp2_with fail
  go_at_call 37
  refine kl.mono ?_
  rintro e w2 ⟨rfl, p2, g2⟩
  go_wp2_with fail
  go_end0
  exact ⟨rfl, p2, bs_then f1 g2⟩
end Go.Proofs.YteijjaabngkbjaaGreatDoor
namespace Go.Proofs.YteijjaabngkbjaaGreatDoor
open Go.RowKit Te
set_option linter.unusedSimpArgs false
set_option linter.unusedVariables false
abbrev stO (k : Int) (name : Bs) (ev bv lv : Value) : Obj := .cells #[ci k, ct name, ev, bv, lv] 91 (0, 0)
def BlkW (k : Sts) (n : Nat) : Prop := ∀ (z : Int), z = (n : Int) → ∀ (ao : Option Addr) (cap : Nat) (w0 w : World) (B b : Nat) (acc T : Bs), StL w0 ao cap k → F.Tab w0 → PW w0 B b acc w → Hidden (acc ++ stT txS k n = T) → T.length ≤ 140737488355328 →
  Calls Tryz.prog 82 #[bp b, .slice ao k.len cap, ci z] w fun e w' => e = .returned (.tuple #[]) ∧ PWrote w0 B b T w w'
set_option maxRecDepth 20000 in
set_option maxHeartbeats 4000000 in
theorem stmt_6 (n : Nat) (hn : n ≤ 1000000) (name : Bs) (acc T : Bs) (w0 w : World) (B b : Nat) (ht : F.Tab w0) (hw : PW w0 B b acc w) (ao2 ao3 : Option Addr) (n2 n3 cap2 cap3 : Nat) (x : EH) (kx : Exs) (b0 off cap1 : Nat) (aok : Option Addr) (capk : Nat) (ho : OkE x) (hx : OkX kx) (hs : ShE x kx.len) (hsl : ShL kx)
    (hk : ExL w0 aok capk kx) (h0 : w0.cell? ⟨b0, off, none⟩ = some (ci x.kind)) (h1 : w0.cell? ⟨b0, off + 1, none⟩ = some (ci x.op)) (h2 : w0.cell? ⟨b0, off + 2, none⟩ = some (ct x.mod)) (h3 : w0.cell? ⟨b0, off + 3, none⟩ = some (ct x.name)) (h4 : w0.cell? ⟨b0, off + 4, none⟩ = some (ci x.vt)) (h5 : w0.cell? ⟨b0, off + 5, none⟩ = some (.int .u64 x.vb)) (h6 : w0.cell? ⟨b0, off + 6, none⟩ = some (.slice aok kx.len capk))
    (hT : Hidden (acc ++ (pad n ++ ([115, 104, 111, 119, 32] ++ txA txS x kx 1 ++ [59, 10])) = T)) (hl : T.length ≤ 140737488355328) :
    Calls Tryz.prog 129 #[bp b, stV ⟨6, name⟩ (.slice (some ⟨b0, off, none⟩) 1 cap1) (.slice ao2 n2 cap2) (.slice ao3 n3 cap3), ci (n : Int)] w fun e w' => e = .returned (.tuple #[]) ∧ PWrote w0 B b T w w' := by
  have f0 := Fr.alloc (fun _ => False) w (stO 6 name (.slice (some ⟨b0, off, none⟩) 1 cap1) (.slice ao2 n2 cap2) (.slice ao3 n3 cap3))
  have hbx : Hidden ((w.alloc (stO 6 name (.slice (some ⟨b0, off, none⟩) 1 cap1) (.slice ao2 n2 cap2) (.slice ao3 n3 cap3))).heap[w.heap.size]? = some (stO 6 name (.slice (some ⟨b0, off, none⟩) 1 cap1) (.slice ao2 n2 cap2) (.slice ao3 n3 cap3))) := alloc_new _ _
  have g0 := hw.fr.same f0
  have hne := ne_pbld hw.bld
  have d0 := g0.cellN h0
  have d1 := g0.cellN h1
  have d2 := g0.cellN h2
  have d3 := g0.cellN h3
  have d4 := g0.cellN h4
  have d5 := g0.cellN h5
  have d6 := g0.cellN h6
  have hlen : (txA txS x kx 1).length ≤ 140737488355328 := by
    have := congrArg List.length (show _ = T from hT)
    simp only [List.length_append] at this
    omega
  have ke := exprText_any x kx (exV x (.slice aok kx.len capk)) (w.alloc (stO 6 name (.slice (some ⟨b0, off, none⟩) 1 cap1) (.slice ao2 n2 cap2) (.slice ao3 n3 cap3))) ho hx hs hsl ⟨aok, capk, rfl, hk.keep g0⟩ (tab_fr ht g0) hlen
  generalize txA txS x kx 1 = E at ke hT hlen
  go_enter Tryz.func129, Tryz.ntmps129
  go_wp2_with fail
  go_at_call 48
  refine ke.mono ?_
  rintro e w1 ⟨rfl, f1⟩
  have kl := line_new2 n [[115, 104, 111, 119, 32], E, [59]] acc T w0 w1 B b (hw.quiet (f0.same f1)) hn (by simp) (by rw [← (show _ = T from hT)]; simp) hl
  go_wp2_with fail
  go_at_call 37
  refine kl.mono ?_
  rintro e w2 ⟨rfl, p2, g2⟩
  go_wp2_with fail
  go_end0
  exact ⟨rfl, p2, bs_then (f0.same f1) g2⟩
set_option maxRecDepth 20000 in
set_option maxHeartbeats 4000000 in
theorem stmt_7 (n : Nat) (hn : n ≤ 1000000) (name : Bs) (acc T : Bs) (w0 w : World) (B b : Nat) (ht : F.Tab w0) (hw : PW w0 B b acc w) (ao2 ao3 : Option Addr) (n2 n3 cap2 cap3 : Nat) (x : EH) (kx : Exs) (b0 off cap1 : Nat) (aok : Option Addr) (capk : Nat) (ho : OkE x) (hx : OkX kx) (hs : ShE x kx.len) (hsl : ShL kx)
    (hk : ExL w0 aok capk kx) (h0 : w0.cell? ⟨b0, off, none⟩ = some (ci x.kind)) (h1 : w0.cell? ⟨b0, off + 1, none⟩ = some (ci x.op)) (h2 : w0.cell? ⟨b0, off + 2, none⟩ = some (ct x.mod)) (h3 : w0.cell? ⟨b0, off + 3, none⟩ = some (ct x.name)) (h4 : w0.cell? ⟨b0, off + 4, none⟩ = some (ci x.vt)) (h5 : w0.cell? ⟨b0, off + 5, none⟩ = some (.int .u64 x.vb)) (h6 : w0.cell? ⟨b0, off + 6, none⟩ = some (.slice aok kx.len capk))
    (hT : Hidden (acc ++ (pad n ++ ([102, 97, 105, 108, 32] ++ txA txS x kx 1 ++ [59, 10])) = T)) (hl : T.length ≤ 140737488355328) :
    Calls Tryz.prog 129 #[bp b, stV ⟨7, name⟩ (.slice (some ⟨b0, off, none⟩) 1 cap1) (.slice ao2 n2 cap2) (.slice ao3 n3 cap3), ci (n : Int)] w fun e w' => e = .returned (.tuple #[]) ∧ PWrote w0 B b T w w' := by
  have f0 := Fr.alloc (fun _ => False) w (stO 7 name (.slice (some ⟨b0, off, none⟩) 1 cap1) (.slice ao2 n2 cap2) (.slice ao3 n3 cap3))
  have hbx : Hidden ((w.alloc (stO 7 name (.slice (some ⟨b0, off, none⟩) 1 cap1) (.slice ao2 n2 cap2) (.slice ao3 n3 cap3))).heap[w.heap.size]? = some (stO 7 name (.slice (some ⟨b0, off, none⟩) 1 cap1) (.slice ao2 n2 cap2) (.slice ao3 n3 cap3))) := alloc_new _ _
  have g0 := hw.fr.same f0
  have hne := ne_pbld hw.bld
  have d0 := g0.cellN h0
  have d1 := g0.cellN h1
  have d2 := g0.cellN h2
  have d3 := g0.cellN h3
  have d4 := g0.cellN h4
  have d5 := g0.cellN h5
  have d6 := g0.cellN h6
  have hlen : (txA txS x kx 1).length ≤ 140737488355328 := by
    have := congrArg List.length (show _ = T from hT)
    simp only [List.length_append] at this
    omega
  have ke := exprText_any x kx (exV x (.slice aok kx.len capk)) (w.alloc (stO 7 name (.slice (some ⟨b0, off, none⟩) 1 cap1) (.slice ao2 n2 cap2) (.slice ao3 n3 cap3))) ho hx hs hsl ⟨aok, capk, rfl, hk.keep g0⟩ (tab_fr ht g0) hlen
  generalize txA txS x kx 1 = E at ke hT hlen
  go_enter Tryz.func129, Tryz.ntmps129
  go_wp2_with fail
  go_at_call 48
  refine ke.mono ?_
  rintro e w1 ⟨rfl, f1⟩
  have kl := line_new2 n [[102, 97, 105, 108, 32], E, [59]] acc T w0 w1 B b (hw.quiet (f0.same f1)) hn (by simp) (by rw [← (show _ = T from hT)]; simp) hl
  go_wp2_with fail
  go_at_call 37
  refine kl.mono ?_
  rintro e w2 ⟨rfl, p2, g2⟩
  go_wp2_with fail
  go_end0
  exact ⟨rfl, p2, bs_then (f0.same f1) g2⟩
set_option maxRecDepth 20000 in
set_option maxHeartbeats 4000000 in
theorem stmt_9 (n : Nat) (hn : n ≤ 1000000) (name : Bs) (acc T : Bs) (w0 w : World) (B b : Nat) (ht : F.Tab w0) (hw : PW w0 B b acc w) (ao2 ao3 : Option Addr) (n2 n3 cap2 cap3 : Nat) (x : EH) (kx : Exs) (b0 off cap1 : Nat) (aok : Option Addr) (capk : Nat) (ho : OkE x) (hx : OkX kx) (hs : ShE x kx.len) (hsl : ShL kx)
    (hk : ExL w0 aok capk kx) (h0 : w0.cell? ⟨b0, off, none⟩ = some (ci x.kind)) (h1 : w0.cell? ⟨b0, off + 1, none⟩ = some (ci x.op)) (h2 : w0.cell? ⟨b0, off + 2, none⟩ = some (ct x.mod)) (h3 : w0.cell? ⟨b0, off + 3, none⟩ = some (ct x.name)) (h4 : w0.cell? ⟨b0, off + 4, none⟩ = some (ci x.vt)) (h5 : w0.cell? ⟨b0, off + 5, none⟩ = some (.int .u64 x.vb)) (h6 : w0.cell? ⟨b0, off + 6, none⟩ = some (.slice aok kx.len capk))
    (hT : Hidden (acc ++ (pad n ++ (txA txS x kx 1 ++ [59, 10])) = T)) (hl : T.length ≤ 140737488355328) :
    Calls Tryz.prog 129 #[bp b, stV ⟨9, name⟩ (.slice (some ⟨b0, off, none⟩) 1 cap1) (.slice ao2 n2 cap2) (.slice ao3 n3 cap3), ci (n : Int)] w fun e w' => e = .returned (.tuple #[]) ∧ PWrote w0 B b T w w' := by
  have f0 := Fr.alloc (fun _ => False) w (stO 9 name (.slice (some ⟨b0, off, none⟩) 1 cap1) (.slice ao2 n2 cap2) (.slice ao3 n3 cap3))
  have hbx : Hidden ((w.alloc (stO 9 name (.slice (some ⟨b0, off, none⟩) 1 cap1) (.slice ao2 n2 cap2) (.slice ao3 n3 cap3))).heap[w.heap.size]? = some (stO 9 name (.slice (some ⟨b0, off, none⟩) 1 cap1) (.slice ao2 n2 cap2) (.slice ao3 n3 cap3))) := alloc_new _ _
  have g0 := hw.fr.same f0
  have hne := ne_pbld hw.bld
  have d0 := g0.cellN h0
  have d1 := g0.cellN h1
  have d2 := g0.cellN h2
  have d3 := g0.cellN h3
  have d4 := g0.cellN h4
  have d5 := g0.cellN h5
  have d6 := g0.cellN h6
  have hlen : (txA txS x kx 1).length ≤ 140737488355328 := by
    have := congrArg List.length (show _ = T from hT)
    simp only [List.length_append] at this
    omega
  have ke := exprText_any x kx (exV x (.slice aok kx.len capk)) (w.alloc (stO 9 name (.slice (some ⟨b0, off, none⟩) 1 cap1) (.slice ao2 n2 cap2) (.slice ao3 n3 cap3))) ho hx hs hsl ⟨aok, capk, rfl, hk.keep g0⟩ (tab_fr ht g0) hlen
  generalize txA txS x kx 1 = E at ke hT hlen
  go_enter Tryz.func129, Tryz.ntmps129
  go_wp2_with fail
  go_at_call 48
  refine ke.mono ?_
  rintro e w1 ⟨rfl, f1⟩
  have kl := line_new2 n [E, [59]] acc T w0 w1 B b (hw.quiet (f0.same f1)) hn (by simp) (by rw [← (show _ = T from hT)]; simp) hl
  go_wp2_with fail
  go_at_call 37
  refine kl.mono ?_
  rintro e w2 ⟨rfl, p2, g2⟩
  go_wp2_with fail
  go_end0
  exact ⟨rfl, p2, bs_then (f0.same f1) g2⟩
set_option maxRecDepth 20000 in
set_option maxHeartbeats 4000000 in
theorem stmt_1 (n : Nat) (hn : n ≤ 1000000) (name : Bs) (acc T : Bs) (w0 w : World) (B b : Nat) (ht : F.Tab w0) (hw : PW w0 B b acc w) (ao2 ao3 : Option Addr) (n2 n3 cap2 cap3 : Nat) (x : EH) (kx : Exs) (b0 off cap1 : Nat) (aok : Option Addr) (capk : Nat) (ho : OkE x) (hx : OkX kx) (hs : ShE x kx.len) (hsl : ShL kx)
    (hk : ExL w0 aok capk kx) (h0 : w0.cell? ⟨b0, off, none⟩ = some (ci x.kind)) (h1 : w0.cell? ⟨b0, off + 1, none⟩ = some (ci x.op)) (h2 : w0.cell? ⟨b0, off + 2, none⟩ = some (ct x.mod)) (h3 : w0.cell? ⟨b0, off + 3, none⟩ = some (ct x.name)) (h4 : w0.cell? ⟨b0, off + 4, none⟩ = some (ci x.vt)) (h5 : w0.cell? ⟨b0, off + 5, none⟩ = some (.int .u64 x.vb)) (h6 : w0.cell? ⟨b0, off + 6, none⟩ = some (.slice aok kx.len capk))
    (hT : Hidden (acc ++ (pad n ++ ([108, 101, 116, 32] ++ name ++ [32, 61, 32] ++ txA txS x kx 1 ++ [59, 10])) = T)) (hl : T.length ≤ 140737488355328) :
    Calls Tryz.prog 129 #[bp b, stV ⟨1, name⟩ (.slice (some ⟨b0, off, none⟩) 1 cap1) (.slice ao2 n2 cap2) (.slice ao3 n3 cap3), ci (n : Int)] w fun e w' => e = .returned (.tuple #[]) ∧ PWrote w0 B b T w w' := by
  have f0 := Fr.alloc (fun _ => False) w (stO 1 name (.slice (some ⟨b0, off, none⟩) 1 cap1) (.slice ao2 n2 cap2) (.slice ao3 n3 cap3))
  have hbx : Hidden ((w.alloc (stO 1 name (.slice (some ⟨b0, off, none⟩) 1 cap1) (.slice ao2 n2 cap2) (.slice ao3 n3 cap3))).heap[w.heap.size]? = some (stO 1 name (.slice (some ⟨b0, off, none⟩) 1 cap1) (.slice ao2 n2 cap2) (.slice ao3 n3 cap3))) := alloc_new _ _
  have g0 := hw.fr.same f0
  have hne := ne_pbld hw.bld
  have hlen : (txA txS x kx 1).length ≤ 140737488355328 := by
    have := congrArg List.length (show _ = T from hT)
    simp only [List.length_append] at this
    omega
  have ke := fun (w1 : World) (f1 : Fr (fun _ => False) (w.alloc (stO 1 name (.slice (some ⟨b0, off, none⟩) 1 cap1) (.slice ao2 n2 cap2) (.slice ao3 n3 cap3))) w1) => exprText_any x kx (exV x (.slice aok kx.len capk)) w1 ho hx hs hsl ⟨aok, capk, rfl, hk.keep (g0.same f1)⟩ (tab_fr ht (g0.same f1)) hlen
  generalize txA txS x kx 1 = E at ke hT hlen
  have kl := fun (w1 : World) (f1 : Fr (fun _ => False) (w.alloc (stO 1 name (.slice (some ⟨b0, off, none⟩) 1 cap1) (.slice ao2 n2 cap2) (.slice ao3 n3 cap3))) w1) => line_new2 n [[108, 101, 116, 32], name, [32, 61, 32], E, [59]] acc T w0 w1 B b (hw.quiet (f0.same f1)) hn (by simp) (by rw [← (show _ = T from hT)]; simp) hl
  have hd0 : Fr (fun _ => False) (w.alloc (stO 1 name (.slice (some ⟨b0, off, none⟩) 1 cap1) (.slice ao2 n2 cap2) (.slice ao3 n3 cap3))) (w.alloc (stO 1 name (.slice (some ⟨b0, off, none⟩) 1 cap1) (.slice ao2 n2 cap2) (.slice ao3 n3 cap3))).drew := Fr.drew _ _
  obtain ⟨c0, c1, c2, c3, c4⟩ := st_box hbx
  have d0 := g0.cellN h0
  have d1 := g0.cellN h1
  have d2 := g0.cellN h2
  have d3 := g0.cellN h3
  have d4 := g0.cellN h4
  have d5 := g0.cellN h5
  have d6 := g0.cellN h6
  clear hT
  go_enter Tryz.func129, Tryz.ntmps129
  go_wp2_with fail
  go_region_held3 (fun w' => w'.cell? ⟨w.heap.size, 1, none⟩ = some (ct name) ∧ w'.cell? ⟨w.heap.size, 2, none⟩ = some (.slice (some ⟨b0, off, none⟩) 1 cap1) ∧ w'.cell? ⟨b0, off, none⟩ = some (ci x.kind) ∧ w'.cell? ⟨b0, off + 1, none⟩ = some (ci x.op) ∧ w'.cell? ⟨b0, off + 2, none⟩ = some (ct x.mod) ∧ w'.cell? ⟨b0, off + 3, none⟩ = some (ct x.name) ∧ w'.cell? ⟨b0, off + 4, none⟩ = some (ci x.vt) ∧ w'.cell? ⟨b0, off + 5, none⟩ = some (.int .u64 x.vb) ∧ w'.cell? ⟨b0, off + 6, none⟩ = some (.slice aok kx.len capk)) (first | (refine ⟨by assumption, by assumption, by assumption, by assumption, by assumption, by assumption, by assumption, by assumption, by assumption⟩) | go_keep) (first
    | (go_at_call 48; refine (ke _ hd0).mono ?_; rintro e wa ⟨rfl, fa⟩; have ga := hd0.same fa; have q1 := ga.cellN c1; have q2 := ga.cellN c2; have y0 := ga.cellN d0; have y1 := ga.cellN d1; have y2 := ga.cellN d2; have y3 := ga.cellN d3; have y4 := ga.cellN d4; have y5 := ga.cellN d5; have y6 := ga.cellN d6)
    | (go_at_call 37; refine (kl wa (hd0.same fa)).mono ?_; rintro e wz ⟨rfl, p2, g2⟩; obtain ⟨b0', b1', b2', b3', b4'⟩ := st_box (bs_keep g2 ((hd0.same fa).heap hbx (fun f => f)) hne (by decide)); have z0 := p2.fr.cellN h0; have z1 := p2.fr.cellN h1; have z2 := p2.fr.cellN h2; have z3 := p2.fr.cellN h3; have z4 := p2.fr.cellN h4; have z5 := p2.fr.cellN h5; have z6 := p2.fr.cellN h6))
  all_goals
    go_wp2_with fail
    go_end0
    exact ⟨rfl, p2, bs_then (f0.same (hd0.same fa)) g2⟩
set_option maxRecDepth 20000 in
set_option maxHeartbeats 4000000 in
theorem stmt_2 (n : Nat) (hn : n ≤ 1000000) (name : Bs) (acc T : Bs) (w0 w : World) (B b : Nat) (ht : F.Tab w0) (hw : PW w0 B b acc w) (ao2 ao3 : Option Addr) (n2 n3 cap2 cap3 : Nat) (x : EH) (kx : Exs) (b0 off cap1 : Nat) (aok : Option Addr) (capk : Nat) (ho : OkE x) (hx : OkX kx) (hs : ShE x kx.len) (hsl : ShL kx)
    (hk : ExL w0 aok capk kx) (h0 : w0.cell? ⟨b0, off, none⟩ = some (ci x.kind)) (h1 : w0.cell? ⟨b0, off + 1, none⟩ = some (ci x.op)) (h2 : w0.cell? ⟨b0, off + 2, none⟩ = some (ct x.mod)) (h3 : w0.cell? ⟨b0, off + 3, none⟩ = some (ct x.name)) (h4 : w0.cell? ⟨b0, off + 4, none⟩ = some (ci x.vt)) (h5 : w0.cell? ⟨b0, off + 5, none⟩ = some (.int .u64 x.vb)) (h6 : w0.cell? ⟨b0, off + 6, none⟩ = some (.slice aok kx.len capk))
    (hT : Hidden (acc ++ (pad n ++ (name ++ [32, 61, 32] ++ txA txS x kx 1 ++ [59, 10])) = T)) (hl : T.length ≤ 140737488355328) :
    Calls Tryz.prog 129 #[bp b, stV ⟨2, name⟩ (.slice (some ⟨b0, off, none⟩) 1 cap1) (.slice ao2 n2 cap2) (.slice ao3 n3 cap3), ci (n : Int)] w fun e w' => e = .returned (.tuple #[]) ∧ PWrote w0 B b T w w' := by
  have f0 := Fr.alloc (fun _ => False) w (stO 2 name (.slice (some ⟨b0, off, none⟩) 1 cap1) (.slice ao2 n2 cap2) (.slice ao3 n3 cap3))
  have hbx : Hidden ((w.alloc (stO 2 name (.slice (some ⟨b0, off, none⟩) 1 cap1) (.slice ao2 n2 cap2) (.slice ao3 n3 cap3))).heap[w.heap.size]? = some (stO 2 name (.slice (some ⟨b0, off, none⟩) 1 cap1) (.slice ao2 n2 cap2) (.slice ao3 n3 cap3))) := alloc_new _ _
  have g0 := hw.fr.same f0
  have hne := ne_pbld hw.bld
  have hlen : (txA txS x kx 1).length ≤ 140737488355328 := by
    have := congrArg List.length (show _ = T from hT)
    simp only [List.length_append] at this
    omega
  have ke := fun (w1 : World) (f1 : Fr (fun _ => False) (w.alloc (stO 2 name (.slice (some ⟨b0, off, none⟩) 1 cap1) (.slice ao2 n2 cap2) (.slice ao3 n3 cap3))) w1) => exprText_any x kx (exV x (.slice aok kx.len capk)) w1 ho hx hs hsl ⟨aok, capk, rfl, hk.keep (g0.same f1)⟩ (tab_fr ht (g0.same f1)) hlen
  generalize txA txS x kx 1 = E at ke hT hlen
  have kl := fun (w1 : World) (f1 : Fr (fun _ => False) (w.alloc (stO 2 name (.slice (some ⟨b0, off, none⟩) 1 cap1) (.slice ao2 n2 cap2) (.slice ao3 n3 cap3))) w1) => line_new2 n [name, [32, 61, 32], E, [59]] acc T w0 w1 B b (hw.quiet (f0.same f1)) hn (by simp) (by rw [← (show _ = T from hT)]; simp) hl
  have hd0 : Fr (fun _ => False) (w.alloc (stO 2 name (.slice (some ⟨b0, off, none⟩) 1 cap1) (.slice ao2 n2 cap2) (.slice ao3 n3 cap3))) (w.alloc (stO 2 name (.slice (some ⟨b0, off, none⟩) 1 cap1) (.slice ao2 n2 cap2) (.slice ao3 n3 cap3))).drew := Fr.drew _ _
  obtain ⟨c0, c1, c2, c3, c4⟩ := st_box hbx
  have d0 := g0.cellN h0
  have d1 := g0.cellN h1
  have d2 := g0.cellN h2
  have d3 := g0.cellN h3
  have d4 := g0.cellN h4
  have d5 := g0.cellN h5
  have d6 := g0.cellN h6
  clear hT
  go_enter Tryz.func129, Tryz.ntmps129
  go_wp2_with fail
  go_region_held3 (fun w' => w'.cell? ⟨w.heap.size, 1, none⟩ = some (ct name) ∧ w'.cell? ⟨w.heap.size, 2, none⟩ = some (.slice (some ⟨b0, off, none⟩) 1 cap1) ∧ w'.cell? ⟨b0, off, none⟩ = some (ci x.kind) ∧ w'.cell? ⟨b0, off + 1, none⟩ = some (ci x.op) ∧ w'.cell? ⟨b0, off + 2, none⟩ = some (ct x.mod) ∧ w'.cell? ⟨b0, off + 3, none⟩ = some (ct x.name) ∧ w'.cell? ⟨b0, off + 4, none⟩ = some (ci x.vt) ∧ w'.cell? ⟨b0, off + 5, none⟩ = some (.int .u64 x.vb) ∧ w'.cell? ⟨b0, off + 6, none⟩ = some (.slice aok kx.len capk)) (first | (refine ⟨by assumption, by assumption, by assumption, by assumption, by assumption, by assumption, by assumption, by assumption, by assumption⟩) | go_keep) (first
    | (go_at_call 48; refine (ke _ hd0).mono ?_; rintro e wa ⟨rfl, fa⟩; have ga := hd0.same fa; have q1 := ga.cellN c1; have q2 := ga.cellN c2; have y0 := ga.cellN d0; have y1 := ga.cellN d1; have y2 := ga.cellN d2; have y3 := ga.cellN d3; have y4 := ga.cellN d4; have y5 := ga.cellN d5; have y6 := ga.cellN d6)
    | (go_at_call 37; refine (kl wa (hd0.same fa)).mono ?_; rintro e wz ⟨rfl, p2, g2⟩; obtain ⟨b0', b1', b2', b3', b4'⟩ := st_box (bs_keep g2 ((hd0.same fa).heap hbx (fun f => f)) hne (by decide)); have z0 := p2.fr.cellN h0; have z1 := p2.fr.cellN h1; have z2 := p2.fr.cellN h2; have z3 := p2.fr.cellN h3; have z4 := p2.fr.cellN h4; have z5 := p2.fr.cellN h5; have z6 := p2.fr.cellN h6))
  all_goals
    go_wp2_with fail
    go_end0
    exact ⟨rfl, p2, bs_then (f0.same (hd0.same fa)) g2⟩
end Go.Proofs.YteijjaabngkbjaaGreatDoor
namespace Go.Proofs.YteijjaabngkbjaaGreatDoor
open Go.RowKit Te
set_option linter.unusedSimpArgs false
set_option linter.unusedVariables false
set_option maxRecDepth 20000 in
set_option maxHeartbeats 4000000 in
theorem stmt_4 (n : Nat) (hn : n ≤ 1000000) (name : Bs) (acc T : Bs) (w0 w : World) (B b : Nat) (ht : F.Tab w0) (hw : PW w0 B b acc w) (ao2 ao3 : Option Addr) (bo el : Sts) (cap2 cap3 : Nat) (x : EH) (kx : Exs) (b0 off cap1 : Nat) (aok : Option Addr) (capk : Nat) (ho : OkE x) (hx : OkX kx) (hs : ShE x kx.len) (hsl : ShL kx)
    (hk : ExL w0 aok capk kx) (h0 : w0.cell? ⟨b0, off, none⟩ = some (ci x.kind)) (h1 : w0.cell? ⟨b0, off + 1, none⟩ = some (ci x.op)) (h2 : w0.cell? ⟨b0, off + 2, none⟩ = some (ct x.mod)) (h3 : w0.cell? ⟨b0, off + 3, none⟩ = some (ct x.name)) (h4 : w0.cell? ⟨b0, off + 4, none⟩ = some (ci x.vt)) (h5 : w0.cell? ⟨b0, off + 5, none⟩ = some (.int .u64 x.vb)) (h6 : w0.cell? ⟨b0, off + 6, none⟩ = some (.slice aok kx.len capk))
    (hB : BlkW bo (n + 1)) (hbo : StL w0 ao2 cap2 bo)
    (hT : Hidden (acc ++ (pad n ++ ([119, 104, 105, 108, 101, 32] ++ txA txS x kx 1 ++ [32, 123, 10]) ++ stT txS bo (n + 1) ++ (pad n ++ [125, 10])) = T)) (hl : T.length ≤ 140737488355328) :
    Calls Tryz.prog 129 #[bp b, stV ⟨4, name⟩ (.slice (some ⟨b0, off, none⟩) 1 cap1) (.slice ao2 bo.len cap2) (.slice ao3 el.len cap3), ci (n : Int)] w fun e w' => e = .returned (.tuple #[]) ∧ PWrote w0 B b T w w' := by
  have f0 := Fr.alloc (fun _ => False) w (stO 4 name (.slice (some ⟨b0, off, none⟩) 1 cap1) (.slice ao2 bo.len cap2) (.slice ao3 el.len cap3))
  have hbx : Hidden ((w.alloc (stO 4 name (.slice (some ⟨b0, off, none⟩) 1 cap1) (.slice ao2 bo.len cap2) (.slice ao3 el.len cap3))).heap[w.heap.size]? = some (stO 4 name (.slice (some ⟨b0, off, none⟩) 1 cap1) (.slice ao2 bo.len cap2) (.slice ao3 el.len cap3))) := alloc_new _ _
  have g0 := hw.fr.same f0
  have hne := ne_pbld hw.bld
  have d0 := g0.cellN h0
  have d1 := g0.cellN h1
  have d2 := g0.cellN h2
  have d3 := g0.cellN h3
  have d4 := g0.cellN h4
  have d5 := g0.cellN h5
  have d6 := g0.cellN h6
  have hlen : (txA txS x kx 1).length ≤ 140737488355328 := by
    have := congrArg List.length (show _ = T from hT)
    simp only [List.length_append] at this
    omega
  have ke := exprText_any x kx (exV x (.slice aok kx.len capk)) (w.alloc (stO 4 name (.slice (some ⟨b0, off, none⟩) 1 cap1) (.slice ao2 bo.len cap2) (.slice ao3 el.len cap3))) ho hx hs hsl ⟨aok, capk, rfl, hk.keep g0⟩ (tab_fr ht g0) hlen
  generalize txA txS x kx 1 = E at ke hT hlen
  have m2 : cap2 ≤ 9223372036854775807 := by have := hbo.2.1; unfold maxLen at this; omega
  have m2' := hbo.1
  obtain ⟨T1, hT1'⟩ : ∃ T1, acc ++ Te.pad n ++ [[119, 104, 105, 108, 101, 32], E, [32, 123]].flatten ++ [10] = T1 := ⟨_, rfl⟩
  have hT1 : Hidden (acc ++ Te.pad n ++ [[119, 104, 105, 108, 101, 32], E, [32, 123]].flatten ++ [10] = T1) := hT1'
  clear hT1'
  have rT1 : Hidden (T1 ++ (stT txS bo (n + 1) ++ (pad n ++ [125, 10])) = T) := by
    show _ = T
    rw [← (show _ = T from hT), ← (show _ = T1 from hT1)]
    simp
  have lT1 : T1.length ≤ 140737488355328 := app_le (show _ = T from rT1) hl
  obtain ⟨T2, hT2'⟩ : ∃ T2, T1 ++ stT txS bo (n + 1) = T2 := ⟨_, rfl⟩
  have hT2 : Hidden (T1 ++ stT txS bo (n + 1) = T2) := hT2'
  clear hT2'
  have rT2 : Hidden (T2 ++ (pad n ++ [125, 10]) = T) := by
    show _ = T
    rw [← (show _ = T from rT1), ← (show _ = T2 from hT2)]
    simp
  have lT2 : T2.length ≤ 140737488355328 := app_le (show _ = T from rT2) hl
  clear hT
  go_enter Tryz.func129, Tryz.ntmps129
  go_wp2_with fail
  go_at_call 48
  refine ke.mono ?_
  rintro e w1 ⟨rfl, f1⟩
  have kl := line_new2 n [[119, 104, 105, 108, 101, 32], E, [32, 123]] acc T1 w0 w1 B b (hw.quiet (f0.same f1)) hn (by simp) (hT1) lT1
  go_wp2_with fail
  go_at_call 37
  refine kl.mono ?_
  rintro e w2 ⟨rfl, p2, g2⟩
  obtain ⟨c0, c1, c2, c3, c4⟩ := st_box (bs_keep g2 (f1.heap hbx (fun f => f)) hne (by decide))
  have kbw3 := hB ((n : Int) + 1) (by omega) ao2 cap2 w0 w2 B b T1 T2 hbo ht p2 hT2 lT2
  go_wp2_with fail
  go_at_call 82
  refine kbw3.mono ?_
  rintro e w3 ⟨rfl, pw3, g3⟩
  have kz := line_new2 n [[125]] T2 T w0 w3 B b (pw3) hn (by simp) (by rw [← (show _ = T from rT2)]; simp) hl
  go_wp2_with fail
  go_at_call 37
  refine kz.mono ?_
  rintro e w4 ⟨rfl, p4, g4⟩
  go_wp2_with fail
  go_end0
  exact ⟨rfl, p4, bs_then (f0.same f1) (bs_trans g2 (bs_trans g3 g4))⟩
set_option maxRecDepth 20000 in
set_option maxHeartbeats 4000000 in
theorem stmt_3a (n : Nat) (hn : n ≤ 1000000) (name : Bs) (acc T : Bs) (w0 w : World) (B b : Nat) (ht : F.Tab w0) (hw : PW w0 B b acc w) (ao2 ao3 : Option Addr) (bo el : Sts) (cap2 cap3 : Nat) (x : EH) (kx : Exs) (b0 off cap1 : Nat) (aok : Option Addr) (capk : Nat) (ho : OkE x) (hx : OkX kx) (hs : ShE x kx.len) (hsl : ShL kx)
    (hk : ExL w0 aok capk kx) (h0 : w0.cell? ⟨b0, off, none⟩ = some (ci x.kind)) (h1 : w0.cell? ⟨b0, off + 1, none⟩ = some (ci x.op)) (h2 : w0.cell? ⟨b0, off + 2, none⟩ = some (ct x.mod)) (h3 : w0.cell? ⟨b0, off + 3, none⟩ = some (ct x.name)) (h4 : w0.cell? ⟨b0, off + 4, none⟩ = some (ci x.vt)) (h5 : w0.cell? ⟨b0, off + 5, none⟩ = some (.int .u64 x.vb)) (h6 : w0.cell? ⟨b0, off + 6, none⟩ = some (.slice aok kx.len capk))
    (hB : BlkW bo (n + 1)) (hbo : StL w0 ao2 cap2 bo) (hz : el.len = 0)
    (hT : Hidden (acc ++ (pad n ++ ([105, 102, 32] ++ txA txS x kx 1 ++ [32, 123, 10]) ++ stT txS bo (n + 1) ++ (pad n ++ [125, 10])) = T)) (hl : T.length ≤ 140737488355328) :
    Calls Tryz.prog 129 #[bp b, stV ⟨3, name⟩ (.slice (some ⟨b0, off, none⟩) 1 cap1) (.slice ao2 bo.len cap2) (.slice ao3 el.len cap3), ci (n : Int)] w fun e w' => e = .returned (.tuple #[]) ∧ PWrote w0 B b T w w' := by
  rw [hz]
  have f0 := Fr.alloc (fun _ => False) w (stO 3 name (.slice (some ⟨b0, off, none⟩) 1 cap1) (.slice ao2 bo.len cap2) (.slice ao3 0 cap3))
  have hbx : Hidden ((w.alloc (stO 3 name (.slice (some ⟨b0, off, none⟩) 1 cap1) (.slice ao2 bo.len cap2) (.slice ao3 0 cap3))).heap[w.heap.size]? = some (stO 3 name (.slice (some ⟨b0, off, none⟩) 1 cap1) (.slice ao2 bo.len cap2) (.slice ao3 0 cap3))) := alloc_new _ _
  have g0 := hw.fr.same f0
  have hne := ne_pbld hw.bld
  have d0 := g0.cellN h0
  have d1 := g0.cellN h1
  have d2 := g0.cellN h2
  have d3 := g0.cellN h3
  have d4 := g0.cellN h4
  have d5 := g0.cellN h5
  have d6 := g0.cellN h6
  have hlen : (txA txS x kx 1).length ≤ 140737488355328 := by
    have := congrArg List.length (show _ = T from hT)
    simp only [List.length_append] at this
    omega
  have ke := exprText_any x kx (exV x (.slice aok kx.len capk)) (w.alloc (stO 3 name (.slice (some ⟨b0, off, none⟩) 1 cap1) (.slice ao2 bo.len cap2) (.slice ao3 0 cap3))) ho hx hs hsl ⟨aok, capk, rfl, hk.keep g0⟩ (tab_fr ht g0) hlen
  generalize txA txS x kx 1 = E at ke hT hlen
  have m2 : cap2 ≤ 9223372036854775807 := by have := hbo.2.1; unfold maxLen at this; omega
  have m2' := hbo.1
  obtain ⟨T1, hT1'⟩ : ∃ T1, acc ++ Te.pad n ++ [[105, 102, 32], E, [32, 123]].flatten ++ [10] = T1 := ⟨_, rfl⟩
  have hT1 : Hidden (acc ++ Te.pad n ++ [[105, 102, 32], E, [32, 123]].flatten ++ [10] = T1) := hT1'
  clear hT1'
  have rT1 : Hidden (T1 ++ (stT txS bo (n + 1) ++ (pad n ++ [125, 10])) = T) := by
    show _ = T
    rw [← (show _ = T from hT), ← (show _ = T1 from hT1)]
    simp
  have lT1 : T1.length ≤ 140737488355328 := app_le (show _ = T from rT1) hl
  obtain ⟨T2, hT2'⟩ : ∃ T2, T1 ++ stT txS bo (n + 1) = T2 := ⟨_, rfl⟩
  have hT2 : Hidden (T1 ++ stT txS bo (n + 1) = T2) := hT2'
  clear hT2'
  have rT2 : Hidden (T2 ++ (pad n ++ [125, 10]) = T) := by
    show _ = T
    rw [← (show _ = T from rT1), ← (show _ = T2 from hT2)]
    simp
  have lT2 : T2.length ≤ 140737488355328 := app_le (show _ = T from rT2) hl
  clear hT hz
  go_enter Tryz.func129, Tryz.ntmps129
  go_wp2_with fail
  go_at_call 48
  refine ke.mono ?_
  rintro e w1 ⟨rfl, f1⟩
  have kl := line_new2 n [[105, 102, 32], E, [32, 123]] acc T1 w0 w1 B b (hw.quiet (f0.same f1)) hn (by simp) (hT1) lT1
  go_wp2_with fail
  go_at_call 37
  refine kl.mono ?_
  rintro e w2 ⟨rfl, p2, g2⟩
  have hb2 := bs_keep g2 (f1.heap hbx (fun f => f)) hne (by decide)
  obtain ⟨c0, c1, c2, c3, c4⟩ := st_box hb2
  have kbw3 := hB ((n : Int) + 1) (by omega) ao2 cap2 w0 w2 B b T1 T2 hbo ht p2 hT2 lT2
  go_wp2_with fail
  go_at_call 82
  refine kbw3.mono ?_
  rintro e w3 ⟨rfl, pw3, g3⟩
  obtain ⟨c0, c1, c2, c3, c4⟩ := st_box (bs_keep g3 hb2 hne (by decide))
  have kz := line_new2 n [[125]] T2 T w0 w3 B b (pw3) hn (by simp) (by rw [← (show _ = T from rT2)]; simp) hl
  go_wp2_with fail
  go_at_call 37
  refine kz.mono ?_
  rintro e w4 ⟨rfl, p4, g4⟩
  go_wp2_with fail
  go_end0
  exact ⟨rfl, p4, bs_then (f0.same f1) (bs_trans g2 (bs_trans g3 g4))⟩
set_option maxRecDepth 20000 in
set_option maxHeartbeats 4000000 in
theorem stmt_3b (n : Nat) (hn : n ≤ 1000000) (name : Bs) (acc T : Bs) (w0 w : World) (B b : Nat) (ht : F.Tab w0) (hw : PW w0 B b acc w) (ao2 ao3 : Option Addr) (bo el : Sts) (cap2 cap3 : Nat) (x : EH) (kx : Exs) (b0 off cap1 : Nat) (aok : Option Addr) (capk : Nat) (ho : OkE x) (hx : OkX kx) (hs : ShE x kx.len) (hsl : ShL kx)
    (hk : ExL w0 aok capk kx) (h0 : w0.cell? ⟨b0, off, none⟩ = some (ci x.kind)) (h1 : w0.cell? ⟨b0, off + 1, none⟩ = some (ci x.op)) (h2 : w0.cell? ⟨b0, off + 2, none⟩ = some (ct x.mod)) (h3 : w0.cell? ⟨b0, off + 3, none⟩ = some (ct x.name)) (h4 : w0.cell? ⟨b0, off + 4, none⟩ = some (ci x.vt)) (h5 : w0.cell? ⟨b0, off + 5, none⟩ = some (.int .u64 x.vb)) (h6 : w0.cell? ⟨b0, off + 6, none⟩ = some (.slice aok kx.len capk))
    (hB : BlkW bo (n + 1)) (hbo : StL w0 ao2 cap2 bo) (hL : BlkW el (n + 1)) (hel : StL w0 ao3 cap3 el) (hz : 0 < el.len)
    (hT : Hidden (acc ++ (pad n ++ ([105, 102, 32] ++ txA txS x kx 1 ++ [32, 123, 10]) ++ stT txS bo (n + 1) ++ (pad n ++ [125, 32, 101, 108, 115, 101, 32, 123, 10]) ++ stT txS el (n + 1) ++ (pad n ++ [125, 10])) = T)) (hl : T.length ≤ 140737488355328) :
    Calls Tryz.prog 129 #[bp b, stV ⟨3, name⟩ (.slice (some ⟨b0, off, none⟩) 1 cap1) (.slice ao2 bo.len cap2) (.slice ao3 el.len cap3), ci (n : Int)] w fun e w' => e = .returned (.tuple #[]) ∧ PWrote w0 B b T w w' := by
  have f0 := Fr.alloc (fun _ => False) w (stO 3 name (.slice (some ⟨b0, off, none⟩) 1 cap1) (.slice ao2 bo.len cap2) (.slice ao3 el.len cap3))
  have hbx : Hidden ((w.alloc (stO 3 name (.slice (some ⟨b0, off, none⟩) 1 cap1) (.slice ao2 bo.len cap2) (.slice ao3 el.len cap3))).heap[w.heap.size]? = some (stO 3 name (.slice (some ⟨b0, off, none⟩) 1 cap1) (.slice ao2 bo.len cap2) (.slice ao3 el.len cap3))) := alloc_new _ _
  have g0 := hw.fr.same f0
  have hne := ne_pbld hw.bld
  have d0 := g0.cellN h0
  have d1 := g0.cellN h1
  have d2 := g0.cellN h2
  have d3 := g0.cellN h3
  have d4 := g0.cellN h4
  have d5 := g0.cellN h5
  have d6 := g0.cellN h6
  have hlen : (txA txS x kx 1).length ≤ 140737488355328 := by
    have := congrArg List.length (show _ = T from hT)
    simp only [List.length_append] at this
    omega
  have ke := exprText_any x kx (exV x (.slice aok kx.len capk)) (w.alloc (stO 3 name (.slice (some ⟨b0, off, none⟩) 1 cap1) (.slice ao2 bo.len cap2) (.slice ao3 el.len cap3))) ho hx hs hsl ⟨aok, capk, rfl, hk.keep g0⟩ (tab_fr ht g0) hlen
  generalize txA txS x kx 1 = E at ke hT hlen
  have m2 : cap2 ≤ 9223372036854775807 := by have := hbo.2.1; unfold maxLen at this; omega
  have m2' := hbo.1
  have m3 : cap3 ≤ 9223372036854775807 := by have := hel.2.1; unfold maxLen at this; omega
  have m3' := hel.1
  obtain ⟨T1, hT1'⟩ : ∃ T1, acc ++ Te.pad n ++ [[105, 102, 32], E, [32, 123]].flatten ++ [10] = T1 := ⟨_, rfl⟩
  have hT1 : Hidden (acc ++ Te.pad n ++ [[105, 102, 32], E, [32, 123]].flatten ++ [10] = T1) := hT1'
  clear hT1'
  have rT1 : Hidden (T1 ++ (stT txS bo (n + 1) ++ ((pad n ++ [125, 32, 101, 108, 115, 101, 32, 123, 10]) ++ (stT txS el (n + 1) ++ (pad n ++ [125, 10])))) = T) := by
    show _ = T
    rw [← (show _ = T from hT), ← (show _ = T1 from hT1)]
    simp
  have lT1 : T1.length ≤ 140737488355328 := app_le (show _ = T from rT1) hl
  obtain ⟨T2, hT2'⟩ : ∃ T2, T1 ++ stT txS bo (n + 1) = T2 := ⟨_, rfl⟩
  have hT2 : Hidden (T1 ++ stT txS bo (n + 1) = T2) := hT2'
  clear hT2'
  have rT2 : Hidden (T2 ++ ((pad n ++ [125, 32, 101, 108, 115, 101, 32, 123, 10]) ++ (stT txS el (n + 1) ++ (pad n ++ [125, 10]))) = T) := by
    show _ = T
    rw [← (show _ = T from rT1), ← (show _ = T2 from hT2)]
    simp
  have lT2 : T2.length ≤ 140737488355328 := app_le (show _ = T from rT2) hl
  obtain ⟨T3, hT3'⟩ : ∃ T3, T2 ++ Te.pad n ++ [[125, 32, 101, 108, 115, 101, 32, 123]].flatten ++ [10] = T3 := ⟨_, rfl⟩
  have hT3 : Hidden (T2 ++ Te.pad n ++ [[125, 32, 101, 108, 115, 101, 32, 123]].flatten ++ [10] = T3) := hT3'
  clear hT3'
  have rT3 : Hidden (T3 ++ (stT txS el (n + 1) ++ (pad n ++ [125, 10])) = T) := by
    show _ = T
    rw [← (show _ = T from rT2), ← (show _ = T3 from hT3)]
    simp
  have lT3 : T3.length ≤ 140737488355328 := app_le (show _ = T from rT3) hl
  obtain ⟨T4, hT4'⟩ : ∃ T4, T3 ++ stT txS el (n + 1) = T4 := ⟨_, rfl⟩
  have hT4 : Hidden (T3 ++ stT txS el (n + 1) = T4) := hT4'
  clear hT4'
  have rT4 : Hidden (T4 ++ (pad n ++ [125, 10]) = T) := by
    show _ = T
    rw [← (show _ = T from rT3), ← (show _ = T4 from hT4)]
    simp
  have lT4 : T4.length ≤ 140737488355328 := app_le (show _ = T from rT4) hl
  clear hT
  go_enter Tryz.func129, Tryz.ntmps129
  go_wp2_with fail
  go_at_call 48
  refine ke.mono ?_
  rintro e w1 ⟨rfl, f1⟩
  have kl := line_new2 n [[105, 102, 32], E, [32, 123]] acc T1 w0 w1 B b (hw.quiet (f0.same f1)) hn (by simp) (hT1) lT1
  go_wp2_with fail
  go_at_call 37
  refine kl.mono ?_
  rintro e w2 ⟨rfl, p2, g2⟩
  have hb2 := bs_keep g2 (f1.heap hbx (fun f => f)) hne (by decide)
  obtain ⟨c0, c1, c2, c3, c4⟩ := st_box hb2
  have kbw3 := hB ((n : Int) + 1) (by omega) ao2 cap2 w0 w2 B b T1 T2 hbo ht p2 hT2 lT2
  go_wp2_with fail
  go_at_call 82
  refine kbw3.mono ?_
  rintro e w3 ⟨rfl, pw3, g3⟩
  have hb3 := bs_keep g3 hb2 hne (by decide)
  obtain ⟨c0, c1, c2, c3, c4⟩ := st_box hb3
  have ke2 := line_new2 n [[125, 32, 101, 108, 115, 101, 32, 123]] T2 T3 w0 w3 B b (pw3) hn (by simp) (hT3) lT3
  go_wp2_with fail
  go_at_call 37
  refine ke2.mono ?_
  rintro e w4 ⟨rfl, p4, g4⟩
  obtain ⟨c0, c1, c2, c3, c4⟩ := st_box (bs_keep g4 hb3 hne (by decide))
  have kbw5 := hL ((n : Int) + 1) (by omega) ao3 cap3 w0 w4 B b T3 T4 hel ht p4 hT4 lT4
  go_wp2_with fail
  go_at_call 82
  refine kbw5.mono ?_
  rintro e w5 ⟨rfl, pw5, g5⟩
  have kz := line_new2 n [[125]] T4 T w0 w5 B b (pw5) hn (by simp) (by rw [← (show _ = T from rT4)]; simp) hl
  go_wp2_with fail
  go_at_call 37
  refine kz.mono ?_
  rintro e w6 ⟨rfl, p6, g6⟩
  go_wp2_with fail
  go_end0
  exact ⟨rfl, p6, bs_then (f0.same f1) (bs_trans g2 (bs_trans g3 (bs_trans g4 (bs_trans g5 g6))))⟩
end Go.Proofs.YteijjaabngkbjaaGreatDoor
